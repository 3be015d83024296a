import Derived.Test.YtefoipjbbfcjhaaDoorDh
namespace Go.Proofs.YtefoipjbbfcjhaaDoor
open Go.RowKit
set_option linter.unusedVariables false
set_option linter.unusedSimpArgs false

theorem ba_ne {a b : ByteArray} (h : ¬ a = b) : (a.toList == b.toList) = false := by
  rw [ByteArray.toList_eq, ByteArray.toList_eq, beq_eq_false_iff_ne]
  exact fun e => h (ByteArray.ext (Array.toList_inj.1 e))
set_option maxRecDepth 100000 in
set_option maxHeartbeats 4000000 in
theorem lengths_abs (la lb : Nat) (av bv : Nat → Nat) (L : Nat → Nat → Nat) (G : Nat → Nat → Nat → Nat → Nat) (aA aB : Option Addr) (cA cB : Nat) (w : World) (EV : Nat → ByteArray) (HE : Hid (∀ i j, i < la → j < lb → (EV (av i) = EV (bv j) ↔ av i = bv j))) (HL : Hid (LcF la lb av bv L G)) (HA : Hid (Chs w aA la (fun i => .string (EV (av i))))) (HB : Hid (Chs w aB lb (fun i => .string (EV (bv i))))) (h1 : la ≤ 2000) (h2 : lb ≤ 2000) :
    Calls Tryd.prog 18 #[.slice aA la cA, .slice aB lb cB] w fun e w' => ∃ T c, e = .returned (.slice (some ⟨T, 0, none⟩) (la + 1) c) ∧ ∃ Bl, Tab w w' w.heap.size T 3 .i64 0 (la + 1) (lb + 1) Bl L := by
  have mk2 := run_make_row' (P := Tryd.prog) 47 3 (.int .i64 0) 8 Tryd.underlying47 info3 rfl .i64 .i64 (lb + 1) (by omega) (by omega)
  have e2 : ((lb + 1 : Nat) : Int) = (lb : Int) + 1 := by omega
  rw [e2] at mk2
  have HP0 := Hid.mk' (Pre.start w (lb + 1))
  clear e2
  generalize hW0 : w.heap.size = N at *
  go_enter Tryd.func18, Tryd.ntmps18
  go_wp2
  go_loopw [5, 6] (fun l i wr => ∃ (n : Nat) (Bl : Nat → Nat), n ≤ la + 1 ∧ i = .int .i64 (n : Int) ∧ Hid (Pre w wr N l n (lb + 1) Bl)) (fun _ i _ => la + 1 - (intOf i).toNat)
  case atStart => exact ⟨0, _, by omega, rfl, HP0⟩
  case round =>
    obtain ⟨n, Bl, hn, rfl, HP⟩ := hrel
    clear HP0
    by_cases hnl : n ≤ la
    · have hnl' : (n : Int) ≤ (la : Int) := by omega
      obtain ⟨W1, hW1⟩ : ∃ W, W = wr.alloc (.cells (madeCells #[.int .i64 0] (lb + 1)) 3) := ⟨_, rfl⟩
      have O1 := Hid.mk' (HP.out.own.alloc (.cells (madeCells #[.int .i64 0] (lb + 1)) 3))
      have hd1 : Hid (n + 1 ≤ maxLen) := by show _ ≤ _; unfold maxLen; omega
      have hd2 : Hid ((n + 1) * 24 ≤ 140737488355328) := by show _ ≤ _; omega
      have hbs : Hid (N ≤ (wr.alloc (.cells (madeCells #[.int .i64 0] (lb + 1)) 3)).heap.size) := by have := HP.out.bN; show _ ≤ _; simp; omega
      clear hW1
      go_wp2_with (first
        | (with_reducible refine at_bs ?_; refine wpList_push ei42 (.tmp 19) (.tmp 15) 20 rfl rfl rfl rfl rfl rfl (.slice (some ⟨wr.heap.size, 0, none⟩) (lb + 1) (lb + 1)) rfl rfl N _ n _ O1.out rfl rfl (one_sl _ _ _) hd1.out hd2.out hbs.out ?_)
        | fail)
      intro v3 w3 own3 gr3 hb3
      have HP3 := Hid.mk' (HP.out.next own3 gr3 (by simpa using hb3))
      clear own3 gr3 hb3 O1 HP hd1 hd2 hbs
      go_wp2
      go_roundw
      case rel => exact ⟨n + 1, _, by omega, by go_num, HP3⟩
      case measure => simp [intOf]; omega
    · have hnl' : ¬ (n : Int) ≤ (la : Int) := by omega
      obtain rfl : n = la + 1 := by omega
      obtain ⟨T, cT, rfl, HT0⟩ := HP.out.tab (F := G la 0) (by omega) (fun p q hp hq => HL.out.zero p q hp)
      have HT1 : Hid (∃ Bl, Tab w wr N T 3 .i64 0 (la + 1) (lb + 1) Bl (G la 0)) := ⟨Bl, HT0⟩
      clear HT0 HP mk2
      go_wp2
      go_loopw [7] (fun i wr => ∃ (p : Nat) (Bl : Nat → Nat), p ≤ la ∧ i = .int .i64 ((p : Int) - 1) ∧ Hid (Tab w wr N T 3 .i64 0 (la + 1) (lb + 1) Bl (G p 0))) (fun i _ => (intOf i + 1).toNat)
      case atStart => exact HT1.out.elim fun Bl h => ⟨la, Bl, Nat.le_refl _, rfl, h⟩
      case round =>
        obtain ⟨p, Bl, hp, rfl, HT⟩ := hrel
        clear HT1
        cases p with
        | zero =>
          have h0 : ¬ (0 : Int) ≤ ((0 : Nat) : Int) - 1 := by omega
          go_wp2
          go_ret
          exact ⟨T, ⟨cT, rfl⟩, Bl, HT.out.congr fun p q hp hq => (HL.out.at' 0 0 p q (by omega)).symm⟩
        | succ i =>
          have ei : ((i + 1 : Nat) : Int) - 1 = (i : Int) := by omega
          rw [ei]
          clear ei
          have HT3 : Hid (∃ Bl, Tab w wr N T 3 .i64 0 (la + 1) (lb + 1) Bl (G i lb)) := ⟨_, HT.out.congr fun p q _ hq => HL.out.row i p q hq⟩
          clear HT
          go_wp2
          go_loopw [8] (fun j wr => ∃ (q : Nat) (Bl : Nat → Nat), q ≤ lb ∧ j = .int .i64 ((q : Int) - 1) ∧ Hid (Tab w wr N T 3 .i64 0 (la + 1) (lb + 1) Bl (G i q))) (fun j _ => (intOf j + 1).toNat)
          case atStart => exact HT3.out.elim fun Bl h => ⟨lb, Bl, Nat.le_refl _, rfl, h⟩
          case round =>
            obtain ⟨q, Bl, hq, rfl, HT⟩ := hrel
            clear HT3
            cases q with
            | zero =>
              have h0 : ¬ (0 : Int) ≤ ((0 : Nat) : Int) - 1 := by omega
              go_wp2
              go_roundw
              case rel => exact ⟨i, Bl, by omega, by go_num, HT⟩
              case measure => simp [intOf]
            | succ j =>
              have ej : ((j + 1 : Nat) : Int) - 1 = (j : Int) := by omega
              rw [ej]
              clear ej
              obtain ⟨ga, rfl, ca⟩ := HA.out _ (by rw [hW0]; exact HT.out.bel) i (by omega)
              obtain ⟨gb, rfl, cb⟩ := HB.out _ (by rw [hW0]; exact HT.out.bel) j (by omega)
              dsimp only at ca cb
              have c1 := HT.out.at (i := i) (Nat.zero_le _) (by omega)
              have c2 := HT.out.at (i := i + 1) (by omega) (by omega)
              have c3 := HT.out.cell (i := i + 1) (j := j + 1) (by omega) (by omega) (by omega)
              have c4 := HT.out.cell (i := i + 1) (j := j) (by omega) (by omega) (by omega)
              have c5 := HT.out.cell (i := i) (j := j + 1) (by omega) (by omega) (by omega)
              have c6 := HT.out.cell (i := i) (j := j) (by omega) (by omega) (by omega)
              have c7 := HT.out.free (i := i) (Nat.zero_le _) (by omega) j
              rw [HL.out.at' _ _ _ _ (by omega)] at c3 c4 c5
              have l1 := HL.out.le (i + 1) (j + 1)
              have l2 := HL.out.le (i + 1) j
              have l3 := HL.out.le i (j + 1)
              have HST : Hid (∀ x k, L i j = x → Tab w ((wr.drewN k).setCell ⟨Bl i, j, none⟩ (.int .i64 (x : Int))) N T 3 .i64 0 (la + 1) (lb + 1) Bl (G i j)) := fun x k hx => (HT.out.drew k).set x (Nat.zero_le _) (by omega) (fun p q _ => by rw [HL.out.step i j p q, hx])
              have HSM := Hid.mk' (HL.out.same i j (by omega) (by omega))
              have HDF := Hid.mk' (HL.out.diff i j (by omega) (by omega))
              generalize Bl i = b0 at *
              generalize Bl (i + 1) = b1 at *
              generalize G i (j + 1) i j = x00 at *
              generalize L (i + 1) (j + 1) = x11 at *
              generalize L (i + 1) j = x10 at *
              generalize L i (j + 1) = x01 at *
              have HEq := Hid.mk' (HE.out i j (by omega) (by omega))
              generalize av i = ac at *
              generalize bv j = bc at *
              by_cases hs : ac = bc
              · have hse : EV ac = EV bc := by rw [hs]
                have HST2 := Hid.mk' (fun k => HST.out (x11 + 1) k (HSM.out hs))
                rw [hse] at ca
                clear HST HSM HDF HT HEq hse hs
                generalize EV bc = eb at *
                go_wp2
                go_quiet (fail)
                go_wp2
                go_region
                all_goals go_wp2
                all_goals exact ⟨⟨j, Bl, by omega, by go_num, by exact HST2.out _⟩, by simp [intOf]⟩
              · have hse : ¬ EV ac = EV bc := fun e => hs (HEq.out.1 e)
                have HST2 := Hid.mk' (fun k => HST.out (max x10 x01) k (HDF.out hs))
                clear HST HSM HDF HT HEq hs
                generalize EV bc = eb at *
                generalize EV ac = ea at *
                have hse2 := ba_ne hse
                by_cases hge : x01 ≤ x10
                · have hge' : (x01 : Int) ≤ (x10 : Int) := by omega
                  rw [Nat.max_eq_left hge] at HST2
                  go_wp2
                  go_quiet (fail)
                  go_wp2
                  go_quiet (fail)
                  go_wp2
                  go_region
                  all_goals go_wp2
                  all_goals exact ⟨⟨j, Bl, by omega, by go_num, by exact HST2.out _⟩, by simp [intOf]⟩
                · have hge' : ¬ (x01 : Int) ≤ (x10 : Int) := by omega
                  rw [Nat.max_eq_right (by omega)] at HST2
                  go_wp2
                  go_quiet (fail)
                  go_wp2
                  go_quiet (fail)
                  go_wp2
                  go_region
                  all_goals go_wp2
                  all_goals exact ⟨⟨j, Bl, by omega, by go_num, by exact HST2.out _⟩, by simp [intOf]⟩
end Go.Proofs.YtefoipjbbfcjhaaDoor
