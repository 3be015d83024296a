import Derived.Test.YtefoipjbbfcjhaaDoorDf
import Derived.WalkKit
import Derived.StillTail
namespace Go.Proofs.YtefoipjbbfcjhaaDoor
open Go.RowKit
set_option linter.unusedVariables false
set_option linter.unusedSimpArgs false

/-- What the two rows of characters say of the table, and how it is filled. -/
structure LcF (la lb : Nat) (a b : Nat → Nat) (L : Nat → Nat → Nat) (G : Nat → Nat → Nat → Nat → Nat) : Prop where
  same : ∀ i j, i < la → j < lb → a i = b j → L i j = L (i + 1) (j + 1) + 1
  diff : ∀ i j, i < la → j < lb → ¬ a i = b j → L i j = max (L (i + 1) j) (L i (j + 1))
  le : ∀ i j, L i j ≤ la
  zero : ∀ p q, p < la + 1 → G la 0 p q = 0
  row : ∀ i p q, q < lb + 1 → G i lb p q = G (i + 1) 0 p q
  step : ∀ i j p q, G i j p q = if p = i ∧ q = j then L i j else G i (j + 1) p q
  at' : ∀ i j p q, (i < p ∨ (i = p ∧ j ≤ q)) → G i j p q = L p q
  no : ∀ i p q, p < i → G i 0 p q = 0
theorem lcF (A B : List Nat) : LcF A.length B.length (fun i => A.getD i 0) (fun j => B.getD j 0) (lc A B) (fil A B) :=
  ⟨fun i j hi hj h => lc_same hi hj (by simpa [List.getD, hi, hj] using h), fun i j hi hj h => lc_diff hi hj (by simpa [List.getD, hi, hj] using h), fun i j => lc_le A B i j, fun p q hp => fil_zero A B p q hp,
   fun i p q hq => fil_row A B i p q hq, fun i j p q => fil_step A B i j p q, fun i j p q h => fil_at A B i j p q h, fun i p q h => by unfold fil; rw [if_neg (by omega)]⟩
/-- Characters, wherever nothing below has changed. -/
def Chs (w : World) (aA : Option Addr) (la : Nat) (f : Nat → Value) : Prop := ∀ wx, Below w.heap.size w wx → ∀ i, i < la → ∃ g, aA = some ⟨g, 0, none⟩ ∧ wx.cell? ⟨g, i, none⟩ = some (f i)
theorem rd_chs {w : World} {a : Option Addr} {A : List Nat} (h : Rd w a (rV A)) : Chs w a A.length (fun i => .int .i32 ((A.getD i 0 : Nat) : Int)) := fun wx hb i hi => h.below hb i _ (by simp [rV, List.getD, hi])
theorem rd_chsS {w : World} {a : Option Addr} {A : List Nat} (h : Rd w a (A.map fun n : Nat => Value.string (Utf8.encode (n : Int)))) : Chs w a A.length (fun i => .string (Utf8.encode ((A.getD i 0 : Nat) : Int))) := fun wx hb i hi => h.below hb i _ (by simp [List.getD, hi])
theorem set_alloc2 {w : World} {A : Array Value} {t : TypeId} {B : Obj} {i N : Nat} {v : Value} (h : w.heap.size = N) : ((w.alloc (.cells A t)).alloc B).setCell ⟨N, i, none⟩ v = (w.alloc (.cells (A.setIfInBounds i v) t)).alloc B := by
  subst h
  simp [go_sem]
set_option maxRecDepth 100000 in
set_option maxHeartbeats 4000000 in
theorem longest_abs (la lb : Nat) (av bv : Nat → Nat) (L : Nat → Nat → Nat) (G : Nat → Nat → Nat → Nat → Nat) (aA aB : Option Addr) (cA cB : Nat) (w : World) (HL : Hid (LcF la lb av bv L G)) (HA : Hid (Chs w aA la (fun i => .int .i32 (av i : Int)))) (HB : Hid (Chs w aB lb (fun i => .int .i32 (bv i : Int)))) (h1 : la ≤ 2000) (h2 : lb ≤ 2000) :
    Calls Tryd.prog 24 #[.slice aA la cA, .slice aB lb cB] w fun e w' => e = .returned (.slice (some ⟨w.heap.size, 0, none⟩) (la + 1) (la + 1)) ∧ ∃ Bl, Tab w w' w.heap.size w.heap.size 60 .u16 0 (la + 1) (lb + 1) Bl L := by
  have mk1 := run_make_row' (P := Tryd.prog) 58 61 (.slice none 0 0) 24 Tryd.underlying58 info61 rfl .i64 .i64 (la + 1) (by omega) (by omega)
  have mk2 := run_make_row' (P := Tryd.prog) 61 60 (.int .u16 0) 2 Tryd.underlying61 info60 rfl .i64 .i64 (lb + 1) (by omega) (by omega)
  have e1 : ((la + 1 : Nat) : Int) = (la : Int) + 1 := by omega
  have e2 : ((lb + 1 : Nat) : Int) = (lb : Int) + 1 := by omega
  rw [e1] at mk1
  rw [e2] at mk2
  have HT0 := Hid.mk' (Tab.start w 61 60 (la + 1) (lb + 1) .u16 (fun _ => 0) (G la 0))
  have b0 : Below (w.alloc (.cells (madeCells #[.slice none 0 0] (la + 1)) 61)).heap.size (w.alloc (.cells (madeCells #[.slice none 0 0] (la + 1)) 61)) ((w.alloc (.cells (madeCells #[.slice none 0 0] (la + 1)) 61)).alloc (.cells (madeCells #[.int .u16 0] (lb + 1)) 60)) := (Below.refl _ _).alloc (Nat.le_refl _) _
  have st1 : ((w.alloc (.cells (madeCells #[.slice none 0 0] (la + 1)) 61)).alloc (.cells (madeCells #[.int .u16 0] (lb + 1)) 60)).cell? ⟨w.heap.size, la, none⟩ = some (.slice none 0 0) := by
    have := HT0.out.top la (by omega)
    rw [if_neg (by omega)] at this
    exact (b0.cell (p := ⟨w.heap.size, la, none⟩) HT0.out.lT).trans this
  have st2 : ((w.alloc (.cells (madeCells #[.slice none 0 0] (la + 1)) 61)).alloc (.cells (madeCells #[.int .u16 0] (lb + 1)) 60)).frozen? ⟨w.heap.size, la, none⟩ = false :=
    (b0.frozen (p := ⟨w.heap.size, la, none⟩) HT0.out.lT).trans (HT0.out.fz la)
  have HT1 : Hid (∃ Bl, Tab w (((w.alloc (.cells (madeCells #[.slice none 0 0] (la + 1)) 61)).alloc (.cells (madeCells #[.int .u16 0] (lb + 1)) 60)).setCell ⟨w.heap.size, la, none⟩ (.slice (some ⟨w.heap.size + 1, 0, none⟩) (lb + 1) (lb + 1))) w.heap.size w.heap.size 60 .u16 la (la + 1) (lb + 1) Bl (G la 0)) := by
    have := HT0.out.more (p := la) (by omega) HT0.out.bel.size (fun q _ => HL.out.zero la q (by omega))
    rw [show (w.alloc (.cells (madeCells #[.slice none 0 0] (la + 1)) 61)).heap.size = w.heap.size + 1 by simp] at this
    exact ⟨_, this⟩
  clear e1 e2 b0 HT0
  generalize hW0 : w.heap.size = N at *
  go_enter Tryd.func24, Tryd.ntmps24
  go_wp2
  clear mk1 st1 st2
  go_loopw [6] (fun i wr => ∃ (p : Nat) (Bl : Nat → Nat), p ≤ la ∧ i = .int .i64 ((p : Int) - 1) ∧ Hid (Tab w wr N N 60 .u16 p (la + 1) (lb + 1) Bl (G p 0))) (fun i _ => (intOf i + 1).toNat)
  case atStart => exact HT1.out.elim fun Bl h => ⟨la, Bl, Nat.le_refl _, rfl, by
    rw [set_alloc2 (i := la) hW0] at h
    exact h⟩
  case round =>
    obtain ⟨p, Bl, hp, rfl, HT⟩ := hrel
    clear HT1
    cases p with
    | zero =>
      have h0 : ¬ (0 : Int) ≤ ((0 : Nat) : Int) - 1 := by omega
      go_wp2
      go_ret
      exact ⟨rfl, Bl, HT.out.congr fun p q hp hq => (HL.out.at' 0 0 p q (by omega)).symm⟩
    | succ i =>
      have ei : ((i + 1 : Nat) : Int) - 1 = (i : Int) := by omega
      rw [ei]
      clear ei
      have st1 : (wr.alloc (.cells (madeCells #[.int .u16 0] (lb + 1)) 60)).cell? ⟨N, i, none⟩ = some (.slice none 0 0) := by
        have := HT.out.top i (by omega)
        rw [if_neg (by omega)] at this
        exact (((Below.refl _ wr).alloc (Nat.le_refl _) _).cell (p := ⟨N, i, none⟩) HT.out.lT).trans this
      have st2 : (wr.alloc (.cells (madeCells #[.int .u16 0] (lb + 1)) 60)).frozen? ⟨N, i, none⟩ = false :=
        (((Below.refl _ wr).alloc (Nat.le_refl _) _).frozen (p := ⟨N, i, none⟩) HT.out.lT).trans (HT.out.fz i)
      have HT2 := Hid.mk' (HT.out.more (p := i) (by omega) (Nat.le_trans HT.out.bT (Nat.le_of_lt HT.out.lT)) (fun q _ => HL.out.no (i + 1) i q (by omega)))
      have HT3 : Hid (∃ Bl, Tab w ((wr.alloc (.cells (madeCells #[.int .u16 0] (lb + 1)) 60)).setCell ⟨N, i, none⟩ (.slice (some ⟨wr.heap.size, 0, none⟩) (lb + 1) (lb + 1))) N N 60 .u16 i (la + 1) (lb + 1) Bl (G i lb)) :=
        ⟨_, HT2.out.congr fun p q _ hq => HL.out.row i p q hq⟩
      clear HT HT2
      go_wp2
      clear st1 st2
      go_loopw [7] (fun j wr => ∃ (q : Nat) (Bl : Nat → Nat), q ≤ lb ∧ j = .int .i64 ((q : Int) - 1) ∧ Hid (Tab w wr N N 60 .u16 i (la + 1) (lb + 1) Bl (G i q))) (fun j _ => (intOf j + 1).toNat)
      case atStart => exact HT3.out.elim fun Bl h => ⟨lb, Bl, Nat.le_refl _, rfl, h⟩
      case round =>
        obtain ⟨q, Bl, hq, rfl, HT⟩ := hrel
        clear HT3
        cases q with
        | zero =>
          have h0 : ¬ (0 : Int) ≤ ((0 : Nat) : Int) - 1 := by omega
          go_wp2
          go_roundw
          case rel => exact ⟨i, Bl, by omega, by go_num, HT⟩
          case measure => simp [intOf]
        | succ j =>
          have ej : ((j + 1 : Nat) : Int) - 1 = (j : Int) := by omega
          rw [ej]
          clear ej
          obtain ⟨ga, rfl, ca⟩ := HA.out _ (by rw [hW0]; exact HT.out.bel) i (by omega)
          obtain ⟨gb, rfl, cb⟩ := HB.out _ (by rw [hW0]; exact HT.out.bel) j (by omega)
          dsimp only at ca cb
          have c1 := HT.out.at (i := i) (Nat.le_refl _) (by omega)
          have c2 := HT.out.at (i := i + 1) (by omega) (by omega)
          have c3 := HT.out.cell (i := i + 1) (j := j + 1) (by omega) (by omega) (by omega)
          have c4 := HT.out.cell (i := i + 1) (j := j) (by omega) (by omega) (by omega)
          have c5 := HT.out.cell (i := i) (j := j + 1) (by omega) (by omega) (by omega)
          have c6 := HT.out.cell (i := i) (j := j) (by omega) (by omega) (by omega)
          have c7 := HT.out.free (i := i) (Nat.le_refl _) (by omega) j
          rw [HL.out.at' _ _ _ _ (by omega)] at c3 c4 c5
          have l1 := HL.out.le (i + 1) (j + 1)
          have l2 := HL.out.le (i + 1) j
          have l3 := HL.out.le i (j + 1)
          have HST : Hid (∀ x k, L i j = x → Tab w ((wr.drewN k).setCell ⟨Bl i, j, none⟩ (.int .u16 (x : Int))) N N 60 .u16 i (la + 1) (lb + 1) Bl (G i j)) := fun x k hx => (HT.out.drew k).set x (Nat.le_refl _) (by omega) (fun p q _ => by rw [HL.out.step i j p q, hx])
          have HSM := Hid.mk' (HL.out.same i j (by omega) (by omega))
          have HDF := Hid.mk' (HL.out.diff i j (by omega) (by omega))
          generalize Bl i = b0 at *
          generalize Bl (i + 1) = b1 at *
          generalize G i (j + 1) i j = x00 at *
          generalize L (i + 1) (j + 1) = x11 at *
          generalize L (i + 1) j = x10 at *
          generalize L i (j + 1) = x01 at *
          generalize av i = ac at *
          generalize bv j = bc at *
          by_cases hs : ac = bc
          · subst hs
            have HST2 := Hid.mk' (fun k => HST.out (x11 + 1) k (HSM.out rfl))
            clear HST HSM HDF HT
            go_wp2
            go_quiet (fail)
            go_wp2
            go_region
            all_goals go_wp2
            all_goals exact ⟨⟨j, Bl, by omega, by go_num, by exact HST2.out _⟩, by simp [intOf]⟩
          · have hs' : ¬ (ac : Int) = (bc : Int) := by omega
            have HST2 := Hid.mk' (fun k => HST.out (max x10 x01) k (HDF.out hs))
            clear HST HSM HDF HT
            go_wp2
            go_quiet (fail)
            go_wp2
            go_region
            all_goals go_wp2
            all_goals exact ⟨⟨j, Bl, by omega, by go_num, by have em : ((max x10 x01 : Nat) : Int) = (if x10 < x01 then (x01 : Int) else (x10 : Int)) := (by split <;> omega); rw [← em]; exact HST2.out _⟩, by simp [intOf]⟩
end Go.Proofs.YtefoipjbbfcjhaaDoor
