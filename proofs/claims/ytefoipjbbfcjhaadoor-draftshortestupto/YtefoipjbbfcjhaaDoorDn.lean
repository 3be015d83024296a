import Derived.Test.YtefoipjbbfcjhaaDoorDg
import Derived.Test.YtefoipjbbfcjhaaDoorDj
namespace Go.Proofs.YtefoipjbbfcjhaaDoor
open Go.RowKit
set_option linter.unusedVariables false
set_option linter.unusedSimpArgs false

/-- The cells of stretches. -/
def kV (l : List (Nat × Nat × Nat)) : List Value := l.flatMap fun s => [.int .i64 (s.1 : Int), .int .i64 (s.2.1 : Int), .int .i64 (s.2.2 : Int)]
theorem kV_app (l m : List (Nat × Nat × Nat)) : kV (l ++ m) = kV l ++ kV m := by simp [kV]
theorem Tab.grown {w0 wr w' : World} {base T ti lo n m : Nat} {k : IntKind} {B : Nat → Nat} {F : Nat → Nat → Nat} (h : Tab w0 wr base T ti k lo n m B F) (hb : Below wr.heap.size wr w') : Tab w0 w' base T ti k lo n m B F := by
  have hlt : ∀ i, lo ≤ i → i < n → B i < wr.heap.size := fun i h1 h2 => (h.row i h1 h2).lt
  exact ⟨h.bel.trans (hb.mono (Nat.le_trans h.bT (Nat.le_of_lt h.lT))), h.bT, Nat.lt_of_lt_of_le h.lT hb.size, fun i hi => (hb.cell (p := ⟨T, i, none⟩) h.lT).trans (h.top i hi), fun i => (hb.frozen (p := ⟨T, i, none⟩) h.lT).trans (h.fz i), fun i h1 h2 => (h.row i h1 h2).of_block (hb.block _ (hlt i h1 h2)), h.inj, h.sep, h.low⟩
theorem one_i3 (a b c : Int) : ∀ u ∈ (Value.agg #[.int .i64 a, .int .i64 b, .int .i64 c]).cells.toList, u.oneCell' = true := by simp [Value.cells, Value.oneCell']
theorem own_base {w : World} {base b2 e sz n : Nat} {v : Value} {xs : List Value} (h : w.ownsRow base e sz v n xs) (hb : b2 ≤ base) : w.ownsRow b2 e sz v n xs := by
  refine ⟨h.1, ?_⟩
  rcases h.2 with hn | ⟨g, cap, cur, hv, hg, r⟩
  · exact .inl hn
  · exact .inr ⟨g, cap, cur, hv, Nat.le_trans hb hg, r⟩
set_option maxRecDepth 100000 in
set_option maxHeartbeats 4000000 in
theorem keptC_any (A B : List Nat) (aA aB : Option Addr) (cA cB : Nat) (w : World) (hA : Rd w aA (rV A)) (hB : Rd w aB (rV B)) (h1 : A.length ≤ 2000) (h2 : B.length ≤ 2000) :
    Calls Tryd.prog 15 #[.slice aA A.length cA, .slice aB B.length cB] w fun e w' => ∃ v, e = .returned v ∧ w'.ownsRow w.heap.size 57 3 v (kept A B (A.length + B.length) 0 0).length (kV (kept A B (A.length + B.length) 0 0)) ∧ Below w.heap.size w w' := by
  have HL := Hid.mk' (longest_abs A.length B.length (fun i => A.getD i 0) (fun j => B.getD j 0) (lc A B) (fil A B) aA aB cA cB w (lcF A B) (rd_chs hA) (rd_chs hB) h1 h2)
  have HCA : Hid (Chs w aA A.length (fun i => .int .i32 ((A.getD i 0 : Nat) : Int))) := rd_chs hA
  have HCB : Hid (Chs w aB B.length (fun i => .int .i32 ((B.getD i 0 : Nat) : Int))) := rd_chs hB
  obtain ⟨KK, hKK⟩ : ∃ x, kept A B (A.length + B.length) 0 0 = x := ⟨_, rfl⟩
  have HK : Hid (KK = [] ++ kept A B (A.length + B.length - 0 - 0) 0 0) := by show _ = _; rw [← hKK]; simp
  rw [hKK]
  have HKE : Hid (∀ f i j, ¬ (i < A.length ∧ j < B.length) → kept A B f i j = []) := fun f i j h => kept_end h
  have HKS : Hid (∀ i j, i < A.length → j < B.length → A.getD i 0 = B.getD j 0 → kept A B (A.length + B.length - i - j) i j = (i, j, 1) :: kept A B (A.length + B.length - (i + 1) - (j + 1)) (i + 1) (j + 1)) := fun i j hi hj h => kept_same hi hj (by simpa [List.getD, hi, hj] using h)
  have HKA : Hid (∀ i j, i < A.length → j < B.length → ¬ A.getD i 0 = B.getD j 0 → lc A B i (j + 1) ≤ lc A B (i + 1) j → kept A B (A.length + B.length - i - j) i j = kept A B (A.length + B.length - (i + 1) - j) (i + 1) j) := fun i j hi hj h hl => kept_away hi hj (by simpa [List.getD, hi, hj] using h) hl
  have HKI : Hid (∀ i j, i < A.length → j < B.length → ¬ A.getD i 0 = B.getD j 0 → ¬ lc A B i (j + 1) ≤ lc A B (i + 1) j → kept A B (A.length + B.length - i - j) i j = kept A B (A.length + B.length - i - (j + 1)) i (j + 1)) := fun i j hi hj h hl => kept_in hi hj (by simpa [List.getD, hi, hj] using h) hl
  have HLE := Hid.mk' (lc_le A B)
  generalize hla : A.length = la at *
  generalize hlb : B.length = lb at *
  clear hA hB hKK hla hlb
  have N0 := Hid.mk' (World.ownsRow_nil w w.heap.size 57 3)
  go_enter Tryd.func15, Tryd.ntmps15
  go_wp2_with fail
  refine HL.out.mono ?_
  rintro e W ⟨rfl, Bl, HTab⟩
  have HT := Hid.mk' HTab
  have HWB := Hid.mk' HTab.bel
  clear HTab HL
  go_wp2
  go_loopw [6, 7, 8] (fun v x y wr => ∃ (i j : Nat) (K : List (Nat × Nat × Nat)), i ≤ la ∧ j ≤ lb ∧ K.length ≤ i ∧ x = .int .i64 (i : Int) ∧ y = .int .i64 (j : Int) ∧ Hid (wr.ownsRow W.heap.size 57 3 v K.length (kV K)) ∧ Hid (Below W.heap.size W wr) ∧ Hid (KK = K ++ kept A B (la + lb - i - j) i j)) (fun _ x y _ => la + lb - (intOf x).toNat - (intOf y).toNat)
  case atStart => exact ⟨0, 0, [], by omega, by omega, by simp, rfl, rfl, World.ownsRow_nil _ _ _ _, Below.refl _ _, HK⟩
  case round =>
    obtain ⟨i, j, K, hi, hj, hKi, rfl, rfl, HO, HB, HKK⟩ := hrel
    clear HK N0
    have HBw : Hid (Below w.heap.size w wr) := HWB.out.trans (HB.out.mono HWB.out.size)
    by_cases hgo : i < la ∧ j < lb
    · obtain ⟨q1, q2⟩ := hgo
      have q1' : (i : Int) < (la : Int) := by omega
      have q2' : (j : Int) < (lb : Int) := by omega
      obtain ⟨ga, rfl, ca⟩ := HCA.out _ HBw.out i q1
      obtain ⟨gb, rfl, cb⟩ := HCB.out _ HBw.out j q2
      dsimp only at ca cb
      have HTw := HT.out.grown HB.out
      have c1 := HTw.at (i := i) (Nat.zero_le _) (by omega)
      have c2 := HTw.at (i := i + 1) (Nat.zero_le _) (by omega)
      have c4 := HTw.cell (i := i + 1) (j := j) (Nat.zero_le _) (by omega) (by omega)
      have c5 := HTw.cell (i := i) (j := j + 1) (Nat.zero_le _) (by omega) (by omega)
      have l2 := HLE.out (i + 1) j
      have l3 := HLE.out i (j + 1)
      have HS := Hid.mk' (HKS.out i j q1 q2)
      have HAw := Hid.mk' (HKA.out i j q1 q2)
      have HIn := Hid.mk' (HKI.out i j q1 q2)
      clear HTw
      generalize Bl i = b0 at *
      generalize Bl (i + 1) = b1 at *
      generalize A.getD i 0 = ac at *
      generalize B.getD j 0 = bc at *
      by_cases hs : ac = bc
      · subst hs
        have HK2 : Hid (KK = (K ++ [(i, j, 1)]) ++ kept A B (la + lb - (i + 1) - (j + 1)) (i + 1) (j + 1)) := by show _ = _; rw [HKK.out, HS.out rfl]; simp
        have hd1 : Hid (K.length + 1 ≤ maxLen) := by show _ ≤ _; unfold maxLen; omega
        have hd2 : Hid ((K.length + 1) * 24 ≤ 140737488355328) := by show _ ≤ _; omega
        have hl3 : Hid ((K ++ [(i, j, 1)]).length ≤ i + 1) := by show _ ≤ _; simp; omega
        have HO2 : Hid (∀ n, (wr.drewN n).ownsRow W.heap.size 57 3 _ K.length (kV K)) := fun n => HO.out
        have HB2 : Hid (∀ n, Below W.heap.size W (wr.drewN n)) := fun n => below_drewN HB.out n
        clear HS HAw HIn HKK c1 c2 c4 c5 l2 l3 HBw
        generalize hKl : K.length = kl at *
        go_wp2
        go_quiet (fail)
        have HOn := Hid.mk' (HO2.out nq)
        have HBn := Hid.mk' (HB2.out nq)
        have hbs := Hid.mk' HBn.out.size
        generalize wr.drewN nq = W1 at *
        clear HO HB HO2 HB2
        go_wp2_with (first
          | (with_reducible refine at_bs ?_; refine wpList_push ei39 (.tmp 37) (.tmp 34) 38 rfl rfl rfl rfl rfl rfl (.agg #[.int .i64 (i : Int), .int .i64 (j : Int), .int .i64 1]) rfl rfl W.heap.size _ kl (kV K) HOn.out rfl rfl (one_i3 _ _ _) hd1.out hd2.out hbs.out ?_)
          | fail)
        intro v3 w3 own3 gr3 _
        have HB3 : Hid (Below W.heap.size W w3) := HBn.out.grown gr3 hbs.out (fun k hk => (World.ownsRow.lt HOn.out k hk).1)
        have HO3 : Hid (w3.ownsRow W.heap.size 57 3 v3 (K ++ [(i, j, 1)]).length (kV (K ++ [(i, j, 1)]))) := by
          show World.ownsRow _ _ _ _ _ _ _
          rw [List.length_append, hKl, kV_app]
          exact own3
        clear own3 gr3 HOn HBn hbs hd1 hd2 hKl
        go_wp2
        go_roundw
        case rel => exact ⟨i + 1, j + 1, K ++ [(i, j, 1)], by omega, by omega, hl3.out, by go_num, by go_num, HO3, HB3, HK2⟩
        case measure => simp [intOf]; omega
      · have hs' : ¬ (ac : Int) = (bc : Int) := by omega
        by_cases hge : lc A B i (j + 1) ≤ lc A B (i + 1) j
        · have HK2 : Hid (KK = K ++ kept A B (la + lb - (i + 1) - j) (i + 1) j) := by show _ = _; rw [HKK.out, HAw.out hs hge]
          have hge' : ((lc A B i (j + 1) : Nat) : Int) ≤ ((lc A B (i + 1) j : Nat) : Int) := by omega
          clear HS HAw HIn HKK hs hge
          generalize lc A B i (j + 1) = x01 at *
          generalize lc A B (i + 1) j = x10 at *
          go_wp2
          go_quiet (fail)
          go_wp2
          go_quiet (fail)
          go_wp2
          go_roundw
          case rel => exact ⟨i + 1, j, K, by omega, by omega, by omega, by go_num, by go_num, HO, below_drewN HB.out _, HK2⟩
          case measure => simp [intOf]; omega
        · have HK2 : Hid (KK = K ++ kept A B (la + lb - i - (j + 1)) i (j + 1)) := by show _ = _; rw [HKK.out, HIn.out hs hge]
          have hge' : ¬ ((lc A B i (j + 1) : Nat) : Int) ≤ ((lc A B (i + 1) j : Nat) : Int) := by omega
          clear HS HAw HIn HKK hs hge
          generalize lc A B i (j + 1) = x01 at *
          generalize lc A B (i + 1) j = x10 at *
          go_wp2
          go_quiet (fail)
          go_wp2
          go_quiet (fail)
          go_wp2
          go_roundw
          case rel => exact ⟨i, j + 1, K, by omega, by omega, by omega, by go_num, by go_num, HO, below_drewN HB.out _, HK2⟩
          case measure => simp [intOf]; omega
    · have HKe : Hid (KK = K) := by show _ = _; rw [HKK.out, HKE.out _ _ _ hgo, List.append_nil]
      have HOw : Hid (wr.ownsRow w.heap.size 57 3 _ K.length (kV K)) := own_base HO.out HWB.out.size
      have H2 : (¬ i < la) ∨ (i < la ∧ ¬ j < lb) := by omega
      clear hgo HKK
      rcases H2 with q1 | ⟨q1, q2⟩
      · have q1' : ¬ (i : Int) < (la : Int) := by omega
        go_wp2
        go_ret
        exact ⟨_, rfl, by rw [HKe.out]; exact HOw.out, HBw.out⟩
      · have q1' : (i : Int) < (la : Int) := by omega
        have q2' : ¬ (j : Int) < (lb : Int) := by omega
        go_wp2
        go_ret
        exact ⟨_, rfl, by rw [HKe.out]; exact HOw.out, HBw.out⟩
end Go.Proofs.YtefoipjbbfcjhaaDoor
