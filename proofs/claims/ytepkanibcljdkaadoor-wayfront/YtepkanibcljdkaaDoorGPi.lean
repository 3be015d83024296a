import Derived.Test.YtepkanibcljdkaaDoorGPf
namespace Go.Proofs.YtepkanibcljdkaaDoor
open Go.RowKit
set_option linter.unusedVariables false
set_option linter.unusedSimpArgs false

/-- The step at the front, as the reference reads it. -/
noncomputable def oneT (t : ByteArray) : St × Nat × Bool :=
  if K.V.by8 t 0 = 47 then (⟨1, (kyT (t.extract 1 t.size)).1, 0⟩, 1 + (kyT (t.extract 1 t.size)).2.1, (kyT (t.extract 1 t.size)).2.2)
  else if K.V.by8 t 0 = 126 then (⟨3, ⟨#[]⟩, ((nuT (t.extract 1 t.size)).1 : Int)⟩, 1 + (nuT (t.extract 1 t.size)).2.1, (nuT (t.extract 1 t.size)).2.2)
  else if K.V.by8 t 0 = 91 then
    (if (nuT (t.extract 1 t.size)).2.2 = false ∨ t.size ≤ 1 + (nuT (t.extract 1 t.size)).2.1 ∨ K.V.by8 t (1 + (nuT (t.extract 1 t.size)).2.1) ≠ 93 then (zSt, 1 + (nuT (t.extract 1 t.size)).2.1, false)
     else (⟨2, ⟨#[]⟩, ((nuT (t.extract 1 t.size)).1 : Int)⟩, 2 + (nuT (t.extract 1 t.size)).2.1, true))
  else (zSt, 0, false)
theorem kyT_any (s : ByteArray) (w : World) (hs : s.size ≤ 5000) (hU : Q.UB s) :
    Calls Tryd.prog 40 #[.string s] w fun e w' => e = .returned (.tuple #[.string (kyT s).1, .int .i64 ((kyT s).2.1 : Int), .bool (kyT s).2.2]) ∧ Below w.heap.size w w' := by
  unfold kyT
  by_cases h : 0 < s.size ∧ K.V.by8 s 0 = 34
  · rw [if_pos h]
    exact rkeyq_any s w hs h.1 h.2 hU
  · rw [if_neg h]
    exact (rkeyp_any s w hs h).mono fun e w' k => ⟨k.1, by rw [k.2]; exact Below.refl _ _⟩
theorem kyT_le (s : ByteArray) (hU : Q.UB s) : (kyT s).2.1 ≤ s.size := by
  have hp := plN_le s
  obtain ⟨u1, u2, _⟩ := hU
  unfold kyT
  split
  · unfold quT
    split
    · simp; omega
    · split
      · simp
      · simp; omega
  · unfold plT
    split
    · simp
    · split
      · simp; omega
      · simpa using hp
theorem nuT_le (s : ByteArray) : (nuT s).2.1 ≤ s.size ∧ (nuT s).1 ≤ 2147483647 := by
  have h := numP_le s 0 s.size 0 0
  unfold nuT
  split
  · simp
  · split
    · simp
      next h1 _ => 
        rcases Nat.eq_zero_or_pos s.size with h0 | h0
        · exact absurd (.inl h0) h1
        · exact h0
    · exact ⟨by omega, h.2.2.1 (by omega)⟩
theorem three_set {wx : World} {g : Nat} {t : TypeId} (C : Array Value) (hC : C.size = 3) (a b c : Value) (hg : wx.heap[g]? = some (.cells C t (0, 0))) : (((wx.setCell ⟨g, 0, none⟩ a).setCell ⟨g, 1, none⟩ b).setCell ⟨g, 2, none⟩ c).heap[g]? = some (.cells #[a, b, c] t (0, 0)) := by
  have h1 := heap_setCell_same wx g 0 _ t a hg
  have h2 := heap_setCell_same _ g 1 _ t b h1
  have h3 := heap_setCell_same _ g 2 _ t c h2
  rw [h3]
  obtain ⟨l⟩ := C
  match l, hC with
  | [x, y, z], _ => rfl
theorem res22 (tmps : Array Value) (w : World) (g : Nat) (t : TypeId) (C : Array Value) (hl : C.size = 3) (fr : Nat × Nat) (v u : Value) (hp : tmps.getD 2 undef = .pointer (some ⟨g, 0, none⟩)) (hv : tmps.getD 3 undef = v) (hu : tmps.getD 4 undef = u) (hg : w.heap[g]? = some (.cells C t fr)) :
    (results Tryd.f25 tmps).run Tryd.prog w = .ok (.tuple #[.agg C, v, u]) w := by
  have hp' : tmps[2]?.getD undef = .pointer (some ⟨g, 0, none⟩) := by simpa using hp
  have hv' : tmps[3]?.getD undef = v := by simpa using hv
  have hu' : tmps[4]?.getD undef = u := by simpa using hu
  simp [results, Tryd.results25, hp', hv', hu', asAddr, run_loadVar_row w g t 35 C fr _ hg Tryd.underlying35 rfl (by rw [hl]; exact sizeStep)]
set_option maxRecDepth 100000 in
set_option maxHeartbeats 1000000 in
theorem one_key (s : ByteArray) (w : World) (hs : s.size ≤ 5000) (h0 : 0 < s.size) (hc : K.V.by8 s 0 = 47) (hU : Q.UB (s.extract 1 s.size)) :
    Calls Tryd.prog 25 #[.string s] w fun e w' => e = .returned (.tuple #[.agg (oneT s).1.c, .int .i64 ((oneT s).2.1 : Int), .bool (oneT s).2.2]) ∧ Below w.heap.size w w' := by
  have ix0 : ∀ wx, (Instr.index 9 (.string s) (.int .i64 0)).run Tryd.prog wx = .ok (.int .u8 (K.V.by8 s 0 : Int)) wx := fun wx => K.V.index_str s 0 wx h0
  have SL : ∀ wx, (Instr.slice 9 (.string s) (some (.int .i64 1)) none none).run Tryd.prog wx = .ok (.string (s.extract 1 s.size)) wx := sl_from s 1 h0
  have zt : (s.extract 1 s.size).size = s.size - 1 := Lib.ext_size s 1
  obtain ⟨W0, hW0⟩ : ∃ W, W = w.alloc (.cells zSt.c 35) := ⟨_, rfl⟩
  have bw : Below w.heap.size w W0 := by rw [hW0]; exact (Below.refl _ _).alloc (Nat.le_refl _) _
  have g := heap_alloc_new w (.cells zSt.c 35)
  rw [← hW0] at g
  have HX : Hid (∀ w1, Below W0.heap.size W0 w1 → w1.heap[w.heap.size]? = some (.cells zSt.c 35 (0, 0)) ∧ Below w.heap.size w w1) := fun w1 hb =>
    ⟨by rw [hb.block _ (Array.getElem?_eq_some_iff.1 g).1]; exact g, bw.trans (hb.mono bw.size)⟩
  have HW0 := Hid.mk' hW0
  have H := Hid.mk' (kyT_any (s.extract 1 s.size) W0 (by omega) hU)
  have hle := kyT_le (s.extract 1 s.size) hU
  have HRR : Hid (oneT s = (⟨1, (kyT (s.extract 1 s.size)).1, 0⟩, 1 + (kyT (s.extract 1 s.size)).2.1, (kyT (s.extract 1 s.size)).2.2)) := by show _ = _; unfold oneT; rw [if_pos hc]
  rw [hc] at ix0
  generalize oneT s = RR at *
  generalize kyT (s.extract 1 s.size) = R at *
  generalize s.extract 1 s.size = t at *
  obtain ⟨ky, m, ok⟩ := R
  simp only [] at H hle HRR
  clear g bw hW0 hc hU
  go_enter Tryd.func25, Tryd.ntmps25
  go_wp2_with fail
  first | rw [show w.alloc (.cells #[.int .u8 0, .string ⟨#[]⟩, .int .i64 0] 35) = W0 from HW0.out.symm] | rw [← HW0.out]
  refine H.out.mono ?_
  rintro e w1 ⟨rfl, b1⟩
  obtain ⟨hg, bb⟩ := HX.out w1 b1
  have c0 : w1.cell? ⟨w.heap.size, 0, none⟩ = some (.int .u8 0) := (cell_of_row _ _ 0 _ _ _ hg).trans rfl
  have c1 : w1.cell? ⟨w.heap.size, 1, none⟩ = some (.string ⟨#[]⟩) := (cell_of_row _ _ 1 _ _ _ hg).trans rfl
  have c2 : w1.cell? ⟨w.heap.size, 2, none⟩ = some (.int .i64 0) := (cell_of_row _ _ 2 _ _ _ hg).trans rfl
  have f0 : w1.frozen? ⟨w.heap.size, 0, none⟩ = false := frozen_of_row w1 _ 0 _ _ hg
  have f1 : w1.frozen? ⟨w.heap.size, 1, none⟩ = false := frozen_of_row w1 _ 1 _ _ hg
  have f2 : w1.frozen? ⟨w.heap.size, 2, none⟩ = false := frozen_of_row w1 _ 2 _ _ hg
  have BB := Hid.mk' bb
  have HGG : Hid (∀ a b c, (((w1.setCell ⟨w.heap.size, 0, none⟩ a).setCell ⟨w.heap.size, 1, none⟩ b).setCell ⟨w.heap.size, 2, none⟩ c).heap[w.heap.size]? = some (.cells #[a, b, c] 35 (0, 0))) := fun a b c => three_set _ rfl a b c hg
  have HBB : Hid (∀ a b c, Below w.heap.size w (((w1.setCell ⟨w.heap.size, 0, none⟩ a).setCell ⟨w.heap.size, 1, none⟩ b).setCell ⟨w.heap.size, 2, none⟩ c)) := fun a b c => ((BB.out.setCell (Nat.le_refl _) _).setCell (Nat.le_refl _) _).setCell (Nat.le_refl _) _
  clear HX b1 bb hg
  clear H
  go_wp2
  exact bodyPost_ret (res22 _ _ w.heap.size 35 _ rfl (0, 0) _ _ rfl rfl rfl (HGG.out _ _ _)) rfl ⟨by rw [HRR.out]; simp [St.c], HBB.out _ _ _⟩
set_option maxRecDepth 100000 in
set_option maxHeartbeats 1000000 in
theorem one_kid (s : ByteArray) (w : World) (hs : s.size ≤ 5000) (h0 : 0 < s.size) (hc : K.V.by8 s 0 = 126) :
    Calls Tryd.prog 25 #[.string s] w fun e w' => e = .returned (.tuple #[.agg (oneT s).1.c, .int .i64 ((oneT s).2.1 : Int), .bool (oneT s).2.2]) ∧ Below w.heap.size w w' := by
  have ix0 : ∀ wx, (Instr.index 9 (.string s) (.int .i64 0)).run Tryd.prog wx = .ok (.int .u8 (K.V.by8 s 0 : Int)) wx := fun wx => K.V.index_str s 0 wx h0
  have SL : ∀ wx, (Instr.slice 9 (.string s) (some (.int .i64 1)) none none).run Tryd.prog wx = .ok (.string (s.extract 1 s.size)) wx := sl_from s 1 h0
  have zt : (s.extract 1 s.size).size = s.size - 1 := Lib.ext_size s 1
  obtain ⟨W0, hW0⟩ : ∃ W, W = w.alloc (.cells zSt.c 35) := ⟨_, rfl⟩
  have bw : Below w.heap.size w W0 := by rw [hW0]; exact (Below.refl _ _).alloc (Nat.le_refl _) _
  have g := heap_alloc_new w (.cells zSt.c 35)
  rw [← hW0] at g
  have HX : Hid (∀ w1, Below W0.heap.size W0 w1 → w1.heap[w.heap.size]? = some (.cells zSt.c 35 (0, 0)) ∧ Below w.heap.size w w1) := fun w1 hb =>
    ⟨by rw [hb.block _ (Array.getElem?_eq_some_iff.1 g).1]; exact g, bw.trans (hb.mono bw.size)⟩
  have HW0 := Hid.mk' hW0
  have H := Hid.mk' (rnumber_any (s.extract 1 s.size) W0 (by omega))
  obtain ⟨hle, hn⟩ := nuT_le (s.extract 1 s.size)
  have HRR : Hid (oneT s = (⟨3, ⟨#[]⟩, ((nuT (s.extract 1 s.size)).1 : Int)⟩, 1 + (nuT (s.extract 1 s.size)).2.1, (nuT (s.extract 1 s.size)).2.2)) := by show _ = _; unfold oneT; rw [if_neg (by omega), if_pos hc]
  rw [hc] at ix0
  generalize oneT s = RR at *
  generalize nuT (s.extract 1 s.size) = R at *
  generalize s.extract 1 s.size = t at *
  obtain ⟨n, m, ok⟩ := R
  simp only [] at H hle HRR hn
  clear g bw hW0 hc
  go_enter Tryd.func25, Tryd.ntmps25
  go_wp2_with fail
  first | rw [show w.alloc (.cells #[.int .u8 0, .string ⟨#[]⟩, .int .i64 0] 35) = W0 from HW0.out.symm] | rw [← HW0.out]
  refine H.out.mono ?_
  rintro e w1 ⟨rfl, b0⟩
  have b1 : Below W0.heap.size W0 w1 := by rw [b0]; exact Below.refl _ _
  clear b0
  obtain ⟨hg, bb⟩ := HX.out w1 b1
  have c0 : w1.cell? ⟨w.heap.size, 0, none⟩ = some (.int .u8 0) := (cell_of_row _ _ 0 _ _ _ hg).trans rfl
  have c1 : w1.cell? ⟨w.heap.size, 1, none⟩ = some (.string ⟨#[]⟩) := (cell_of_row _ _ 1 _ _ _ hg).trans rfl
  have c2 : w1.cell? ⟨w.heap.size, 2, none⟩ = some (.int .i64 0) := (cell_of_row _ _ 2 _ _ _ hg).trans rfl
  have f0 : w1.frozen? ⟨w.heap.size, 0, none⟩ = false := frozen_of_row w1 _ 0 _ _ hg
  have f1 : w1.frozen? ⟨w.heap.size, 1, none⟩ = false := frozen_of_row w1 _ 1 _ _ hg
  have f2 : w1.frozen? ⟨w.heap.size, 2, none⟩ = false := frozen_of_row w1 _ 2 _ _ hg
  have BB := Hid.mk' bb
  have HGG : Hid (∀ a b c, (((w1.setCell ⟨w.heap.size, 0, none⟩ a).setCell ⟨w.heap.size, 1, none⟩ b).setCell ⟨w.heap.size, 2, none⟩ c).heap[w.heap.size]? = some (.cells #[a, b, c] 35 (0, 0))) := fun a b c => three_set _ rfl a b c hg
  have HBB : Hid (∀ a b c, Below w.heap.size w (((w1.setCell ⟨w.heap.size, 0, none⟩ a).setCell ⟨w.heap.size, 1, none⟩ b).setCell ⟨w.heap.size, 2, none⟩ c)) := fun a b c => ((BB.out.setCell (Nat.le_refl _) _).setCell (Nat.le_refl _) _).setCell (Nat.le_refl _) _
  clear HX b1 bb hg
  clear H
  go_wp2
  exact bodyPost_ret (res22 _ _ w.heap.size 35 _ rfl (0, 0) _ _ rfl rfl rfl (HGG.out _ _ _)) rfl ⟨by rw [HRR.out]; simp [St.c], HBB.out _ _ _⟩
set_option maxRecDepth 100000 in
set_option maxHeartbeats 1000000 in
theorem one_idx (s : ByteArray) (w : World) (hs : s.size ≤ 5000) (h0 : 0 < s.size) (hc : K.V.by8 s 0 = 91) :
    Calls Tryd.prog 25 #[.string s] w fun e w' => e = .returned (.tuple #[.agg (oneT s).1.c, .int .i64 ((oneT s).2.1 : Int), .bool (oneT s).2.2]) ∧ Below w.heap.size w w' := by
  have ix0 : ∀ wx, (Instr.index 9 (.string s) (.int .i64 0)).run Tryd.prog wx = .ok (.int .u8 (K.V.by8 s 0 : Int)) wx := fun wx => K.V.index_str s 0 wx h0
  have SL : ∀ wx, (Instr.slice 9 (.string s) (some (.int .i64 1)) none none).run Tryd.prog wx = .ok (.string (s.extract 1 s.size)) wx := sl_from s 1 h0
  have zt : (s.extract 1 s.size).size = s.size - 1 := Lib.ext_size s 1
  obtain ⟨W0, hW0⟩ : ∃ W, W = w.alloc (.cells zSt.c 35) := ⟨_, rfl⟩
  have bw : Below w.heap.size w W0 := by rw [hW0]; exact (Below.refl _ _).alloc (Nat.le_refl _) _
  have g := heap_alloc_new w (.cells zSt.c 35)
  rw [← hW0] at g
  have HX : Hid (∀ w1, Below W0.heap.size W0 w1 → w1.heap[w.heap.size]? = some (.cells zSt.c 35 (0, 0)) ∧ Below w.heap.size w w1) := fun w1 hb =>
    ⟨by rw [hb.block _ (Array.getElem?_eq_some_iff.1 g).1]; exact g, bw.trans (hb.mono bw.size)⟩
  have HW0 := Hid.mk' hW0
  have H := Hid.mk' (rnumber_any (s.extract 1 s.size) W0 (by omega))
  obtain ⟨hle, hn⟩ := nuT_le (s.extract 1 s.size)
  have HRR : Hid (oneT s = if (nuT (s.extract 1 s.size)).2.2 = false ∨ s.size ≤ 1 + (nuT (s.extract 1 s.size)).2.1 ∨ K.V.by8 s (1 + (nuT (s.extract 1 s.size)).2.1) ≠ 93 then (zSt, 1 + (nuT (s.extract 1 s.size)).2.1, false)
     else (⟨2, ⟨#[]⟩, ((nuT (s.extract 1 s.size)).1 : Int)⟩, 2 + (nuT (s.extract 1 s.size)).2.1, true)) := by show _ = _; unfold oneT; rw [if_neg (by omega), if_neg (by omega), if_pos hc]
  have HXX : Hid (∀ k, k < s.size → ∀ wx, (Instr.index 9 (.string s) (.int .i64 (k : Int))).run Tryd.prog wx = .ok (.int .u8 (K.V.by8 s k : Int)) wx) := fun k h wx => K.V.index_str s k wx h
  rw [hc] at ix0
  generalize oneT s = RR at *
  generalize nuT (s.extract 1 s.size) = R at *
  generalize s.extract 1 s.size = t at *
  obtain ⟨n, m, ok⟩ := R
  simp only [] at H hle HRR hn
  clear g bw hW0 hc
  go_enter Tryd.func25, Tryd.ntmps25
  go_wp2_with fail
  first | rw [show w.alloc (.cells #[.int .u8 0, .string ⟨#[]⟩, .int .i64 0] 35) = W0 from HW0.out.symm] | rw [← HW0.out]
  refine H.out.mono ?_
  rintro e w1 ⟨rfl, b0⟩
  have b1 : Below W0.heap.size W0 w1 := by rw [b0]; exact Below.refl _ _
  clear b0
  obtain ⟨hg, bb⟩ := HX.out w1 b1
  have c0 : w1.cell? ⟨w.heap.size, 0, none⟩ = some (.int .u8 0) := (cell_of_row _ _ 0 _ _ _ hg).trans rfl
  have c1 : w1.cell? ⟨w.heap.size, 1, none⟩ = some (.string ⟨#[]⟩) := (cell_of_row _ _ 1 _ _ _ hg).trans rfl
  have c2 : w1.cell? ⟨w.heap.size, 2, none⟩ = some (.int .i64 0) := (cell_of_row _ _ 2 _ _ _ hg).trans rfl
  have f0 : w1.frozen? ⟨w.heap.size, 0, none⟩ = false := frozen_of_row w1 _ 0 _ _ hg
  have f1 : w1.frozen? ⟨w.heap.size, 1, none⟩ = false := frozen_of_row w1 _ 1 _ _ hg
  have f2 : w1.frozen? ⟨w.heap.size, 2, none⟩ = false := frozen_of_row w1 _ 2 _ _ hg
  have BB := Hid.mk' bb
  have HGG : Hid (∀ a b c, (((w1.setCell ⟨w.heap.size, 0, none⟩ a).setCell ⟨w.heap.size, 1, none⟩ b).setCell ⟨w.heap.size, 2, none⟩ c).heap[w.heap.size]? = some (.cells #[a, b, c] 35 (0, 0))) := fun a b c => three_set _ rfl a b c hg
  have HBB : Hid (∀ a b c, Below w.heap.size w (((w1.setCell ⟨w.heap.size, 0, none⟩ a).setCell ⟨w.heap.size, 1, none⟩ b).setCell ⟨w.heap.size, 2, none⟩ c)) := fun a b c => ((BB.out.setCell (Nat.le_refl _) _).setCell (Nat.le_refl _) _).setCell (Nat.le_refl _) _
  clear HX b1 bb hg
  clear H
  cases ok with
  | false =>
    have HR2 : Hid (RR = (zSt, 1 + m, false)) := by show _ = _; rw [HRR.out, if_pos (.inl rfl)]
    clear HXX
    go_wp2
    exact bodyPost_ret (res22 _ _ w.heap.size 35 _ rfl (0, 0) _ _ rfl rfl rfl (HGG.out _ _ _)) rfl ⟨by rw [HR2.out]; simp [St.c, zSt], HBB.out _ _ _⟩
  | true =>
    by_cases h1 : s.size ≤ 1 + m
    · have h1' : (s.size : Int) ≤ 1 + (m : Int) := by omega
      have HR2 : Hid (RR = (zSt, 1 + m, false)) := by show _ = _; rw [HRR.out, if_pos (.inr (.inl h1))]
      clear HXX
      go_wp2
      exact bodyPost_ret (res22 _ _ w.heap.size 35 _ rfl (0, 0) _ _ rfl rfl rfl (HGG.out _ _ _)) rfl ⟨by rw [HR2.out]; simp [St.c, zSt], HBB.out _ _ _⟩
    · have h1' : ¬ (s.size : Int) ≤ 1 + (m : Int) := by omega
      have ix := HXX.out (1 + m) (by omega)
      have e1 : ((1 + m : Nat) : Int) = 1 + (m : Int) := by omega
      rw [e1] at ix
      by_cases h93 : K.V.by8 s (1 + m) = 93
      · have HR2 : Hid (RR = (⟨2, ⟨#[]⟩, (n : Int)⟩, 2 + m, true)) := by show _ = _; rw [HRR.out, if_neg (by simp [h93]; omega)]
        rw [h93] at ix
        clear HXX h93
        go_wp2
        exact bodyPost_ret (res22 _ _ w.heap.size 35 _ rfl (0, 0) _ _ rfl rfl rfl (HGG.out _ _ _)) rfl ⟨by rw [HR2.out]; simp [St.c], HBB.out _ _ _⟩
      · have HR2 : Hid (RR = (zSt, 1 + m, false)) := by show _ = _; rw [HRR.out, if_pos (.inr (.inr h93))]
        have h93b : ((K.V.by8 s (1 + m) : Int) != 93) = true := bne_iff_ne.2 (by omega)
        clear HXX h93
        generalize K.V.by8 s (1 + m) = c at *
        go_wp2
        exact bodyPost_ret (res22 _ _ w.heap.size 35 _ rfl (0, 0) _ _ rfl rfl rfl (HGG.out _ _ _)) rfl ⟨by rw [HR2.out]; simp [St.c, zSt], HBB.out _ _ _⟩
end Go.Proofs.YtepkanibcljdkaaDoor

namespace Go.Proofs.YtepkanibcljdkaaDoor
open Go.RowKit
set_option linter.unusedVariables false
set_option linter.unusedSimpArgs false

set_option maxRecDepth 100000 in
set_option maxHeartbeats 1000000 in
theorem one_bad (s : ByteArray) (w : World) (hs : s.size ≤ 5000) (h0 : 0 < s.size) (h1 : K.V.by8 s 0 ≠ 47) (h2 : K.V.by8 s 0 ≠ 126) (h3 : K.V.by8 s 0 ≠ 91) :
    Calls Tryd.prog 25 #[.string s] w fun e w' => e = .returned (.tuple #[.agg (oneT s).1.c, .int .i64 ((oneT s).2.1 : Int), .bool (oneT s).2.2]) ∧ Below w.heap.size w w' := by
  have ix0 : ∀ wx, (Instr.index 9 (.string s) (.int .i64 0)).run Tryd.prog wx = .ok (.int .u8 (K.V.by8 s 0 : Int)) wx := fun wx => K.V.index_str s 0 wx h0
  have HRR : Hid (oneT s = (zSt, 0, false)) := by show _ = _; unfold oneT; rw [if_neg h1, if_neg h2, if_neg h3]
  have g := heap_alloc_new w (.cells zSt.c 35)
  have HGG : Hid (∀ a b c, ((((w.alloc (.cells zSt.c 35)).setCell ⟨w.heap.size, 0, none⟩ a).setCell ⟨w.heap.size, 1, none⟩ b).setCell ⟨w.heap.size, 2, none⟩ c).heap[w.heap.size]? = some (.cells #[a, b, c] 35 (0, 0))) := fun a b c => three_set _ rfl a b c g
  have HBB : Hid (∀ a b c, Below w.heap.size w ((((w.alloc (.cells zSt.c 35)).setCell ⟨w.heap.size, 0, none⟩ a).setCell ⟨w.heap.size, 1, none⟩ b).setCell ⟨w.heap.size, 2, none⟩ c)) := fun a b c => (((((Below.refl _ _).alloc (Nat.le_refl _) _).setCell (Nat.le_refl _) _).setCell (Nat.le_refl _) _).setCell (Nat.le_refl _) _)
  generalize oneT s = RR at *
  generalize K.V.by8 s 0 = c at *
  have b1 : ((c : Int) == 47) = false := beq_eq_false_iff_ne.2 (by omega)
  have b2 : ((c : Int) == 126) = false := beq_eq_false_iff_ne.2 (by omega)
  have b3 : ((c : Int) == 91) = false := beq_eq_false_iff_ne.2 (by omega)
  clear g h1 h2 h3
  go_enter Tryd.func25, Tryd.ntmps25
  go_wp2
  first
    | exact bodyPost_ret (res22 _ _ w.heap.size 35 _ rfl (0, 0) _ _ rfl rfl rfl (HGG.out _ _ _)) rfl ⟨by rw [HRR.out]; simp [St.c, zSt], HBB.out _ _ _⟩
    | exact bodyPost_ret (res22 _ _ w.heap.size 35 _ rfl (0, 0) _ _ rfl rfl rfl (heap_alloc_new _ _)) rfl ⟨by rw [HRR.out]; simp [St.c, zSt], (Below.refl _ _).alloc (Nat.le_refl _) _⟩
theorem one_any (s : ByteArray) (w : World) (hs : s.size ≤ 5000) (h0 : 0 < s.size) (hU : Q.UB (s.extract 1 s.size)) :
    Calls Tryd.prog 25 #[.string s] w fun e w' => e = .returned (.tuple #[.agg (oneT s).1.c, .int .i64 ((oneT s).2.1 : Int), .bool (oneT s).2.2]) ∧ Below w.heap.size w w' := by
  by_cases h1 : K.V.by8 s 0 = 47
  · exact one_key s w hs h0 h1 hU
  · by_cases h2 : K.V.by8 s 0 = 126
    · exact one_kid s w hs h0 h2
    · by_cases h3 : K.V.by8 s 0 = 91
      · exact one_idx s w hs h0 h3
      · exact one_bad s w hs h0 h1 h2 h3
theorem oneT_le (t : ByteArray) (h0 : 0 < t.size) (hU : Q.UB (t.extract 1 t.size)) : (oneT t).2.1 ≤ t.size ∧ ((oneT t).2.2 = true → 1 ≤ (oneT t).2.1) := by
  have zt : (t.extract 1 t.size).size = t.size - 1 := Lib.ext_size t 1
  have h1 := kyT_le _ hU
  have h2 := (nuT_le (t.extract 1 t.size)).1
  unfold oneT
  split
  · simp; omega
  · split
    · simp; omega
    · split
      · split
        · simp; omega
        · next h => simp only [not_or] at h; simp; omega
      · simp
/-- The reference's reading of a way from a place on. -/
noncomputable def rR (s : ByteArray) : Nat → Nat → List St → List St × Int × Nat
  | 0, _, acc => (acc, 0, 0)
  | f + 1, i, acc => if i < s.size then (if acc.length = 32 then ([], 130, i) else if (oneT (s.extract i s.size)).2.2 = false then ([], 130, i + (oneT (s.extract i s.size)).2.1) else rR s f (i + (oneT (s.extract i s.size)).2.1) (acc ++ [(oneT (s.extract i s.size)).1])) else (acc, 0, 0)
end Go.Proofs.YtepkanibcljdkaaDoor

namespace Go.Proofs.YtepkanibcljdkaaDoor
open Go.RowKit
set_option linter.unusedVariables false
set_option linter.unusedSimpArgs false

set_option maxRecDepth 100000 in
set_option maxHeartbeats 1000000 in
theorem rparse_go (s : ByteArray) (w : World) (hs : s.size ≤ 5000) (h0 : 0 < s.size) (h47 : (s.toList == [47]) = false) (hU : ∀ t : ByteArray, t.size ≤ 5000 → Q.UB t) :
    Calls Tryd.prog 15 #[.string s] w fun e w' => ∃ v, e = .returned (.tuple #[v, .int .i64 (rR s (s.size + 1) 0 []).2.1, .int .i64 ((rR s (s.size + 1) 0 []).2.2 : Int)]) ∧ OwnS w' w.heap.size v (rR s (s.size + 1) 0 []).1 ∧ Below w.heap.size w w' := by
  obtain ⟨R, hR⟩ : ∃ R, R = rR s (s.size + 1) 0 [] := ⟨_, rfl⟩
  rw [← hR]
  have HR : Hid (rR s (s.size + 1) 0 [] = R) := hR.symm
  have HUB := Hid.mk' hU
  have e0 : s.toList.isEmpty = false := K.V.not_empty s h0
  have h5 : ¬ (5000 : Int) < (s.size : Int) := by omega
  have ON := Hid.mk' (OwnS.nil w w.heap.size)
  have NN : Hid (∀ wx, OwnS wx w.heap.size (.slice none 0 0) []) := fun wx => OwnS.nil wx w.heap.size
  clear hR hU
  go_enter Tryd.func15, Tryd.ntmps15
  go_wp2
  go_loopw [5, 6] (fun v i wr => ∃ (k f : Nat) (acc : List St), i = .int .i64 k ∧ k ≤ s.size ∧ Hid (s.size + 1 ≤ k + f) ∧ Hid (acc.length ≤ 32) ∧ Hid (OwnS wr w.heap.size v acc) ∧ Hid (Below w.heap.size w wr) ∧ Hid (rR s f k acc = R)) (fun _ i _ => s.size - (intOf i).toNat)
  case atStart => exact ⟨0, s.size + 1, [], rfl, by omega, (by omega : _ ≤ _), (by simp : _ ≤ _), ON, Below.refl _ _, HR⟩
  case round =>
    obtain ⟨k, f, acc, rfl, hk, hf, hal, HO, HW, HF⟩ := hrel
    clear HR ON
    obtain ⟨f', rfl⟩ : ∃ f', f = f' + 1 := ⟨f - 1, by have := hf.out; omega⟩
    obtain ⟨va, vc, rfl, _, _⟩ := HO.out.slice
    by_cases hks : k < s.size
    · have hks' : (k : Int) < (s.size : Int) := by omega
      by_cases h32 : acc.length = 32
      · have HRR : Hid (R = ([], 130, k)) := by show _ = _; rw [← HF.out]; unfold rR; rw [if_pos hks, if_pos h32]
        rw [h32]
        clear HF hf hal HO
        go_wp2
        go_ret3
        exact ⟨_, by rw [HRR.out]; rfl, by rw [HRR.out]; exact NN.out _, HW.out⟩
      · have h32' : ((acc.length : Int) == 32) = false := beq_eq_false_iff_ne.2 (by omega)
        have zt : (s.extract k s.size).size = s.size - k := Lib.ext_size s k
        have hub : Q.UB ((s.extract k s.size).extract 1 (s.extract k s.size).size) := HUB.out _ (by rw [Lib.ext_size]; omega)
        have SL := sl_from s k (by omega)
        have H1 := Hid.mk' (one_any (s.extract k s.size) wr (by omega) (by omega) hub)
        obtain ⟨hle, hpos⟩ := oneT_le (s.extract k s.size) (by omega) hub
        have HG2 : Hid (((oneT (s.extract k s.size)).2.2 = false → R = ([], 130, k + (oneT (s.extract k s.size)).2.1)) ∧ ((oneT (s.extract k s.size)).2.2 = true → rR s f' (k + (oneT (s.extract k s.size)).2.1) (acc ++ [(oneT (s.extract k s.size)).1]) = R)) := by
          refine ⟨fun h => ?_, fun h => ?_⟩
          · rw [← HF.out]; unfold rR; rw [if_pos hks, if_neg h32, if_pos h]
          · rw [← HF.out]; rw [rR]; rw [if_pos hks, if_neg h32, if_neg (by rw [h]; decide)]
        generalize s.extract k s.size = t at *
        generalize oneT t = T at *
        obtain ⟨p, m, ok⟩ := T
        obtain ⟨pk, ps, pn⟩ := p
        simp only [] at H1 hle hpos HG2
        clear HF hub
        obtain ⟨al, hale⟩ : ∃ n, n = acc.length := ⟨_, rfl⟩
        have HAL := Hid.mk' hale
        rw [← hale] at h32' HO ⊢
        have hal32 : al ≤ 32 := by rw [hale]; exact hal.out
        clear hale h32 hal
        unfold St.c at H1
        simp only [] at H1
        go_wp2_with fail
        refine H1.out.mono ?_
        rintro e w1 ⟨rfl, b1⟩
        have BW1 : Hid (Below w.heap.size w w1) := HW.out.trans (b1.mono HW.out.size)
        have O1 : Hid (OwnS w1 w.heap.size (.slice va al vc) acc) := HO.out.below b1
        clear H1 b1 HO
        cases ok with
        | false =>
          have HRR := Hid.mk' (HG2.out.1 rfl)
          have BWB : Hid (Below w.heap.size w (w1.alloc (.cells #[.int .u8 pk, .string ps, .int .i64 pn] 35))) := BW1.out.alloc BW1.out.size _
          clear HG2
          go_wp2
          go_ret3
          exact ⟨_, by rw [HRR.out]; rfl, by rw [HRR.out]; exact NN.out _, BWB.out⟩
        | true =>
          have HF2 := Hid.mk' (HG2.out.2 rfl)
          have hp1 := hpos rfl
          obtain ⟨W1, hW1⟩ : ∃ W, W = w1.alloc (.cells #[.int .u8 pk, .string ps, .int .i64 pn] 35) := ⟨_, rfl⟩
          have bw1 : Below w1.heap.size w1 W1 := by rw [hW1]; exact (Below.refl _ _).alloc (Nat.le_refl _) _
          obtain ⟨W2, hW2⟩ : ∃ W2, W2 = W1.alloc (.cells (St.c ⟨pk, ps, pn⟩) 35) := ⟨_, rfl⟩
          have be2 : Below W1.heap.size W1 W2 := by rw [hW2]; exact (Below.refl _ _).alloc (Nat.le_refl _) _
          have z1 : W1.heap.size = w1.heap.size + 1 := by rw [hW1]; simp
          have O2 : Hid (OwnS W2 w.heap.size (.slice va al vc) acc) := (O1.out.below bw1).below be2
          have M2 : Hid (Sts W2 (some ⟨w1.heap.size + 1, 0, none⟩) [⟨pk, ps, pn⟩]) := by show Sts _ _ _; rw [hW2, ← z1]; exact sts_lit W1 ⟨pk, ps, pn⟩
          have S2 : Hid (acc.length + ([⟨pk, ps, pn⟩] : List St).length ≤ 4398046510976 + 1) := by show _ ≤ _; rw [← HAL.out]; simp; omega
          have BW2 : Hid (Below w.heap.size w W2) := (BW1.out.trans (bw1.mono BW1.out.size)).trans (be2.mono (Nat.le_trans BW1.out.size bw1.size))
          have B2 : Hid (w.heap.size ≤ W2.heap.size) := BW2.out.size
          have HW1 := Hid.mk' hW1
          have HW2 := Hid.mk' hW2
          have F2 : Hid (s.size + 1 ≤ k + m + f') := (by have := hf.out; omega : _ ≤ _)
          have L2 : Hid ((acc ++ [(⟨pk, ps, pn⟩ : St)]).length ≤ 32) := by
            show _ ≤ _
            rw [List.length_append, ← HAL.out]
            have : ¬ al = 32 := fun e => by rw [e] at h32'; simp at h32'
            simp
            omega
          clear HG2 hpos hW1 bw1 hW2 be2 O1 BW1
          go_wp2_with (first
            | (refine wpList_bs1 rfl (.tmp 39) rfl (St.c ⟨pk, ps, pn⟩) rfl rfl ?_; rw [← HW1.out, ← HW2.out]; simp only [z1])
            | (at_builtin; refine wpList_appS rfl (.tmp 38) (.tmp 40) rfl w.heap.size (.slice va al vc) acc rfl O2.out (some ⟨w1.heap.size + 1, 0, none⟩) 1 1 [⟨pk, ps, pn⟩] rfl rfl M2.out (fun h => by cases h) S2.out B2.out ?_)
            | fail)
          intro v3 w3 own3 gr3
          have be3 : Below w.heap.size w w3 := BW2.out.grown gr3 B2.out (fun k hk => (World.ownsRow.lt O2.out k hk).1)
          obtain ⟨va3, vc3, rfl, _, _⟩ := own3.slice
          obtain ⟨q3, hq3⟩ : ∃ q, q = (acc ++ [(⟨pk, ps, pn⟩ : St)]).length := ⟨_, rfl⟩
          rw [← hq3] at own3 ⊢
          have O3 := Hid.mk' own3
          have BW3 := Hid.mk' be3
          clear own3 gr3 be3 O2 M2 S2 B2 BW2 HW1 HW2 HAL hf hq3
          go_wp2
          go_roundw
          case rel => exact ⟨k + m, f', acc ++ [⟨pk, ps, pn⟩], by go_num, by omega, F2, L2, O3, BW3, HF2⟩
          case measure => simp [intOf]; omega
    · have hks' : ¬ (k : Int) < (s.size : Int) := by omega
      have HRR : Hid (R = (acc, 0, 0)) := by show _ = _; rw [← HF.out]; unfold rR; rw [if_neg hks]
      clear HF hf hal
      have HO2 := Hid.mk' HO.out
      generalize acc.length = al at *
      go_wp2
      go_ret3
      exact ⟨_, by rw [HRR.out]; rfl, by rw [HRR.out]; exact HO2.out, HW.out⟩
end Go.Proofs.YtepkanibcljdkaaDoor

