import Derived.Test.YthlcmijekgjgjaaDoorRc
namespace Go.Proofs.YthlcmijekgjgjaaDoor
open Go.RowKit
set_option linter.unusedVariables false
set_option linter.unusedSimpArgs false

theorem resKey (tmps : Array Value) (w : World) (g : Nat) (t : TypeId) (l : List UInt8) (hl : l.length = 32) (fr : Nat × Nat) (v : Value) (hp : tmps.getD 4 undef = .pointer (some ⟨g, 0, none⟩)) (hv : tmps.getD 5 undef = v) (hg : w.heap[g]? = some (.cells (kcs l).toArray t fr)) :
    (results Tryd.f8 tmps).run Tryd.prog w = .ok (.tuple #[.agg (kcs l).toArray, v]) w := by
  rw [results_cell_tmp Tryd.results8 tmps Tryd.prog w, hp, hv]
  have := run_loadVar_row (P := Tryd.prog) w g t 24 (kcs l).toArray fr _ hg Tryd.underlying24 rfl (by rw [List.size_toArray, kcs_len, hl]; exact s24)
  simp [asAddr, this, Result.andThen]
theorem kcs_all (l : List UInt8) : (kcs l).toArray.all (·.oneCell') = true := by rw [Array.all_eq_true']; intro v hv; exact kcs_one l v (by simpa using hv)
set_option maxRecDepth 100000 in
set_option maxHeartbeats 4000000 in
/-- The document's key. -/
theorem key_any (q m rc : Nat) (ra : Option Addr) (M : List Hd) (x : Int) (w : World) (hm : M.length = m) (hok : ∀ h ∈ M, HdOk h) (hmn : m ≤ 3518437208780) (hc : w.cell? ⟨q, 0, none⟩ = some (.slice ra m rc)) (hM : HdsAt w ra M) :
    Calls Tryd.prog 8 #[.pointer (some ⟨q, 0, none⟩), .int .i64 x] w fun e w' => ∃ ky : List UInt8, ky.length = 32 ∧ e = .returned (.tuple #[.agg (kcs ky).toArray, .bool (decide (x ∈ M.map (·.au)))]) ∧ Below w.heap.size w w' := by
  obtain ⟨B, hB⟩ : ∃ B, decide (x ∈ M.map (·.au)) = B := ⟨_, rfl⟩
  have HBV := Hid.mk' hB
  rw [hB]
  clear hB
  obtain ⟨W1, hW1⟩ : ∃ W1, w.alloc (.cells (kcs z32').toArray 24) = W1 := ⟨_, rfl⟩
  have b1 : Below w.heap.size w W1 := by rw [← hW1]; exact (Below.refl _ _).alloc (Nat.le_refl _) _
  have g1 : Hid (W1.heap[w.heap.size]? = some (.cells (kcs z32').toArray 24)) := by show _ = _; rw [← hW1]; exact heap_alloc_new _ _
  have c1 : W1.cell? ⟨q, 0, none⟩ = some (.slice ra m rc) := (b1.cell (p := ⟨q, 0, none⟩) (World.block_lt_of_cell? _ _ hc)).trans hc
  have HM := Hid.mk' (hM.below b1)
  have HB := Hid.mk' b1
  have HOK := Hid.mk' hok
  have HML := Hid.mk' hm
  have HW := Hid.mk' hW1
  have st : ∀ l : List UInt8, l.length = 32 → Below w.heap.size w (W1.setRow w.heap.size (kcs l).toArray) ∧ (W1.setRow w.heap.size (kcs l).toArray).heap[w.heap.size]? = some (.cells (kcs l).toArray 24) := fun l hl =>
    ⟨b1.trans (below_setRow _ _ _ _ (Nat.le_refl _)), setRow_heap _ _ _ _ _ _ g1.out⟩
  have HST := Hid.mk' st
  clear b1 hM hok hm hW1 hc st
  go_enter Tryd.func8, Tryd.ntmps8
  go_wp2_with (first
    | (with_reducible refine at_al24 ?_; refine wpList_alloc_row rfl 24 rfl (kcs z32').toArray (z24 _) ?_; rw [HW.out])
    | fail)
  go_loopw [6] (fun i wr => ∃ k : Nat, k ≤ m ∧ i = .int .i64 (k : Int) ∧ wr = W1 ∧ Hid (∀ h ∈ M.take k, h.au ≠ x)) (fun i _ => m - (intOf i).toNat)
  case atStart => exact ⟨0, by omega, rfl, rfl, fun h hh => by simp at hh⟩
  case round =>
    obtain ⟨k, hk, rfl, rfl, HN⟩ := hrel
    by_cases hkm : k < m
    · have hkm' : (k : Int) < (m : Int) := by omega
      obtain ⟨h, hh⟩ : ∃ h, M[k]? = some h := ⟨M[k]'(by rw [HML.out]; exact hkm), List.getElem?_eq_getElem _⟩
      have OK := Hid.mk' (HOK.out h (List.mem_of_getElem? hh))
      have tk : M.take (k + 1) = M.take k ++ [h] := by rw [List.take_add_one, hh]; rfl
      obtain ⟨b, off, rfl, hbw, hr⟩ : ∃ b off, ra = some ⟨b, off, none⟩ ∧ b < wr.heap.size ∧ ∀ i x, M[i]? = some x → wr.rangeAt b (off + 33 * i) (hdC x) := by
        rcases HM.out with e | e
        · rw [e] at hh; cases hh
        · exact e
      have ix := fun wx => index22 b off m rc k wx hkm
      have ca : wr.cell? ⟨b, off + 33 * k, none⟩ = some (.int .i64 h.au) := hr k h hh 0 _ rfl
      have RK : Hid (wr.rangeAt b (off + 33 * k + 1) (kcs h.key)) := fun j v hj => by
        have := hr k h hh (1 + j) v (by rw [Nat.add_comm 1 j]; exact hj)
        rwa [← Nat.add_assoc] at this
      have hmem : h ∈ M := List.mem_of_getElem? hh
      clear hr hh hbw
      by_cases hx : h.au = x
      · have hx' : (h.au == x) = true := by simpa using hx
        have hin : decide (x ∈ M.map (·.au)) = true := decide_eq_true (List.mem_map.2 ⟨h, hmem, hx⟩)
        have HE : Hid (B = true) := HBV.out.symm.trans hin
        clear hin hmem tk hx
        go_wp2_with (first
          | (with_reducible refine at_ld24 ?_; refine wpList_ld24 (.tmp 32) rfl rfl b (off + 33 * k + 1) rfl h.key OK.out.l RK.out ?_)
          | (with_reducible refine at_st24 ?_; refine wpList_store_row rfl 24 (.tmp 4) (.tmp 33) rfl w.heap.size (kcs h.key).toArray rfl rfl 24 (kcs z32').toArray g1.out (by rw [List.size_toArray, kcs_len, OK.out.l]; exact s24) (by simp [kcs_len, OK.out.l, z32']) (kcs_all _) ?_)
          | fail)
        exact bodyPost_ret (resKey _ _ w.heap.size 24 h.key OK.out.l (0, 0) _ rfl rfl (HST.out h.key OK.out.l).2) rfl ⟨h.key, OK.out.l, by rw [HE.out]; rfl, (HST.out h.key OK.out.l).1⟩
      · have hx' : (h.au == x) = false := by simpa using hx
        have HN2 : Hid (∀ y ∈ M.take (k + 1), y.au ≠ x) := fun y hy => by
          rw [tk, List.mem_append] at hy
          rcases hy with hy | hy
          · exact HN.out y hy
          · simp at hy; subst hy; exact hx
        clear hx tk hmem HN
        go_wp2
        exact ⟨⟨k + 1, by omega, by go_num, trivial, HN2⟩, by simp [intOf]; omega⟩
    · have hkm' : ¬ (k : Int) < (m : Int) := by omega
      have hin : decide (x ∈ M.map (·.au)) = false := by
        apply decide_eq_false
        intro hx
        obtain ⟨y, hy, e⟩ := List.mem_map.1 hx
        exact HN.out y (by rw [List.take_of_length_le (by rw [HML.out]; omega)]; exact hy) e
      have HE : Hid (B = false) := HBV.out.symm.trans hin
      clear hin
      have hzl : (z32').length = 32 := rfl
      go_wp2_with (first
        | (with_reducible refine at_bd24 ?_; refine wpList_build_row rfl 24 rfl (kcs z32').toArray (by kernel_rfl) ?_)
        | (with_reducible refine at_st24 ?_; refine wpList_store_row rfl 24 (.tmp 4) (.tmp 34) rfl w.heap.size (kcs z32').toArray rfl rfl 24 (kcs z32').toArray g1.out (by rw [List.size_toArray, kcs_len, hzl]; exact s24) rfl (kcs_all _) ?_)
        | fail)
      exact bodyPost_ret (resKey _ _ w.heap.size 24 z32' rfl (0, 0) _ rfl rfl (HST.out z32' rfl).2) rfl ⟨z32', rfl, by rw [HE.out]; rfl, (HST.out z32' rfl).1⟩
end Go.Proofs.YthlcmijekgjgjaaDoor
