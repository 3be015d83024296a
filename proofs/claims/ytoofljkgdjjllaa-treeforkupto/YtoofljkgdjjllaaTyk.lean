import Derived.Test.YtoofljkgdjjllaaTyj
namespace Go.Proofs.Ytoofljkgdjjllaa
open Go.RowKit
set_option linter.unusedVariables false
set_option linter.unusedSimpArgs false

set_option maxRecDepth 100000 in
set_option maxHeartbeats 2000000 in
theorem row_none (Sd : List KidV → Prop) (HS : SortK Sd) (s : Tr) (k : IdK) (w : World) (h : TrAt w s) (hk : k.ok) (hq : M.look s.R k = none) :
    Calls Try.prog 53 #[.pointer (some ⟨s.t, 0, none⟩), k.v] w fun e w' => ∃ v L, e = .returned v ∧ OwnK w' w.heap.size v L ∧ L = [] ∧ Sd L ∧ Below w.heap.size w w' := by
  have lt : s.t < w.heap.size := h.lt _ (by simp [Tr.bl])
  have HT := hidMk (fun (W : World) (bb : Below w.heap.size w W) => h.below bb)
  unfold IdK.v
  go_enter Try.func53, Try.ntmps53
  go_wp2
  rename_i K1 aK
  obtain ⟨hx, bx, zx⟩ := box_id w k
  have ZX := hidMk zx
  clear zx
  generalize w.alloc (.cells k.c.toArray 37) = W at *
  have hT := HT.out _ bx
  have c1 : W.drew.cell? ⟨s.t, 1, none⟩ = some (.map (some s.br)) := hT.c1
  have hx' : IdAt W.drew w.heap.size k := hx
  have hT' : TrAt W.drew s := hT.same (fun _ _ => rfl)
  have bx' : Below w.heap.size w W.drew := bx.drew
  refine wp_region_still_tail 7 (by kernel_rfl) (by kernel_rfl) ?_
  simp only [List.take_succ_cons, List.take_zero, List.drop_succ_cons, List.drop_zero]
  change wpStill _ _ W.drew (fun a' => wpList _ _ _ _ a' W.drew) _ _
  clear c1 hT hx bx
  have c1 := hT'.c1
  have ZX' : Hid (W.drew.heap.size = w.heap.size + 1) := ZX.out
  generalize W.drew = wd at *
  iterate 4 still_step
  refine still_val rfl (exec_load (t := 37) (u := .pointer (some ⟨w.heap.size, 0, none⟩)) rfl rfl (load_id hk hx')) ?_
  simp only [Act.put, List.setIfInBounds_toArray, List.set_cons_zero, List.set_cons_succ]
  have hlr := look_row hT' k hk
  rw [hq] at hlr
  refine still_val rfl (exec_lookup (t := 80) (mv := .map (some s.br)) (xv := k.v) (v := .map none) rfl rfl rfl hlr) ?_
  simp only [Act.put, List.setIfInBounds_toArray, List.set_cons_zero, List.set_cons_succ]
  have hln : ∀ ty, (Builtin.len_ #[95] ty #[.map none]).run Try.prog wd = .ok (.int .i64 0) wd := fun ty => by simp [Builtin.len_, run_underlying Try.underlying95, goInt, Result.andThen]
  refine still_val rfl (exec_len (xv := .map none) rfl rfl (hln _)) ?_
  simp only [Act.put, List.setIfInBounds_toArray, List.set_cons_zero, List.set_cons_succ]
  refine wpStill_nil ?_
  obtain ⟨ii, hi, hz, hsz, hby⟩ := info_parts infoK
  have hmk0 := run_make_own (P := Try.prog) wd w.heap.size 106 109 ii _ 34 Try.underlying106 hi hz hsz .i64 .i64 0 (by rw [hby]; omega) (by unfold maxLen; omega) (by have := ZX'.out; omega)
  obtain ⟨w3, hmk, own3, g3⟩ := hmk0
  have b3 := bx'.trans ((grown_below g3).mono (by have := ZX'.out; omega))
  have z3 : w.heap.size + 1 < w3.heap.size := by
    rcases own3.2 with ⟨e, _⟩ | ⟨g, cap, cur, e, hbg, hg, _⟩
    · cases e
    · have := (Array.getElem?_eq_some_iff.1 hg).1
      have e2 : wd.heap.size = g := by cases e; rfl
      have := ZX'.out
      omega
  have own3' : OwnK w3 w.heap.size (.slice (some ⟨wd.heap.size, 0, none⟩) 0 0) [] := own3
  have hx3 : IdAt w3 w.heap.size k := ((grown_below g3).block _ (by have := ZX'.out; omega)).trans hx'
  refine wpList_run rfl (exec_makeSlice rfl rfl rfl hmk) ?_
  simp only [Act.put, List.setIfInBounds_toArray, List.set_cons_zero, List.set_cons_succ]
  have HV := hidMk own3'
  clear own3 own3' hmk g3 hln hlr hx' hT' bx' c1
  generalize Value.slice (some ⟨wd.heap.size, 0, none⟩) 0 0 = v0 at *
  go_wp2
  have hT3 := HT.out _ b3
  have c1 : w3.drew.cell? ⟨s.t, 1, none⟩ = some (.map (some s.br)) := hT3.c1
  have hx3' : IdAt w3.drew w.heap.size k := hx3
  have hT3' : TrAt w3.drew s := hT3.same (fun _ _ => rfl)
  have b3' : Below w.heap.size w w3.drew := b3.drew
  have HV' : Hid (OwnK w3.drew w.heap.size v0 []) := HV.out
  have z3' : w.heap.size + 1 < w3.drew.heap.size := z3
  refine wp_region_still_tail 6 (by kernel_rfl) (by kernel_rfl) ?_
  simp only [List.take_succ_cons, List.take_zero, List.drop_succ_cons, List.drop_zero]
  change wpStill _ _ w3.drew (fun a' => wpList _ _ _ _ a' w3.drew) _ _
  clear hT3 hx3 HV b3 z3
  generalize w3.drew = we at *
  iterate 4 still_step
  refine still_val rfl (exec_load (t := 37) (u := .pointer (some ⟨w.heap.size, 0, none⟩)) rfl rfl (load_id hk hx3')) ?_
  simp only [Act.put, List.setIfInBounds_toArray, List.set_cons_zero, List.set_cons_succ]
  have hlr := look_row hT3' k hk
  rw [hq] at hlr
  refine still_val rfl (exec_lookup (t := 80) (mv := .map (some s.br)) (xv := k.v) (v := .map none) rfl rfl rfl hlr) ?_
  simp only [Act.put, List.setIfInBounds_toArray, List.set_cons_zero, List.set_cons_succ]
  refine wpStill_nil ?_
  have hrg := run_range_nilMap (P := Try.prog) we 95 _ _ Try.underlying95
  refine wpList_run rfl (exec_range rfl rfl hrg) ?_
  simp only [Act.put, List.setIfInBounds_toArray, List.set_cons_zero, List.set_cons_succ]
  have b4 : Below we.heap.size we (we.alloc (.mapIter none 0 #[] 0)) := (Below.refl _ _).alloc (Nat.le_refl _) _
  have own4 := HV'.out.below b4
  have b4' : Below w.heap.size w (we.alloc (.mapIter none 0 #[] 0)) := b3'.trans (b4.mono (by omega))
  have hnx : ∀ ty, (Instr.next (.pointer (some ⟨we.heap.size, 0, none⟩)) false ty).run Try.prog (we.alloc (.mapIter none 0 #[] 0)) = .ok (.tuple #[.bool false]) (we.alloc (.mapIter none 0 #[] 0)) := fun ty => run_next_nilMap we ty 0 0 #[]
  clear hlr hrg hx3' hT3' c1 b3' z3' HV' b4
  generalize we.alloc (.mapIter none 0 #[] 0) = w4 at *
  generalize we.heap.size = r at *
  have HSx := hidMk (HS w4 w.heap.size v0 [] own4 (by simp) (by simp))
  go_wp2
  go_loopw [5] (fun v wr => v = v0 ∧ wr = w4) (fun _ _ => 0)
  case atStart => exact ⟨rfl, rfl⟩
  case round =>
    obtain ⟨rfl, rfl⟩ := hrel
    go_wp2_with (first
      | (refine wpList_run rfl (exec_next rfl rfl (hnx _)) ?_)
      | (go_at_call 82; refine HSx.out.mono ?_; rintro e w6 ⟨rfl, L', pe, sd, own6, t6⟩)
      | fail)
    go_ret
    obtain rfl : L' = [] := pe.eq_nil
    exact ⟨_, [], rfl, own6, rfl, sd, b4'.trans (t6.below b4'.size (fun j hj => (own4.ge j hj).1))⟩
end Go.Proofs.Ytoofljkgdjjllaa
