import Derived.Test.YtoofljkgdjjllaaTq
namespace Go.Proofs.Ytoofljkgdjjllaa
open Go.RowKit
set_option linter.unusedVariables false
set_option linter.unusedSimpArgs false

set_option maxRecDepth 100000 in
set_option maxHeartbeats 2000000 in
theorem growb_any (s : Tr) (k : IdK) (ib : Nat) (w : World) (hk : k.ok) (h : TrAt w s) (hr : RowsOk s.R (shN s.N)) (hi : IdAt w ib k) (hib : ib ∉ s.bl) :
    Calls Try.prog 48 #[.pointer (some ⟨s.t, 0, none⟩), .pointer (some ⟨ib, 0, none⟩)] w fun e w' => e = .returned (.tuple #[]) ∧ Undid s (upd (lookN s.N) k none) w w' := by
  have hnk : (s.N.map (·.1)).Nodup := by have := h.nodes.2.1; rwa [entN, M.onV_keys] at this
  have HL := hidMk (leave_any s k w hk h hr)
  have li : ib < w.heap.size := (Array.getElem?_eq_some_iff.1 hi).1
  go_enter Try.func48, Try.ntmps48
  go_wp2_with (first
    | (refine wpList_val rfl (exec_load (t := 37) (u := .pointer (some ⟨ib, 0, none⟩)) rfl rfl (load_id hk hi)) ?_)
    | (go_at_call 49; refine HL.out.mono ?_; rintro e w3 ⟨rfl, R', h3, r3, t3, f3⟩)
    | fail)
  have hi3 : IdAt w3 ib k := (t3.block _ li hib).trans hi
  have hbn : ib ≠ s.bn := fun e => hib (by rw [e]; simp [Tr.bl])
  obtain ⟨o4, e4, m4⟩ := M.run_del (P := Try.prog) idKey Try.underlying79 (ty := 0) (w := w3.drew) (b := s.bn) (E := entN s.N) (h3.nodes.below rfl) k hk
  have s4 : ∀ j, j ≠ s.bn → (M.setM w3.drew s.bn o4).heap[j]? = w3.heap[j]? := fun j hj => M.setM_other (w := w3.drew) o4 hj
  have h4 : TrAt (M.setM w3.drew s.bn o4) { s with N := M.del s.N k, R := R' } := h3.delNode s4 m4
  have t4 : Tch (fun j => j ∈ s.bl) w (M.setM w3.drew s.bn o4) := t3.drew.setM (Or.inr (by simp [Tr.bl])) o4
  refine growb1 s.t ib (.map (some s.bn)) k.v (M.setM w3.drew s.bn o4) (fun wx => ∀ j, j ≠ s.bn → wx.heap[j]? = w3.heap[j]?) _ w3 _ rfl rfl rfl ?_ ?_ ?_ e4 ?_ ?_
  · exact fun j _ => rfl
  · intro wx hw
    exact load_nodes ((World.cell?_of_block (w := w3) (a := ⟨s.t, 0, none⟩) (hw s.t h.tbl.1)).trans h3.c0)
  · intro wx hw
    exact load_id hk ((hw _ hbn).trans hi3)
  · exact s4
  · intro a' ha
    subst ha
    simp only [Act.put, List.setIfInBounds_toArray, List.set_cons_zero, List.set_cons_succ]
    refine bodyPost_end (results_none rfl _ _ _) rfl ?_
    refine ⟨rfl, _, R', h4, r3.congr (fun u x => (sh_del _ _ hnk u x).symm), fun x => ?_, t4, fun r hr' => Or.inl (f3 r hr')⟩
    unfold lookN upd
    rw [M.del_look _ _ hnk]
end Go.Proofs.Ytoofljkgdjjllaa
