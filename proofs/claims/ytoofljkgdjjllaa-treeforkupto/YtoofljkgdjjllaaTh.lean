import Derived.Test.YtoofljkgdjjllaaTg
namespace Go.Proofs.Ytoofljkgdjjllaa
open Go.RowKit
set_option linter.unusedVariables false
set_option linter.unusedSimpArgs false

theorem TrAt.last_set {w w' : World} {s : Tr} (h : TrAt w s) {v : Option Addr} (hc : w'.heap[s.t]? = some (.cells #[.map (some s.bn), .map (some s.br), .pointer v] 82 (0, 0))) (hw : ∀ j ∈ s.bl, j ≠ s.t → w'.heap[j]? = w.heap[j]?) : TrAt w' { s with last := v } :=
  ⟨hc, h.nodes.below (hw _ (by simp [Tr.bl]) (Ne.symm h.tbl.1)), h.rows.below (hw _ (by simp [Tr.bl]) (Ne.symm h.tbl.2.1)), fun r hr => (h.row r hr).below (hw _ (Tr.row_bl hr) (h.bne hr).1), h.uok, h.dis⟩
theorem TrAt.f2 {w : World} {s : Tr} (h : TrAt w s) : w.frozen? ⟨s.t, 2, none⟩ = false := by simp [World.frozen?, h.cell]
theorem wpList_run {P : Program} {ops : Array Oper} {rest : List Oper} {o : Oper} {a : Act} {w w2 : World} {Q : Exit → Act → World → Prop} {v : Value} (hw : Region.wanted o (yielded ops a.tmps) = true) (hr : (execOp a.eval o).run P w = .ok (.value v) w2) (h : wpList P ops Q rest (a.put o.dst v) w2) : wpList P ops Q (o :: rest) a w :=
  wpList_step fun K hK => by
    rw [if_pos hw]
    unfold Oper.wp
    rw [hr]
    exact hK _ _ h
set_option maxRecDepth 100000 in
set_option maxHeartbeats 1000000 in
theorem new_any (w : World) : Calls Try.prog 10 #[] w fun e w' => ∃ s : Tr, e = .returned (.pointer (some ⟨s.t, 0, none⟩)) ∧ TrAt w' s ∧ s.N = [] ∧ s.R = [] ∧ s.last = none ∧ Below w.heap.size w w' ∧ ∀ j ∈ s.bl, w.heap.size ≤ j := by
  go_enter Try.func10, Try.ntmps10
  go_wp2_with (first
    | (refine wpList_run rfl (exec_makeMap rfl (run_makeMap _ _)) ?_)
    | fail)
  go_ret
  have z : ((w.alloc (.map #[] 0)).alloc (.map #[] 0)).heap.size = w.heap.size + 1 + 1 := by simp
  refine ⟨⟨w.heap.size + 1 + 1, w.heap.size, w.heap.size + 1, [], [], none⟩, rfl, ⟨?_, ⟨⟨#[], 0, ?_, rfl, by simp [M.Stamps]⟩, by simp [entN, M.onV], by simp [entN, M.onV]⟩, ⟨⟨#[], 0, ?_, rfl, by simp [M.Stamps]⟩, by simp [entR, M.onV], by simp [entR, M.onV]⟩, by simp, by simp, by simp [Tr.bl]; omega⟩, rfl, rfl, rfl, ?_, by simp [Tr.bl]; omega⟩
  · have := heap_alloc_new ((w.alloc (.map #[] 0)).alloc (.map #[] 0)) (.cells #[.map (some w.heap.size), .map (some (w.heap.size + 1)), .pointer none] 82)
    rw [z] at this
    exact this
  · rw [Below.heap_alloc _ _ _ (by rw [z]; show w.heap.size < _; omega), Below.heap_alloc _ _ _ (by simp)]
    exact heap_alloc_new _ _
  · have := heap_alloc_new (w.alloc (.map #[] 0)) (.map #[] 0)
    rw [Below.heap_alloc _ _ _ (by rw [z]; show w.heap.size + 1 < _; omega)]
    rw [show (w.alloc (.map #[] 0)).heap.size = w.heap.size + 1 by simp] at this
    exact this
  · exact (((Below.refl _ _).alloc (Nat.le_refl _) _).alloc (by simp) _).alloc (by simp; omega) _
set_option maxRecDepth 100000 in
set_option maxHeartbeats 1000000 in
theorem step_any (s : Tr) (m : Nat) (cs : Array Value) (w : World) (h : TrAt w s) : Calls Try.prog 47 #[.pointer (some ⟨s.t, 0, none⟩), .func (.func m) #[] cs] w fun e w' => ∃ bk, e = .returned (.tuple #[.pointer (some ⟨bk, 0, none⟩), .int .i64 0]) ∧ w.heap.size ≤ bk ∧
    w'.heap[bk]? = some (.cells #[.pointer s.last, .func (.func m) #[] cs] 103 (0, 0)) ∧ TrAt w' { s with last := some ⟨bk, 0, none⟩ } ∧ Tch (fun j => j = s.t) w w' := by
  have c2 := h.c2
  have f2 := h.f2
  have lt : s.t < w.heap.size := h.lt _ (by simp [Tr.bl])
  have ne : w.heap.size ≠ s.t := by omega
  go_enter Try.func47, Try.ntmps47
  go_wp2
  go_ret2
  have zs : (w.setCell ⟨s.t, 2, none⟩ (.pointer (some ⟨w.heap.size, 0, none⟩))).heap.size = w.heap.size := by simp [World.setCell]
  have ho : ∀ j, j ≠ s.t → j < w.heap.size → ((w.setCell ⟨s.t, 2, none⟩ (.pointer (some ⟨w.heap.size, 0, none⟩))).alloc (.cells #[.pointer s.last, .func (.func m) #[] cs] 103)).heap[j]? = w.heap[j]? := fun j h1 h2 =>
    (Below.heap_alloc _ _ _ (by rw [zs]; exact h2)).trans (Go.heap_setCell_other _ _ _ _ h1)
  refine ⟨w.heap.size, rfl, Nat.le_refl _, ?_, h.last_set ?_ ?_, ⟨rfl, rfl, rfl, by simp [World.setCell], fun j hj hn => ho j hn hj⟩⟩
  · have := heap_alloc_new (w.setCell ⟨s.t, 2, none⟩ (.pointer (some ⟨w.heap.size, 0, none⟩))) (.cells #[.pointer s.last, .func (.func m) #[] cs] 103)
    rw [zs] at this
    exact this
  · exact (Below.heap_alloc _ _ _ (by rw [zs]; exact lt)).trans (Go.heap_setCell_same _ _ 2 _ _ _ h.cell)
  · exact fun j hj hn => ho j hn (h.lt j hj)
end Go.Proofs.Ytoofljkgdjjllaa
