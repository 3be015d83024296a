import Derived.Test.YtoofljkgdjjllaaTr
namespace Go.Proofs.Ytoofljkgdjjllaa
open Go.RowKit
set_option linter.unusedVariables false
set_option linter.unusedSimpArgs false

theorem box_in (w : World) (k : IdK) (n : NodeV) : IdAt ((w.alloc (.cells k.c.toArray 37)).alloc (.cells n.c.toArray 94)) w.heap.size k ∧ NodeAt ((w.alloc (.cells k.c.toArray 37)).alloc (.cells n.c.toArray 94)) (w.heap.size + 1) n ∧
    Below w.heap.size w ((w.alloc (.cells k.c.toArray 37)).alloc (.cells n.c.toArray 94)) ∧ ((w.alloc (.cells k.c.toArray 37)).alloc (.cells n.c.toArray 94)).heap.size = w.heap.size + 2 := by
  have z : (w.alloc (.cells k.c.toArray 37)).heap.size = w.heap.size + 1 := by simp
  refine ⟨?_, ?_, ((Below.refl _ _).alloc (Nat.le_refl _) _).alloc (by simp) _, by simp⟩
  · unfold IdAt
    rw [Below.heap_alloc _ _ _ (by rw [z]; omega)]
    exact heap_alloc_new _ _
  · have := heap_alloc_new (w.alloc (.cells k.c.toArray 37)) (.cells n.c.toArray 94)
    rw [z] at this
    exact this
set_option maxRecDepth 100000 in
set_option maxHeartbeats 2000000 in
theorem put_any (s : Tr) (H : List Rec) (k : IdK) (n was : NodeV) (w : World) (h : TreeAt w s H) (hk : k.ok) (hn : n.u.ok) (hwas : lookN s.N k = some was) :
    Calls Try.prog 51 #[.pointer (some ⟨s.t, 0, none⟩), k.v, n.v] w (Did s H k n w) := by
  have lt : s.t < w.heap.size := h.tr.lt _ (by simp [Tr.bl])
  have hwo : was.u.ok := h.tr.uok (k, was) (M.look_mem hwas)
  have H3 := hidMk (fun (W : World) (b : Below w.heap.size w W) => lay_any s k n W hk hn (h.tr.below b) h.rows)
  unfold IdK.v NodeV.v
  go_enter Try.func51, Try.ntmps51
  go_wp2
  rename_i K1 aK
  obtain ⟨hx, hy, bx, zx⟩ := box_in w k n
  generalize (w.alloc (.cells k.c.toArray 37)).alloc (.cells n.c.toArray 94) = W at *
  obtain ⟨w1, w2, e1, e2, b1, b2, n2, z2⟩ := node_new W.drew was hwo
  replace b1 : Below W.heap.size W w1 := (Below.refl _ _).drew.trans b1
  replace b2 : Below W.heap.size W w2 := (Below.refl _ _).drew.trans b2
  refine put1 s.t w.heap.size W.heap.size (.map (some s.bn)) k.v was.v w1 w2 (fun wx => Below W.heap.size W wx) _ W _ rfl rfl rfl ?_ ?_ ?_ ?_ e1 ?_ e2 ?_ ?_
  · exact (Below.refl _ _).drew
  · intro wx hw
    exact load_nodes ((hw.cell (by show s.t < _; omega)).trans ((bx.cell lt).trans h.tr.c0))
  · intro wx hw
    exact load_id hk ((hw.block _ (by omega)).trans hx)
  · intro wx hw
    have := look_node1 s.bn s.N wx k hk (h.tr.nodes.below ((hw.block _ (by have := h.tr.nodes.lt; omega)).trans (bx.block _ h.tr.nodes.lt)))
    rw [hwas] at this
    exact this
  · exact b1
  · exact b2
  · intro a' ha
    subst ha
    refine aK _ _ ?_
    clear aK e1 e2
    have b3 : Below w.heap.size w w2 := bx.trans (Below.mono b2 (by omega))
    replace hx : IdAt w2 w.heap.size k := (b2.block _ (by omega)).trans hx
    replace hy : NodeAt w2 (w.heap.size + 1) n := (b2.block _ (by omega)).trans hy
    simp only [Act.put, List.setIfInBounds_toArray, List.set_cons_zero, List.set_cons_succ]
    replace n2 : NodeAt w2 W.heap.size was := n2
    replace z2 : w2.heap.size = w.heap.size + 3 := by rw [z2]; show W.heap.size + 1 = _; rw [zx]
    clear b1 b2
    generalize hnb : W.heap.size = nb at *
    have HW := hidMk hwas
    have ZX := hidMk zx
    have Z2 := hidMk z2
    clear hwas hnb zx z2
    go_wp2_with (first
      | (refine wpList_val rfl (exec_load (t := 37) (u := .pointer (some ⟨w.heap.size, 0, none⟩)) rfl rfl (load_id hk hx)) ?_)
      | (refine wpList_val rfl (exec_load (t := 94) (u := .pointer (some ⟨w.heap.size + 1, 0, none⟩)) rfl rfl (load_node hn hy)) ?_)
      | (go_at_call 46; refine (H3.out _ b3).mono ?_; rintro e w3 ⟨rfl, R', h3, r3, t3, f3⟩)
      | (go_at_call 47; refine (step_any { s with N := M.put s.N k n, R := R' } 81 #[.pointer (some ⟨w.heap.size, 0, none⟩), .pointer (some ⟨nb, 0, none⟩)] w3 h3).mono ?_; rintro e w4 ⟨bk, rfl, hbk, c4, h4, t4⟩)
      | fail)
    go_ret2
    have zx := ZX.out
    have z2 := Z2.out
    refine did_of (m := 81) (cs := #[.pointer (some ⟨w.heap.size, 0, none⟩), .pointer (some ⟨nb, 0, none⟩)]) ⟨bk, w.heap.size, nb, k, some was⟩ h b3 hk h3 r3 t3 f3 hbk c4 h4 t4 rfl HW.out.symm ⟨Nat.le_refl _, by show w.heap.size < _; omega⟩ ⟨by show w.heap.size ≤ nb; omega, by show nb < _; omega⟩ ?_
    intro W g1 g2 g3
    exact ⟨g3, g1.trans hx, g2.trans n2⟩
end Go.Proofs.Ytoofljkgdjjllaa
