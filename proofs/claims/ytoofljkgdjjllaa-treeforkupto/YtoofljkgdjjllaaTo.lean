import Derived.Test.YtoofljkgdjjllaaTn
namespace Go.Proofs.Ytoofljkgdjjllaa
open Go.RowKit
set_option linter.unusedVariables false
set_option linter.unusedSimpArgs false

set_option maxRecDepth 100000 in
set_option maxHeartbeats 2000000 in
theorem grow_ok (s : Tr) (H : List Rec) (k u : IdK) (key : ByteArray) (w : World) (h : TreeAt w s H) (hk : k.ok) (hu : u.ok) (hz : k ≠ zId) (hh : lookN s.N k = none) (hb : (decide (u = zId) || (lookN s.N u).isSome) = true) :
    Calls Try.prog 17 #[.pointer (some ⟨s.t, 0, none⟩), k.v, u.v, .string key] w (Did s H k ⟨u, key, false⟩ w) := by
  have hq : ∀ w : World, (binOp .eql 37 k.v zId.v).run Try.prog w = .ok (.bool false) w := fun w => by rw [eql_id k zId hk zId_ok, decide_eq_false hz]
  have H1 : Hid (∀ W, Below w.heap.size w W → Calls Try.prog 44 #[.pointer (some ⟨s.t, 0, none⟩), k.v] W fun e w' => e = .returned (.bool false) ∧ Below W.heap.size W w') := fun W b => by
    have := has_any s.t s.bn k s.N W hk (h.tr.below b).c0 (h.tr.below b).nodes h.tr.uok
    rwa [hh] at this
  have H2 : Hid (∀ W, Below w.heap.size w W → Calls Try.prog 45 #[.pointer (some ⟨s.t, 0, none⟩), u.v] W fun e w' => e = .returned (.bool true) ∧ Below W.heap.size W w') := fun W b => by
    have := bears_any s.t s.bn u s.N W hu (h.tr.below b).c0 (h.tr.below b).nodes h.tr.uok
    rwa [hb] at this
  have H3 := hidMk (fun (W : World) (b : Below w.heap.size w W) => lay_any s k ⟨u, key, false⟩ W hk hu (h.tr.below b) h.rows)
  have HH := hidMk hh
  clear hz hh hb
  unfold IdK.v
  go_enter Try.func17, Try.ntmps17
  go_upto_region 1 with fail
  obtain ⟨hx, hy, bx, zx⟩ := two_boxes w k u
  generalize (w.alloc (.cells k.c.toArray 37)).alloc (.cells u.c.toArray 37) = W at *
  go_wp2_with (first
    | (refine wpList_val rfl (exec_load rfl (rfl : _ = Value.pointer (some ⟨w.heap.size, 0, none⟩)) (load_id hk hx)) ?_)
    | (refine wpList_val rfl (exec_load rfl (rfl : _ = Value.pointer (some ⟨w.heap.size + 1, 0, none⟩)) (load_id hu hy)) ?_)
    | (refine wpList_val rfl (exec_build0 rfl (build_id _)) ?_)
    | (refine wpList_val rfl (exec_binOp rfl rfl rfl (guard_id _ _ k zId _ _) (hq _)) ?_)
    | (go_at_call 44; refine (H1.out _ bx).mono ?_; rintro e w' ⟨rfl, b'⟩; replace hy : IdAt w' (w.heap.size + 1) u := (b'.block _ (by omega)).trans hy; replace hx : IdAt w' w.heap.size k := (b'.block _ (by omega)).trans hx; have b1 : Below w.heap.size w w' := bx.trans (b'.mono (by omega)); have z1 : w.heap.size + 2 ≤ w'.heap.size := (by rw [← zx]; exact b'.size); clear b')
    | (go_at_call 45; refine (H2.out _ b1).mono ?_; rintro e w2 ⟨rfl, b2'⟩; replace hy : IdAt w2 (w.heap.size + 1) u := (b2'.block _ (by omega)).trans hy; replace hx : IdAt w2 w.heap.size k := (b2'.block _ (by omega)).trans hx; have b2 : Below w.heap.size w w2 := b1.trans (b2'.mono (by omega)); have z2 : w.heap.size + 2 ≤ w2.heap.size := Nat.le_trans z1 b2'.size; clear b2')
    | (go_at_call 46; refine (H3.out _ b2).mono ?_; rintro e w3 ⟨rfl, R', h3, r3, t3, f3⟩)
    | (go_at_call 47; refine (step_any { s with N := M.put s.N k ⟨u, key, false⟩, R := R' } 48 #[.pointer (some ⟨w.heap.size, 0, none⟩)] w3 h3).mono ?_; rintro e w4 ⟨bk, rfl, hbk, c4, h4, t4⟩)
    | (refine wpList_val rfl (exec_bn u hu key rfl rfl rfl) ?_)
    | fail)
  go_ret2
  refine did_of (m := 48) (cs := #[.pointer (some ⟨w.heap.size, 0, none⟩)]) ⟨bk, w.heap.size, w.heap.size, k, none⟩ h b2 hk h3 r3 t3 f3 hbk c4 h4 t4 rfl HH.out.symm ⟨Nat.le_refl _, by show w.heap.size < _; omega⟩ ⟨Nat.le_refl _, by show w.heap.size < _; omega⟩ ?_
  intro W g1 g2 g3
  exact ⟨g3, g1.trans hx, rfl⟩
end Go.Proofs.Ytoofljkgdjjllaa
