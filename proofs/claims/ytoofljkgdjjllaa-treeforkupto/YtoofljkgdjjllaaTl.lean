import Derived.Test.YtoofljkgdjjllaaTk
namespace Go.Proofs.Ytoofljkgdjjllaa
open Go.RowKit
set_option linter.unusedVariables false
set_option linter.unusedSimpArgs false

theorem two_boxes (w : World) (k u : IdK) : IdAt ((w.alloc (.cells k.c.toArray 37)).alloc (.cells u.c.toArray 37)) w.heap.size k ∧ IdAt ((w.alloc (.cells k.c.toArray 37)).alloc (.cells u.c.toArray 37)) (w.heap.size + 1) u ∧
    Below w.heap.size w ((w.alloc (.cells k.c.toArray 37)).alloc (.cells u.c.toArray 37)) ∧ ((w.alloc (.cells k.c.toArray 37)).alloc (.cells u.c.toArray 37)).heap.size = w.heap.size + 2 := by
  have z : (w.alloc (.cells k.c.toArray 37)).heap.size = w.heap.size + 1 := by simp
  refine ⟨?_, ?_, ((Below.refl _ _).alloc (Nat.le_refl _) _).alloc (by simp) _, by simp⟩
  · unfold IdAt
    rw [Below.heap_alloc _ _ _ (by rw [z]; omega)]
    exact heap_alloc_new _ _
  · have := heap_alloc_new (w.alloc (.cells k.c.toArray 37)) (.cells u.c.toArray 37)
    rw [z] at this
    exact this
set_option maxRecDepth 100000 in
set_option maxHeartbeats 2000000 in
theorem grow_zero (s : Tr) (H : List Rec) (k u : IdK) (key : ByteArray) (w : World) (h : TreeAt w s H) (hk : k.ok) (hu : u.ok) (hz : k = zId) :
    Calls Try.prog 17 #[.pointer (some ⟨s.t, 0, none⟩), k.v, u.v, .string key] w (No 2 w) := by
  have hq : ∀ w : World, (binOp .eql 37 k.v zId.v).run Try.prog w = .ok (.bool true) w := fun w => by rw [eql_id k zId hk zId_ok, decide_eq_true hz]
  clear hz
  unfold IdK.v
  go_enter Try.func17, Try.ntmps17
  go_upto_region 1 with fail
  obtain ⟨hx, hy, bx, zx⟩ := two_boxes w k u
  generalize (w.alloc (.cells k.c.toArray 37)).alloc (.cells u.c.toArray 37) = W at *
  go_wp2_with (first
    | (refine wpList_val rfl (exec_load rfl rfl (load_id hk hx)) ?_)
    | (refine wpList_val rfl (exec_build0 rfl (build_id _)) ?_)
    | (refine wpList_val rfl (exec_binOp rfl rfl rfl (guard_id _ _ k zId _ _) (hq _)) ?_)
    | fail)
  go_ret2
  exact ⟨rfl, bx⟩
set_option maxRecDepth 100000 in
set_option maxHeartbeats 2000000 in
theorem grow_known (s : Tr) (H : List Rec) (k u : IdK) (key : ByteArray) (w : World) (h : TreeAt w s H) (hk : k.ok) (hu : u.ok) (hz : k ≠ zId) (hh : (lookN s.N k).isSome = true) :
    Calls Try.prog 17 #[.pointer (some ⟨s.t, 0, none⟩), k.v, u.v, .string key] w (No 5 w) := by
  have hq : ∀ w : World, (binOp .eql 37 k.v zId.v).run Try.prog w = .ok (.bool false) w := fun w => by rw [eql_id k zId hk zId_ok, decide_eq_false hz]
  have H1 : Hid (∀ W, Below w.heap.size w W → Calls Try.prog 44 #[.pointer (some ⟨s.t, 0, none⟩), k.v] W fun e w' => e = .returned (.bool true) ∧ Below W.heap.size W w') := fun W b => by
    have := has_any s.t s.bn k s.N W hk (h.tr.below b).c0 (h.tr.below b).nodes h.tr.uok
    rwa [hh] at this
  clear hz hh
  unfold IdK.v
  go_enter Try.func17, Try.ntmps17
  go_upto_region 1 with fail
  obtain ⟨hx, hy, bx, zx⟩ := two_boxes w k u
  generalize (w.alloc (.cells k.c.toArray 37)).alloc (.cells u.c.toArray 37) = W at *
  go_wp2_with (first
    | (refine wpList_val rfl (exec_load rfl rfl (load_id hk hx)) ?_)
    | (refine wpList_val rfl (exec_build0 rfl (build_id _)) ?_)
    | (refine wpList_val rfl (exec_binOp rfl rfl rfl (guard_id _ _ k zId _ _) (hq _)) ?_)
    | (go_at_call 44; refine (H1.out _ bx).mono ?_; rintro e w' ⟨rfl, b'⟩)
    | fail)
  go_ret2
  exact ⟨rfl, bx.trans (b'.mono (by omega))⟩
set_option maxRecDepth 100000 in
set_option maxHeartbeats 2000000 in
theorem grow_none (s : Tr) (H : List Rec) (k u : IdK) (key : ByteArray) (w : World) (h : TreeAt w s H) (hk : k.ok) (hu : u.ok) (hz : k ≠ zId) (hh : (lookN s.N k).isSome = false) (hb : (decide (u = zId) || (lookN s.N u).isSome) = false) :
    Calls Try.prog 17 #[.pointer (some ⟨s.t, 0, none⟩), k.v, u.v, .string key] w (No 4 w) := by
  have hq : ∀ w : World, (binOp .eql 37 k.v zId.v).run Try.prog w = .ok (.bool false) w := fun w => by rw [eql_id k zId hk zId_ok, decide_eq_false hz]
  have H1 : Hid (∀ W, Below w.heap.size w W → Calls Try.prog 44 #[.pointer (some ⟨s.t, 0, none⟩), k.v] W fun e w' => e = .returned (.bool false) ∧ Below W.heap.size W w') := fun W b => by
    have := has_any s.t s.bn k s.N W hk (h.tr.below b).c0 (h.tr.below b).nodes h.tr.uok
    rwa [hh] at this
  have H2 : Hid (∀ W, Below w.heap.size w W → Calls Try.prog 45 #[.pointer (some ⟨s.t, 0, none⟩), u.v] W fun e w' => e = .returned (.bool false) ∧ Below W.heap.size W w') := fun W b => by
    have := bears_any s.t s.bn u s.N W hu (h.tr.below b).c0 (h.tr.below b).nodes h.tr.uok
    rwa [hb] at this
  clear hz hh hb
  unfold IdK.v
  go_enter Try.func17, Try.ntmps17
  go_upto_region 1 with fail
  obtain ⟨hx, hy, bx, zx⟩ := two_boxes w k u
  generalize (w.alloc (.cells k.c.toArray 37)).alloc (.cells u.c.toArray 37) = W at *
  go_wp2_with (first
    | (refine wpList_val rfl (exec_load rfl rfl (load_id hk hx)) ?_)
    | (refine wpList_val rfl (exec_load rfl rfl (load_id hu hy1)) ?_)
    | (refine wpList_val rfl (exec_build0 rfl (build_id _)) ?_)
    | (refine wpList_val rfl (exec_binOp rfl rfl rfl (guard_id _ _ k zId _ _) (hq _)) ?_)
    | (go_at_call 44; refine (H1.out _ bx).mono ?_; rintro e w' ⟨rfl, b'⟩; have hy1 : IdAt w' (w.heap.size + 1) u := (b'.block _ (by omega)).trans hy; have b1 : Below w.heap.size w w' := bx.trans (b'.mono (by omega)))
    | (go_at_call 45; refine (H2.out _ b1).mono ?_; rintro e w2 ⟨rfl, b2⟩)
    | fail)
  go_ret2
  exact ⟨rfl, b1.trans (b2.mono (by have := b1.size; omega))⟩
end Go.Proofs.Ytoofljkgdjjllaa
