import Derived.Test.YtoofljkgdjjllaaTya
namespace Go.Proofs.Ytoofljkgdjjllaa
open Go.RowKit
set_option linter.unusedVariables false
set_option linter.unusedSimpArgs false

theorem box_id (w : World) (k : IdK) : IdAt (w.alloc (.cells k.c.toArray 37)) w.heap.size k ∧ Below w.heap.size w (w.alloc (.cells k.c.toArray 37)) ∧ (w.alloc (.cells k.c.toArray 37)).heap.size = w.heap.size + 1 :=
  ⟨heap_alloc_new _ _, (Below.refl _ _).alloc (Nat.le_refl _) _, by simp⟩
set_option maxRecDepth 100000 in
set_option maxHeartbeats 2000000 in
theorem len_nil (w : World) : Calls Try.prog 21 #[.pointer none] w fun e w' => e = .returned (.int .i64 0) ∧ Below w.heap.size w w' := by
  go_enter Try.func21, Try.ntmps21
  go_wp2
  go_ret
  exact ⟨rfl, Below.refl _ _⟩
set_option maxRecDepth 100000 in
set_option maxHeartbeats 2000000 in
theorem len_any (s : Tr) (w : World) (h : TrAt w s) : Calls Try.prog 21 #[.pointer (some ⟨s.t, 0, none⟩)] w fun e w' => e = .returned (.int .i64 (s.N.length : Int)) ∧ Below w.heap.size w w' := by
  have c0 := h.c0
  have HL : ∀ ty : TypeId, (Builtin.len_ #[79] ty #[.map (some s.bn)]).run Try.prog w = .ok (.int .i64 (s.N.length : Int)) w := fun ty => by
    have := M.run_mlen (P := Try.prog) (ty := ty) Try.underlying79 h.nodes
    rwa [show (entN s.N).length = s.N.length by simp [entN, M.onV]] at this
  go_enter Try.func21, Try.ntmps21
  go_wp2_with (first
    | (refine wpList_val rfl (exec_len rfl rfl (HL _)) ?_)
    | fail)
  go_ret
  exact ⟨rfl, Below.refl _ _⟩
set_option maxRecDepth 100000 in
set_option maxHeartbeats 2000000 in
theorem live_nil (i : Value) (ii : IdK) (hi : i = ii.v) (w : World) : Calls Try.prog 39 #[.pointer none, i] w fun e w' => e = .returned (.bool false) ∧ Below w.heap.size w w' := by
  subst hi
  unfold IdK.v
  go_enter Try.func39, Try.ntmps39
  go_wp2
  go_ret
  exact ⟨rfl, (Below.refl _ _).alloc (Nat.le_refl _) _⟩
set_option maxRecDepth 100000 in
set_option maxHeartbeats 2000000 in
theorem live_out (s : Tr) (k : IdK) (w : World) (h : TrAt w s) (hk : k.ok) (hh : (lookN s.N k).isSome = false) : Calls Try.prog 39 #[.pointer (some ⟨s.t, 0, none⟩), k.v] w fun e w' => e = .returned (.bool false) ∧ Below w.heap.size w w' := by
  have H1 : Hid (∀ W, Below w.heap.size w W → Calls Try.prog 44 #[.pointer (some ⟨s.t, 0, none⟩), k.v] W fun e w' => e = .returned (.bool false) ∧ Below W.heap.size W w') := fun W b => by
    have := has_any s.t s.bn k s.N W hk (h.below b).c0 (h.below b).nodes h.uok
    rwa [hh] at this
  clear hh
  unfold IdK.v
  go_enter Try.func39, Try.ntmps39
  go_upto_region 1 with fail
  obtain ⟨hx, bx, zx⟩ := box_id w k
  have ZX := hidMk zx
  clear zx
  generalize w.alloc (.cells k.c.toArray 37) = W at *
  have z1 : w.heap.size + 1 ≤ W.heap.size := Nat.le_of_eq ZX.out.symm
  go_wp2_with (first
    | (refine wpList_val rfl (exec_load (t := 37) (u := .pointer (some ⟨w.heap.size, 0, none⟩)) rfl rfl (load_id hk hx)) ?_)
    | (go_at_call 44; refine (H1.out _ bx).mono ?_; rintro e w1 ⟨rfl, b'⟩; replace hx : IdAt w1 w.heap.size k := (b'.block _ (by omega)).trans hx; replace bx : Below w.heap.size w w1 := bx.trans (b'.mono (by omega)); replace z1 : w.heap.size + 1 ≤ w1.heap.size := Nat.le_trans z1 b'.size; clear b')
    | fail)
  go_ret
  exact ⟨rfl, bx⟩
set_option maxRecDepth 100000 in
set_option maxHeartbeats 2000000 in
theorem live_any (s : Tr) (k : IdK) (l : List IdK) (p : Bool) (w : World) (h : TrAt w s) (hk : k.ok) (hh : (lookN s.N k).isSome = true) (hl : l.length ≤ 4398046510976) (hc : Climb (lookN s.N) k l p) : Calls Try.prog 39 #[.pointer (some ⟨s.t, 0, none⟩), k.v] w fun e w' => e = .returned (.bool (!p)) ∧ Below w.heap.size w w' := by
  have H1 : Hid (∀ W, Below w.heap.size w W → Calls Try.prog 44 #[.pointer (some ⟨s.t, 0, none⟩), k.v] W fun e w' => e = .returned (.bool true) ∧ Below W.heap.size W w') := fun W b => by
    have := has_any s.t s.bn k s.N W hk (h.below b).c0 (h.below b).nodes h.uok
    rwa [hh] at this
  have H2 := hidMk (fun (W : World) (b : Below w.heap.size w W) => climb_any s k l p W (h.below b) hk hl hc)
  clear hh hc
  unfold IdK.v
  go_enter Try.func39, Try.ntmps39
  go_upto_region 1 with fail
  obtain ⟨hx, bx, zx⟩ := box_id w k
  have ZX := hidMk zx
  clear zx
  generalize w.alloc (.cells k.c.toArray 37) = W at *
  have z1 : w.heap.size + 1 ≤ W.heap.size := Nat.le_of_eq ZX.out.symm
  go_wp2_with (first
    | (refine wpList_val rfl (exec_load (t := 37) (u := .pointer (some ⟨w.heap.size, 0, none⟩)) rfl rfl (load_id hk hx)) ?_)
    | (go_at_call 44; refine (H1.out _ bx).mono ?_; rintro e w1 ⟨rfl, b'⟩; replace hx : IdAt w1 w.heap.size k := (b'.block _ (by omega)).trans hx; replace bx : Below w.heap.size w w1 := bx.trans (b'.mono (by omega)); replace z1 : w.heap.size + 1 ≤ w1.heap.size := Nat.le_trans z1 b'.size; clear b')
    | (go_at_call 73; refine (H2.out _ bx).mono ?_; rintro e w2 ⟨rfl, b'⟩; replace bx : Below w.heap.size w w2 := bx.trans (b'.mono (by omega)); clear b')
    | fail)
  go_ret
  exact ⟨rfl, bx⟩
set_option maxRecDepth 100000 in
set_option maxHeartbeats 2000000 in
theorem deep_nil (i : Value) (ii : IdK) (hi : i = ii.v) (w : World) : Calls Try.prog 29 #[.pointer none, i] w fun e w' => e = .returned (.int .i64 (-1)) ∧ Below w.heap.size w w' := by
  subst hi
  unfold IdK.v
  go_enter Try.func29, Try.ntmps29
  go_wp2
  go_ret
  exact ⟨rfl, (Below.refl _ _).alloc (Nat.le_refl _) _⟩
set_option maxRecDepth 100000 in
set_option maxHeartbeats 2000000 in
theorem deep_out (s : Tr) (k : IdK) (w : World) (h : TrAt w s) (hk : k.ok) (hh : (lookN s.N k).isSome = false) : Calls Try.prog 29 #[.pointer (some ⟨s.t, 0, none⟩), k.v] w fun e w' => e = .returned (.int .i64 (-1)) ∧ Below w.heap.size w w' := by
  have H1 : Hid (∀ W, Below w.heap.size w W → Calls Try.prog 44 #[.pointer (some ⟨s.t, 0, none⟩), k.v] W fun e w' => e = .returned (.bool false) ∧ Below W.heap.size W w') := fun W b => by
    have := has_any s.t s.bn k s.N W hk (h.below b).c0 (h.below b).nodes h.uok
    rwa [hh] at this
  clear hh
  unfold IdK.v
  go_enter Try.func29, Try.ntmps29
  go_upto_region 1 with fail
  obtain ⟨hx, bx, zx⟩ := box_id w k
  have ZX := hidMk zx
  clear zx
  generalize w.alloc (.cells k.c.toArray 37) = W at *
  have z1 : w.heap.size + 1 ≤ W.heap.size := Nat.le_of_eq ZX.out.symm
  go_wp2_with (first
    | (refine wpList_val rfl (exec_load (t := 37) (u := .pointer (some ⟨w.heap.size, 0, none⟩)) rfl rfl (load_id hk hx)) ?_)
    | (go_at_call 44; refine (H1.out _ bx).mono ?_; rintro e w1 ⟨rfl, b'⟩; replace hx : IdAt w1 w.heap.size k := (b'.block _ (by omega)).trans hx; replace bx : Below w.heap.size w w1 := bx.trans (b'.mono (by omega)); replace z1 : w.heap.size + 1 ≤ w1.heap.size := Nat.le_trans z1 b'.size; clear b')
    | fail)
  go_ret
  exact ⟨rfl, bx⟩
set_option maxRecDepth 100000 in
set_option maxHeartbeats 2000000 in
theorem deep_any (s : Tr) (k : IdK) (l : List IdK) (p : Bool) (w : World) (h : TrAt w s) (hk : k.ok) (hh : (lookN s.N k).isSome = true) (hl : l.length ≤ 4398046510976) (hc : Climb (lookN s.N) k l p) : Calls Try.prog 29 #[.pointer (some ⟨s.t, 0, none⟩), k.v] w fun e w' => e = .returned (.int .i64 (l.length : Int)) ∧ Below w.heap.size w w' := by
  have H1 : Hid (∀ W, Below w.heap.size w W → Calls Try.prog 44 #[.pointer (some ⟨s.t, 0, none⟩), k.v] W fun e w' => e = .returned (.bool true) ∧ Below W.heap.size W w') := fun W b => by
    have := has_any s.t s.bn k s.N W hk (h.below b).c0 (h.below b).nodes h.uok
    rwa [hh] at this
  have H2 := hidMk (fun (W : World) (b : Below w.heap.size w W) => climb_any s k l p W (h.below b) hk hl hc)
  clear hh hc
  unfold IdK.v
  go_enter Try.func29, Try.ntmps29
  go_upto_region 1 with fail
  obtain ⟨hx, bx, zx⟩ := box_id w k
  have ZX := hidMk zx
  clear zx
  generalize w.alloc (.cells k.c.toArray 37) = W at *
  have z1 : w.heap.size + 1 ≤ W.heap.size := Nat.le_of_eq ZX.out.symm
  go_wp2_with (first
    | (refine wpList_val rfl (exec_load (t := 37) (u := .pointer (some ⟨w.heap.size, 0, none⟩)) rfl rfl (load_id hk hx)) ?_)
    | (go_at_call 44; refine (H1.out _ bx).mono ?_; rintro e w1 ⟨rfl, b'⟩; replace hx : IdAt w1 w.heap.size k := (b'.block _ (by omega)).trans hx; replace bx : Below w.heap.size w w1 := bx.trans (b'.mono (by omega)); replace z1 : w.heap.size + 1 ≤ w1.heap.size := Nat.le_trans z1 b'.size; clear b')
    | (go_at_call 73; refine (H2.out _ bx).mono ?_; rintro e w2 ⟨rfl, b'⟩; replace bx : Below w.heap.size w w2 := bx.trans (b'.mono (by omega)); clear b')
    | fail)
  go_ret
  exact ⟨rfl, bx⟩
end Go.Proofs.Ytoofljkgdjjllaa
