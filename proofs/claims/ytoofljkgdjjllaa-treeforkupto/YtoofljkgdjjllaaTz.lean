import Derived.Test.YtoofljkgdjjllaaTv
namespace Go.Proofs.Ytoofljkgdjjllaa
open Go.RowKit
set_option linter.unusedVariables false
set_option linter.unusedSimpArgs false

theorem Did.of_below {s : Tr} {H : List Rec} {k : IdK} {n : NodeV} {w W w' : World} {e : Ending} (b : Below w.heap.size w W) (d : Did s H k n W e w') : Did s H k n w e w' := by
  obtain ⟨s', r, h1, h2, h3, h4, h5, h6, h7, h8, h9⟩ := d
  have z := b.size
  exact ⟨s', r, h1, h2, h3, h4, h5, h6, (Tch.of_below b (fun j q1 q2 => by omega)).trans h7, fun j hj => (h8 j hj).imp id (fun q => by omega), fun x hx => by have := h9 x hx; omega⟩
set_option maxRecDepth 100000 in
set_option maxHeartbeats 2000000 in
theorem move_nil (i u key : Value) (ii ui : IdK) (hi : i = ii.v) (hu : u = ui.v) (w : World) : Calls Try.prog 19 #[.pointer none, i, u, key] w fun e w' => No 1 w e w' := by
  subst hi hu
  unfold IdK.v
  go_enter Try.func19, Try.ntmps19
  go_wp2
  go_ret2
  exact ⟨rfl, ((Below.refl _ _).alloc (Nat.le_refl _) _).alloc (by simp) _⟩
set_option maxRecDepth 100000 in
set_option maxHeartbeats 2000000 in
theorem move_out (s : Tr) (H : List Rec) (k u : IdK) (key : ByteArray) (w : World) (h : TreeAt w s H) (hk : k.ok) (hu : u.ok) (hh : (lookN s.N k).isSome = false) :
    Calls Try.prog 19 #[.pointer (some ⟨s.t, 0, none⟩), k.v, u.v, .string key] w (No 4 w) := by
  have H1 : Hid (∀ W, Below w.heap.size w W → Calls Try.prog 44 #[.pointer (some ⟨s.t, 0, none⟩), k.v] W fun e w' => e = .returned (.bool false) ∧ Below W.heap.size W w') := fun W b => by
    have := has_any s.t s.bn k s.N W hk (h.tr.below b).c0 (h.tr.below b).nodes h.tr.uok
    rwa [hh] at this
  clear hh
  unfold IdK.v
  go_enter Try.func19, Try.ntmps19
  go_upto_region 1 with fail
  obtain ⟨hx, hy, bx, zx⟩ := two_boxes w k u
  have ZX := hidMk zx
  clear zx
  generalize (w.alloc (.cells k.c.toArray 37)).alloc (.cells u.c.toArray 37) = W at *
  have z1 : w.heap.size + 2 ≤ W.heap.size := Nat.le_of_eq ZX.out.symm
  go_wp2_with (first
    | (refine wpList_val rfl (exec_load (t := 37) (u := .pointer (some ⟨w.heap.size, 0, none⟩)) rfl rfl (load_id hk hx)) ?_)
    | (refine wpList_val rfl (exec_load (t := 37) (u := .pointer (some ⟨w.heap.size + 1, 0, none⟩)) rfl rfl (load_id hu hy)) ?_)
    | (go_at_call 44; refine (H1.out _ bx).mono ?_; rintro e w1 ⟨rfl, b'⟩; replace hy : IdAt w1 (w.heap.size + 1) u := (b'.block _ (by omega)).trans hy; replace hx : IdAt w1 w.heap.size k := (b'.block _ (by omega)).trans hx; replace bx : Below w.heap.size w w1 := bx.trans (b'.mono (by omega)); replace z1 : w.heap.size + 2 ≤ w1.heap.size := Nat.le_trans z1 b'.size; clear b')
    | fail)
  go_ret2
  exact ⟨rfl, bx⟩
set_option maxRecDepth 100000 in
set_option maxHeartbeats 2000000 in
theorem move_none (s : Tr) (H : List Rec) (k u : IdK) (key : ByteArray) (w : World) (h : TreeAt w s H) (hk : k.ok) (hu : u.ok) (hh : (lookN s.N k).isSome = true) (hb : (decide (u = zId) || (lookN s.N u).isSome) = false) :
    Calls Try.prog 19 #[.pointer (some ⟨s.t, 0, none⟩), k.v, u.v, .string key] w (No 4 w) := by
  have H1 : Hid (∀ W, Below w.heap.size w W → Calls Try.prog 44 #[.pointer (some ⟨s.t, 0, none⟩), k.v] W fun e w' => e = .returned (.bool true) ∧ Below W.heap.size W w') := fun W b => by
    have := has_any s.t s.bn k s.N W hk (h.tr.below b).c0 (h.tr.below b).nodes h.tr.uok
    rwa [hh] at this
  have H2 : Hid (∀ W, Below w.heap.size w W → Calls Try.prog 45 #[.pointer (some ⟨s.t, 0, none⟩), u.v] W fun e w' => e = .returned (.bool false) ∧ Below W.heap.size W w') := fun W b => by
    have := bears_any s.t s.bn u s.N W hu (h.tr.below b).c0 (h.tr.below b).nodes h.tr.uok
    rwa [hb] at this
  clear hh hb
  unfold IdK.v
  go_enter Try.func19, Try.ntmps19
  go_upto_region 1 with fail
  obtain ⟨hx, hy, bx, zx⟩ := two_boxes w k u
  have ZX := hidMk zx
  clear zx
  generalize (w.alloc (.cells k.c.toArray 37)).alloc (.cells u.c.toArray 37) = W at *
  have z1 : w.heap.size + 2 ≤ W.heap.size := Nat.le_of_eq ZX.out.symm
  go_wp2_with (first
    | (refine wpList_val rfl (exec_load (t := 37) (u := .pointer (some ⟨w.heap.size, 0, none⟩)) rfl rfl (load_id hk hx)) ?_)
    | (refine wpList_val rfl (exec_load (t := 37) (u := .pointer (some ⟨w.heap.size + 1, 0, none⟩)) rfl rfl (load_id hu hy)) ?_)
    | (go_at_call 44; refine (H1.out _ bx).mono ?_; rintro e w1 ⟨rfl, b'⟩; replace hy : IdAt w1 (w.heap.size + 1) u := (b'.block _ (by omega)).trans hy; replace hx : IdAt w1 w.heap.size k := (b'.block _ (by omega)).trans hx; replace bx : Below w.heap.size w w1 := bx.trans (b'.mono (by omega)); replace z1 : w.heap.size + 2 ≤ w1.heap.size := Nat.le_trans z1 b'.size; clear b')
    | (go_at_call 45; refine (H2.out _ bx).mono ?_; rintro e w2 ⟨rfl, b'⟩; replace hy : IdAt w2 (w.heap.size + 1) u := (b'.block _ (by omega)).trans hy; replace hx : IdAt w2 w.heap.size k := (b'.block _ (by omega)).trans hx; replace bx : Below w.heap.size w w2 := bx.trans (b'.mono (by omega)); replace z1 : w.heap.size + 2 ≤ w2.heap.size := Nat.le_trans z1 b'.size; clear b')
    | fail)
  go_ret2
  exact ⟨rfl, bx⟩
set_option maxRecDepth 100000 in
set_option maxHeartbeats 2000000 in
theorem move_ring (s : Tr) (H : List Rec) (k u : IdK) (key : ByteArray) (w : World) (h : TreeAt w s H) (hk : k.ok) (hu : u.ok) (hf : Forest (lookN s.N)) (hz : k ≠ zId) (hh : (lookN s.N k).isSome = true) (hb : (decide (u = zId) || (lookN s.N u).isSome) = true) (l : List IdK) (p : Bool) (hc : Climb (lookN s.N) u l p) (hl : decide (u = k ∨ k ∈ l) = true) :
    Calls Try.prog 19 #[.pointer (some ⟨s.t, 0, none⟩), k.v, u.v, .string key] w (No 100 w) := by
  have H1 : Hid (∀ W, Below w.heap.size w W → Calls Try.prog 44 #[.pointer (some ⟨s.t, 0, none⟩), k.v] W fun e w' => e = .returned (.bool true) ∧ Below W.heap.size W w') := fun W b => by
    have := has_any s.t s.bn k s.N W hk (h.tr.below b).c0 (h.tr.below b).nodes h.tr.uok
    rwa [hh] at this
  have H2 : Hid (∀ W, Below w.heap.size w W → Calls Try.prog 45 #[.pointer (some ⟨s.t, 0, none⟩), u.v] W fun e w' => e = .returned (.bool true) ∧ Below W.heap.size W w') := fun W b => by
    have := bears_any s.t s.bn u s.N W hu (h.tr.below b).c0 (h.tr.below b).nodes h.tr.uok
    rwa [hb] at this
  have H3 : Hid (∀ W, Below w.heap.size w W → Calls Try.prog 50 #[.pointer (some ⟨s.t, 0, none⟩), u.v, k.v] W fun e w' => e = .returned (.bool true) ∧ Below W.heap.size W w') := fun W b => by
    have := lies_any s u k l p W (h.tr.below b) hf hu hk hz hc
    rwa [hl] at this
  clear hh hb hl hc hz hf
  unfold IdK.v
  go_enter Try.func19, Try.ntmps19
  go_upto_region 1 with fail
  obtain ⟨hx, hy, bx, zx⟩ := two_boxes w k u
  have ZX := hidMk zx
  clear zx
  generalize (w.alloc (.cells k.c.toArray 37)).alloc (.cells u.c.toArray 37) = W at *
  have z1 : w.heap.size + 2 ≤ W.heap.size := Nat.le_of_eq ZX.out.symm
  go_wp2_with (first
    | (refine wpList_val rfl (exec_load (t := 37) (u := .pointer (some ⟨w.heap.size, 0, none⟩)) rfl rfl (load_id hk hx)) ?_)
    | (refine wpList_val rfl (exec_load (t := 37) (u := .pointer (some ⟨w.heap.size + 1, 0, none⟩)) rfl rfl (load_id hu hy)) ?_)
    | (go_at_call 44; refine (H1.out _ bx).mono ?_; rintro e w1 ⟨rfl, b'⟩; replace hy : IdAt w1 (w.heap.size + 1) u := (b'.block _ (by omega)).trans hy; replace hx : IdAt w1 w.heap.size k := (b'.block _ (by omega)).trans hx; replace bx : Below w.heap.size w w1 := bx.trans (b'.mono (by omega)); replace z1 : w.heap.size + 2 ≤ w1.heap.size := Nat.le_trans z1 b'.size; clear b')
    | (go_at_call 45; refine (H2.out _ bx).mono ?_; rintro e w2 ⟨rfl, b'⟩; replace hy : IdAt w2 (w.heap.size + 1) u := (b'.block _ (by omega)).trans hy; replace hx : IdAt w2 w.heap.size k := (b'.block _ (by omega)).trans hx; replace bx : Below w.heap.size w w2 := bx.trans (b'.mono (by omega)); replace z1 : w.heap.size + 2 ≤ w2.heap.size := Nat.le_trans z1 b'.size; clear b')
    | (go_at_call 50; refine (H3.out _ bx).mono ?_; rintro e w3 ⟨rfl, b'⟩; replace hy : IdAt w3 (w.heap.size + 1) u := (b'.block _ (by omega)).trans hy; replace hx : IdAt w3 w.heap.size k := (b'.block _ (by omega)).trans hx; replace bx : Below w.heap.size w w3 := bx.trans (b'.mono (by omega)); replace z1 : w.heap.size + 2 ≤ w3.heap.size := Nat.le_trans z1 b'.size; clear b')
    | fail)
  go_ret2
  exact ⟨rfl, bx⟩
set_option maxRecDepth 100000 in
set_option maxHeartbeats 2000000 in
theorem move_ok (s : Tr) (H : List Rec) (k u : IdK) (key : ByteArray) (w : World) (h : TreeAt w s H) (hk : k.ok) (hu : u.ok) (hf : Forest (lookN s.N)) (hz : k ≠ zId) (hh : (lookN s.N k).isSome = true) (hb : (decide (u = zId) || (lookN s.N u).isSome) = true) (l : List IdK) (p : Bool) (hc : Climb (lookN s.N) u l p) (hl : decide (u = k ∨ k ∈ l) = false) :
    Calls Try.prog 19 #[.pointer (some ⟨s.t, 0, none⟩), k.v, u.v, .string key] w (Did s H k ⟨u, key, false⟩ w) := by
  have H1 : Hid (∀ W, Below w.heap.size w W → Calls Try.prog 44 #[.pointer (some ⟨s.t, 0, none⟩), k.v] W fun e w' => e = .returned (.bool true) ∧ Below W.heap.size W w') := fun W b => by
    have := has_any s.t s.bn k s.N W hk (h.tr.below b).c0 (h.tr.below b).nodes h.tr.uok
    rwa [hh] at this
  have H2 : Hid (∀ W, Below w.heap.size w W → Calls Try.prog 45 #[.pointer (some ⟨s.t, 0, none⟩), u.v] W fun e w' => e = .returned (.bool true) ∧ Below W.heap.size W w') := fun W b => by
    have := bears_any s.t s.bn u s.N W hu (h.tr.below b).c0 (h.tr.below b).nodes h.tr.uok
    rwa [hb] at this
  have H3 : Hid (∀ W, Below w.heap.size w W → Calls Try.prog 50 #[.pointer (some ⟨s.t, 0, none⟩), u.v, k.v] W fun e w' => e = .returned (.bool false) ∧ Below W.heap.size W w') := fun W b => by
    have := lies_any s u k l p W (h.tr.below b) hf hu hk hz hc
    rwa [hl] at this
  obtain ⟨was, hwas⟩ := Option.isSome_iff_exists.1 hh
  have H4 := hidMk (fun (W : World) (b : Below w.heap.size w W) => put_any s H k ⟨u, key, false⟩ was W (h.below b) hk hu hwas)
  clear hh hb hl hc hz hf hwas
  unfold IdK.v
  go_enter Try.func19, Try.ntmps19
  go_upto_region 1 with fail
  obtain ⟨hx, hy, bx, zx⟩ := two_boxes w k u
  have ZX := hidMk zx
  clear zx
  generalize (w.alloc (.cells k.c.toArray 37)).alloc (.cells u.c.toArray 37) = W at *
  have z1 : w.heap.size + 2 ≤ W.heap.size := Nat.le_of_eq ZX.out.symm
  go_wp2_with (first
    | (refine wpList_val rfl (exec_load (t := 37) (u := .pointer (some ⟨w.heap.size, 0, none⟩)) rfl rfl (load_id hk hx)) ?_)
    | (refine wpList_val rfl (exec_load (t := 37) (u := .pointer (some ⟨w.heap.size + 1, 0, none⟩)) rfl rfl (load_id hu hy)) ?_)
    | (go_at_call 44; refine (H1.out _ bx).mono ?_; rintro e w1 ⟨rfl, b'⟩; replace hy : IdAt w1 (w.heap.size + 1) u := (b'.block _ (by omega)).trans hy; replace hx : IdAt w1 w.heap.size k := (b'.block _ (by omega)).trans hx; replace bx : Below w.heap.size w w1 := bx.trans (b'.mono (by omega)); replace z1 : w.heap.size + 2 ≤ w1.heap.size := Nat.le_trans z1 b'.size; clear b')
    | (go_at_call 45; refine (H2.out _ bx).mono ?_; rintro e w2 ⟨rfl, b'⟩; replace hy : IdAt w2 (w.heap.size + 1) u := (b'.block _ (by omega)).trans hy; replace hx : IdAt w2 w.heap.size k := (b'.block _ (by omega)).trans hx; replace bx : Below w.heap.size w w2 := bx.trans (b'.mono (by omega)); replace z1 : w.heap.size + 2 ≤ w2.heap.size := Nat.le_trans z1 b'.size; clear b')
    | (go_at_call 50; refine (H3.out _ bx).mono ?_; rintro e w3 ⟨rfl, b'⟩; replace hy : IdAt w3 (w.heap.size + 1) u := (b'.block _ (by omega)).trans hy; replace hx : IdAt w3 w.heap.size k := (b'.block _ (by omega)).trans hx; replace bx : Below w.heap.size w w3 := bx.trans (b'.mono (by omega)); replace z1 : w.heap.size + 2 ≤ w3.heap.size := Nat.le_trans z1 b'.size; clear b')
    | (go_at_call 51; refine (H4.out _ bx).mono ?_; intro e w4 hd4; have hd5 := Did.of_below bx hd4; obtain ⟨s', r, rfl, h8⟩ := hd4)
    | (refine wpList_val rfl (exec_bn u hu key rfl rfl rfl) ?_)
    | fail)
  go_ret2
  exact hd5
end Go.Proofs.Ytoofljkgdjjllaa
