import Derived.Test.YtoofljkgdjjllaaTyc
namespace Go.Proofs.Ytoofljkgdjjllaa
open Go.RowKit
set_option linter.unusedVariables false
set_option linter.unusedSimpArgs false

set_option maxRecDepth 100000 in
set_option maxHeartbeats 2000000 in
theorem prune_nil (i : Value) (ii : IdK) (hi : i = ii.v) (w : World) : Calls Try.prog 20 #[.pointer none, i] w fun e w' => No 1 w e w' := by
  subst hi
  unfold IdK.v
  go_enter Try.func20, Try.ntmps20
  go_wp2
  go_ret2
  exact ⟨rfl, (Below.refl _ _).alloc (Nat.le_refl _) _⟩
set_option maxRecDepth 100000 in
set_option maxHeartbeats 2000000 in
theorem prune_out (s : Tr) (H : List Rec) (k : IdK) (w : World) (h : TreeAt w s H) (hk : k.ok) (hh : (lookN s.N k).isSome = false) : Calls Try.prog 20 #[.pointer (some ⟨s.t, 0, none⟩), k.v] w (No 4 w) := by
  have lt : s.t < w.heap.size := h.tr.lt _ (by simp [Tr.bl])
  have H1 : Hid (∀ W, Below w.heap.size w W → Calls Try.prog 44 #[.pointer (some ⟨s.t, 0, none⟩), k.v] W fun e w' => e = .returned (.bool false) ∧ Below W.heap.size W w') := fun W b => by
    have := has_any s.t s.bn k s.N W hk (h.tr.below b).c0 (h.tr.below b).nodes h.tr.uok
    rwa [hh] at this
  have hno := nd_ok h.tr k
  have HT := hidMk (fun (W : World) (b : Below w.heap.size w W) => h.tr.below b)
  clear hh
  unfold IdK.v
  go_enter Try.func20, Try.ntmps20
  go_wp2
  rename_i K1 aK
  obtain ⟨hx, bx, zx⟩ := box_id w k
  have ZX := hidMk zx
  clear zx
  generalize w.alloc (.cells k.c.toArray 37) = W at *
  have LW : Hid (∀ W', Below W.heap.size W W' → Below w.heap.size w W') := fun W' b' => bx.trans (b'.mono (by have := ZX.out; omega))
  refine prune3n W.heap.size W s.t w.heap.size k.v (.map (some s.bn)) (nd (lookN s.N) k).v (nd (lookN s.N) k).pr _ W _ rfl rfl rfl ((Below.refl _ _).drew) (fun W' b' => b'.size) ?_ ?_ ?_ ?_ ?_ ?_
  · intro W' b'
    exact load_id hk ((b'.block _ (by have := ZX.out; omega)).trans hx)
  · intro W' b'
    exact load_nodes (HT.out _ (LW.out _ b')).c0
  · intro W' b'
    exact look_node1 s.bn s.N W' k hk (HT.out _ (LW.out _ b')).nodes
  · intro W'
    have := field_pr W' (nd (lookN s.N) k) hno
    exact this
  · intro W' b'
    exact H1.out _ (LW.out _ b')
  · intro a' w2 b2 ha
    subst ha
    refine aK _ _ ?_
    clear aK
    have b3 := LW.out _ b2
    replace hx : IdAt w2 w.heap.size k := (b2.block _ (by have := ZX.out; omega)).trans hx
    simp only [Act.put, List.setIfInBounds_toArray, List.set_cons_zero, List.set_cons_succ]
    clear bx b2 LW
    go_wp2
    go_ret2
    exact ⟨rfl, b3⟩
set_option maxRecDepth 100000 in
set_option maxHeartbeats 2000000 in
theorem prune_done (s : Tr) (H : List Rec) (k : IdK) (w : World) (h : TreeAt w s H) (hk : k.ok) (hh : (lookN s.N k).isSome = true) (hp : (nd (lookN s.N) k).pr = true) : Calls Try.prog 20 #[.pointer (some ⟨s.t, 0, none⟩), k.v] w (No 4 w) := by
  have lt : s.t < w.heap.size := h.tr.lt _ (by simp [Tr.bl])
  have H1 : Hid (∀ W, Below w.heap.size w W → Calls Try.prog 44 #[.pointer (some ⟨s.t, 0, none⟩), k.v] W fun e w' => e = .returned (.bool true) ∧ Below W.heap.size W w') := fun W b => by
    have := has_any s.t s.bn k s.N W hk (h.tr.below b).c0 (h.tr.below b).nodes h.tr.uok
    rwa [hh] at this
  have hno := nd_ok h.tr k
  have HT := hidMk (fun (W : World) (b : Below w.heap.size w W) => h.tr.below b)
  have HP := hidMk hp
  clear hh hp
  unfold IdK.v
  go_enter Try.func20, Try.ntmps20
  go_wp2
  rename_i K1 aK
  obtain ⟨hx, bx, zx⟩ := box_id w k
  have ZX := hidMk zx
  clear zx
  generalize w.alloc (.cells k.c.toArray 37) = W at *
  have LW : Hid (∀ W', Below W.heap.size W W' → Below w.heap.size w W') := fun W' b' => bx.trans (b'.mono (by have := ZX.out; omega))
  refine prune3y W.heap.size W s.t w.heap.size k.v (.map (some s.bn)) (nd (lookN s.N) k).v true _ W _ rfl rfl rfl ((Below.refl _ _).drew) (fun W' b' => b'.size) ?_ ?_ ?_ ?_ ?_ ?_
  · intro W' b'
    exact load_id hk ((b'.block _ (by have := ZX.out; omega)).trans hx)
  · intro W' b'
    exact load_nodes (HT.out _ (LW.out _ b')).c0
  · intro W' b'
    exact look_node1 s.bn s.N W' k hk (HT.out _ (LW.out _ b')).nodes
  · intro W'
    have := field_pr W' (nd (lookN s.N) k) hno
    rwa [HP.out] at this
  · intro W' b'
    exact H1.out _ (LW.out _ b')
  · intro a' w2 b2 ha
    subst ha
    refine aK _ _ ?_
    clear aK
    have b3 := LW.out _ b2
    replace hx : IdAt w2 w.heap.size k := (b2.block _ (by have := ZX.out; omega)).trans hx
    simp only [Act.put, List.setIfInBounds_toArray, List.set_cons_zero, List.set_cons_succ]
    clear bx b2 LW
    go_wp2
    go_ret2
    exact ⟨rfl, b3⟩
set_option maxRecDepth 100000 in
set_option maxHeartbeats 2000000 in
theorem prune_ok (s : Tr) (H : List Rec) (k : IdK) (w : World) (h : TreeAt w s H) (hk : k.ok) (hh : (lookN s.N k).isSome = true) (hp : (nd (lookN s.N) k).pr = false) : Calls Try.prog 20 #[.pointer (some ⟨s.t, 0, none⟩), k.v] w (Did s H k ⟨zId, ⟨#[]⟩, true⟩ w) := by
  have lt : s.t < w.heap.size := h.tr.lt _ (by simp [Tr.bl])
  have H1 : Hid (∀ W, Below w.heap.size w W → Calls Try.prog 44 #[.pointer (some ⟨s.t, 0, none⟩), k.v] W fun e w' => e = .returned (.bool true) ∧ Below W.heap.size W w') := fun W b => by
    have := has_any s.t s.bn k s.N W hk (h.tr.below b).c0 (h.tr.below b).nodes h.tr.uok
    rwa [hh] at this
  have hno := nd_ok h.tr k
  have HT := hidMk (fun (W : World) (b : Below w.heap.size w W) => h.tr.below b)
  obtain ⟨was, hwas⟩ := Option.isSome_iff_exists.1 hh
  have H4 := hidMk (fun (W : World) (b : Below w.heap.size w W) => put_any s H k ⟨zId, ⟨#[]⟩, true⟩ was W (h.below b) hk zId_ok hwas)
  have HP := hidMk hp
  clear hh hp hwas
  unfold IdK.v
  go_enter Try.func20, Try.ntmps20
  go_wp2
  rename_i K1 aK
  obtain ⟨hx, bx, zx⟩ := box_id w k
  have ZX := hidMk zx
  clear zx
  generalize w.alloc (.cells k.c.toArray 37) = W at *
  have LW : Hid (∀ W', Below W.heap.size W W' → Below w.heap.size w W') := fun W' b' => bx.trans (b'.mono (by have := ZX.out; omega))
  refine prune3y W.heap.size W s.t w.heap.size k.v (.map (some s.bn)) (nd (lookN s.N) k).v false _ W _ rfl rfl rfl ((Below.refl _ _).drew) (fun W' b' => b'.size) ?_ ?_ ?_ ?_ ?_ ?_
  · intro W' b'
    exact load_id hk ((b'.block _ (by have := ZX.out; omega)).trans hx)
  · intro W' b'
    exact load_nodes (HT.out _ (LW.out _ b')).c0
  · intro W' b'
    exact look_node1 s.bn s.N W' k hk (HT.out _ (LW.out _ b')).nodes
  · intro W'
    have := field_pr W' (nd (lookN s.N) k) hno
    rwa [HP.out] at this
  · intro W' b'
    exact H1.out _ (LW.out _ b')
  · intro a' w2 b2 ha
    subst ha
    refine aK _ _ ?_
    clear aK
    have b3 := LW.out _ b2
    replace hx : IdAt w2 w.heap.size k := (b2.block _ (by have := ZX.out; omega)).trans hx
    simp only [Act.put, List.setIfInBounds_toArray, List.set_cons_zero, List.set_cons_succ]
    clear bx b2 LW
    go_wp2_with (first
      | (refine wpList_val rfl (exec_load (t := 37) (u := .pointer (some ⟨w.heap.size, 0, none⟩)) rfl rfl (load_id hk hx)) ?_)
      | (go_at_call 51; refine (H4.out _ b3).mono ?_; intro e w4 hd4; have hd5 := Did.of_below b3 hd4; obtain ⟨s', r, rfl, h8⟩ := hd4)
      | (refine wpList_val rfl (exec_bp rfl rfl) ?_)
      | fail)
    go_ret2
    exact hd5
end Go.Proofs.Ytoofljkgdjjllaa
