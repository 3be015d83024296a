import Derived.Test.YtoofljkgdjjllaaTi
namespace Go.Proofs.Ytoofljkgdjjllaa
open Go.RowKit
set_option linter.unusedVariables false
set_option linter.unusedSimpArgs false

/-- A forest as a function: who is there, and where. -/
abbrev Fn := IdK → Option NodeV
def nd (f : Fn) (k : IdK) : NodeV := (f k).getD zNode
/-- The nodes above one, and whether it ends at a pruned one. -/
inductive Climb (f : Fn) : IdK → List IdK → Bool → Prop
  | top {k : IdK} : (nd f k).pr = true ∨ (nd f k).u = zId → Climb f k [] (nd f k).pr
  | up {k : IdK} {l : List IdK} {p : Bool} : (nd f k).pr = false → (nd f k).u ≠ zId → Climb f (nd f k).u l p → Climb f k ((nd f k).u :: l) p
theorem Climb.same {f : Fn} {k : IdK} {l l' : List IdK} {p p' : Bool} (h : Climb f k l p) (h' : Climb f k l' p') : l = l' ∧ p = p' := by
  induction h generalizing l' p' with
  | top h =>
    cases h' with
    | top _ => exact ⟨rfl, rfl⟩
    | up a b _ => rcases h with h | h
                  · rw [h] at a; cases a
                  · exact absurd h b
  | up a b _ ih =>
    cases h' with
    | top h => rcases h with h | h
               · rw [h] at a; cases a
               · exact absurd h b
    | up _ _ c => obtain ⟨rfl, rfl⟩ := ih c; exact ⟨rfl, rfl⟩
def upd (f : Fn) (k : IdK) (n : Option NodeV) : Fn := fun x => if x = k then n else f x
theorem upd_ne {f : Fn} {k x : IdK} {n : Option NodeV} (h : x ≠ k) : upd f k n x = f x := by simp [upd, h]
theorem upd_same (f : Fn) (k : IdK) (n : Option NodeV) : upd f k n k = n := by simp [upd]
theorem nd_ne {f : Fn} {k x : IdK} {n : Option NodeV} (h : x ≠ k) : nd (upd f k n) x = nd f x := by simp [nd, upd_ne h]
theorem nd_same (f : Fn) (k : IdK) (n : NodeV) : nd (upd f k (some n)) k = n := by simp [nd, upd_same]
theorem Climb.avoid {f : Fn} {k x : IdK} {n : Option NodeV} {l : List IdK} {p : Bool} (h : Climb f x l p) (hx : x ≠ k) (hl : k ∉ l) : Climb (upd f k n) x l p := by
  induction h with
  | top h => have e := nd_ne (n := n) (f := f) hx; rw [← e]; rw [← e] at h; exact .top h
  | @up x l p a b _ ih =>
    have e := nd_ne (n := n) (f := f) hx
    have h1 : (nd f x).u ≠ k := fun q => hl (by rw [q]; exact List.mem_cons_self ..)
    have h2 := ih h1 (fun q => hl (List.mem_cons_of_mem _ q))
    rw [← e] at a b h2 ⊢
    exact .up a b h2
theorem Climb.over {f : Fn} {k : IdK} {n : Option NodeV} (hk : ∃ l p, Climb (upd f k n) k l p) {x : IdK} {l : List IdK} {p : Bool} (h : Climb f x l p) : ∃ l p, Climb (upd f k n) x l p := by
  induction h with
  | @top x h =>
    by_cases e : x = k
    · subst e; exact hk
    · have e := nd_ne (n := n) (f := f) e
      rw [← e] at h
      exact ⟨_, _, .top h⟩
  | @up x l p a b _ ih =>
    by_cases e : x = k
    · subst e; exact hk
    · have e := nd_ne (n := n) (f := f) e
      obtain ⟨l2, p2, h2⟩ := ih
      rw [← e] at a b h2
      exact ⟨_, _, .up a b h2⟩
/-- What every tree keeps to. -/
structure Forest (f : Fn) : Prop where
  zero : f zId = none
  under : ∀ k n, f k = some n → n.pr = false → n.u ≠ zId → (f n.u).isSome = true
  bare : ∀ k n, f k = some n → n.pr = true → n.u = zId ∧ n.key = ⟨#[]⟩
  ends : ∀ k, ∃ l p, Climb f k l p
theorem forest_none : Forest (fun _ => none) := ⟨rfl, fun _ _ h => (by cases h), fun _ _ h => (by cases h), fun k => ⟨_, _, .top (Or.inr rfl)⟩⟩
theorem Climb.there {f : Fn} (hf : Forest f) {x : IdK} {l : List IdK} {p : Bool} (h : Climb f x l p) : ∀ y ∈ l, (f y).isSome = true := by
  induction h with
  | top _ => intro y hy; cases hy
  | @up x l p a b _ ih =>
    intro y hy
    rcases List.mem_cons.1 hy with rfl | hy
    · cases e : f x with
      | none => rw [nd, e] at b; exact absurd rfl b
      | some n => rw [nd, e] at a b ⊢; exact hf.under x n e a b
    · exact ih y hy
theorem Forest.put {f : Fn} (h : Forest f) {k u : IdK} {key : ByteArray} (hk : k ≠ zId) (hu : u = zId ∨ (f u).isSome = true) (hc : u = zId ∨ ∃ l p, Climb f u l p ∧ u ≠ k ∧ k ∉ l) : Forest (upd f k (some ⟨u, key, false⟩)) := by
  refine ⟨by rw [upd_ne (Ne.symm hk)]; exact h.zero, fun x n hx hp hn => ?_, fun x n hx hp => ?_, fun x => ?_⟩
  · by_cases e : n.u = k
    · rw [e, upd_same]; rfl
    · rw [upd_ne e]
      by_cases e2 : x = k
      · subst e2
        rw [upd_same] at hx
        obtain rfl := Option.some.inj hx
        rcases hu with hu | hu
        · exact absurd hu hn
        · exact hu
      · rw [upd_ne e2] at hx
        exact h.under x n hx hp hn
  · by_cases e2 : x = k
    · subst e2
      rw [upd_same] at hx
      obtain rfl := Option.some.inj hx
      cases hp
    · rw [upd_ne e2] at hx
      exact h.bare x n hx hp
  · obtain ⟨l, p, hx⟩ := h.ends x
    refine hx.over ?_
    have e := nd_same f k ⟨u, key, false⟩
    by_cases hz : u = zId
    · exact ⟨_, _, .top (Or.inr (by rw [e]; exact hz))⟩
    · obtain ⟨l, p, hc, hne, hl⟩ := hc.resolve_left hz
      have h2 := hc.avoid (n := some ⟨u, key, false⟩) hne hl
      refine ⟨_, _, .up (by rw [e]) (by rw [e]; exact hz) (by rw [e]; exact h2)⟩
theorem Forest.grow {f : Fn} (h : Forest f) {k u : IdK} {key : ByteArray} (hk : k ≠ zId) (hn : f k = none) (hu : u = zId ∨ (f u).isSome = true) : Forest (upd f k (some ⟨u, key, false⟩)) := by
  refine h.put hk hu ?_
  rcases hu with hu | hu
  · exact Or.inl hu
  · refine Or.inr ?_
    obtain ⟨l, p, hc⟩ := h.ends u
    refine ⟨l, p, hc, fun e => ?_, fun hm => ?_⟩
    · rw [e, hn] at hu; cases hu
    · have := hc.there h k hm
      rw [hn] at this; cases this
theorem Forest.prune {f : Fn} (h : Forest f) {k : IdK} (hk : k ≠ zId) : Forest (upd f k (some ⟨zId, ⟨#[]⟩, true⟩)) := by
  refine ⟨by rw [upd_ne (Ne.symm hk)]; exact h.zero, fun x n hx hp hn => ?_, fun x n hx hp => ?_, fun x => ?_⟩
  · by_cases e : n.u = k
    · rw [e, upd_same]; rfl
    · rw [upd_ne e]
      by_cases e2 : x = k
      · subst e2
        rw [upd_same] at hx
        obtain rfl := Option.some.inj hx
        cases hp
      · rw [upd_ne e2] at hx
        exact h.under x n hx hp hn
  · by_cases e2 : x = k
    · subst e2
      rw [upd_same] at hx
      obtain rfl := Option.some.inj hx
      exact ⟨rfl, rfl⟩
    · rw [upd_ne e2] at hx
      exact h.bare x n hx hp
  · obtain ⟨l, p, hx⟩ := h.ends x
    refine hx.over ⟨_, _, .top (Or.inl ?_)⟩
    rw [nd_same]
/-- No node is twice on the way up. -/
theorem Climb.tail {f : Fn} {x : IdK} {l : List IdK} {p : Bool} (h : Climb f x l p) : ∀ y ∈ l, ∃ l2, Climb f y l2 p ∧ l2.length < l.length := by
  induction h with
  | top _ => intro y hy; cases hy
  | @up x l p a b c ih =>
    intro y hy
    rcases List.mem_cons.1 hy with rfl | hy
    · exact ⟨l, c, by simp⟩
    · obtain ⟨l2, h2, h3⟩ := ih y hy
      exact ⟨l2, h2, by simp; omega⟩
theorem Climb.nodup {f : Fn} {x : IdK} {l : List IdK} {p : Bool} (h : Climb f x l p) : l.Nodup := by
  induction h with
  | top _ => exact List.nodup_nil
  | @up x l p a b c ih =>
    refine List.nodup_cons.2 ⟨fun hm => ?_, ih⟩
    obtain ⟨l2, h2, h3⟩ := c.tail _ hm
    have := (c.same h2).1
    rw [this] at h3
    omega
end Go.Proofs.Ytoofljkgdjjllaa
