import Derived.Test.YtpmdlhlojifoeaaDoorHs
namespace Go.Proofs.YtpmdlhlojifoeaaDoor
open Go.RowKit
set_option linter.unusedVariables false
set_option linter.unusedSimpArgs false

/-- Who owns a block: what is new is i's. -/
def nw (T : Nat → Nat) (w : World) (i : Nat) : Nat → Nat := fun y => if y < w.heap.size then T y else i
theorem nw_old {T : Nat → Nat} {w : World} {i y : Nat} (h : y < w.heap.size) : nw T w i y = T y := if_pos h
theorem nw_new {T : Nat → Nat} {w : World} {i y : Nat} (h : w.heap.size ≤ y) : nw T w i y = i := if_neg (by omega)

/-- All is as it was, but for what i owns. -/
structure Fr (B : Nat) (T : Nat → Nat) (i : Nat) (w w' : World) : Prop where
  os : w'.os = w.os
  tape : w'.tape = w.tape
  output : w'.output = w.output
  size : w.heap.size ≤ w'.heap.size
  block : ∀ k, k < w.heap.size → (k < B ∨ T k ≠ i) → w'.heap[k]? = w.heap[k]?
theorem Fr.below {B : Nat} {T : Nat → Nat} {i : Nat} {w w' : World} (h : Fr B T i w w') (hB : B ≤ w.heap.size) : Below B w w' := ⟨h.os, h.tape, h.output, h.size, fun k hk => h.block k (by omega) (.inl hk)⟩
theorem Fr.of_below {B : Nat} {T : Nat → Nat} {i : Nat} {w w' : World} (h : Below w.heap.size w w') : Fr B T i w w' := ⟨h.os, h.tape, h.output, h.size, fun k hk _ => h.block k hk⟩
theorem Fr.of_but {B : Nat} {T : Nat → Nat} {i g : Nat} {w w' : World} (h : But g w w') (hg : B ≤ g) (ht : T g = i) : Fr B T i w w' := ⟨h.os, h.tape, h.output, h.size, fun k hk hn => h.block k hk fun e => by
  subst e
  rcases hn with hn | hn
  · omega
  · exact hn ht⟩
theorem Fr.of_grown {B : Nat} {T : Nat → Nat} {i : Nat} {row : Option Nat} {w w' : World} (h : w.grownBy w' row) (hr : ∀ k, row = some k → B ≤ k ∧ T k = i) : Fr B T i w w' := ⟨h.os, h.tape, h.output, h.size, fun k hk hn => h.block k hk fun e => by
  obtain ⟨h1, h2⟩ := hr k e.symm
  rcases hn with hn | hn
  · omega
  · exact hn h2⟩

theorem ownsRow_keep {w w' : World} {base : Nat} {e : TypeId} {size : Nat} {v : Value} {n : Nat} {xs : List Value} (h : w.ownsRow base e size v n xs) (hb : ∀ g, v.ownBlock = some g → w'.heap[g]? = w.heap[g]?) : w'.ownsRow base e size v n xs := by
  refine ⟨h.1, ?_⟩
  rcases h.2 with hn | ⟨g, cap, cur, rfl, hbg, hg, rest⟩
  · exact .inl hn
  · exact .inr ⟨g, cap, cur, rfl, hbg, by rw [hb g rfl]; exact hg, rest⟩
theorem rep_of {w w' : World} {g : Nat} {m : List UInt8} (h : Rep w g m) (e : w'.heap[g]? = w.heap[g]?) : Rep w' g m := by
  obtain ⟨bl, hg, h1, h2⟩ := h
  exact ⟨bl, e.trans hg, h1, h2⟩

/-! The program's hashers. -/
def pl (e : Option (Nat × List UInt8)) : Value := .pointer (e.map fun x => ⟨x.1, 0, none⟩)
structure HL (B : Nat) (T : Nat → Nat) (w : World) (lv : Value) (E : List (Option (Nat × List UInt8))) : Prop where
  own : w.ownsRow B 35 1 lv E.length (E.map pl)
  tag : ∀ b, lv.ownBlock = some b → T b = 0
  rep : ∀ (j g : Nat) (m : List UInt8), E[j]? = some (some (g, m)) → Rep w g m ∧ B ≤ g ∧ T g = 2 * j + 4

theorem HL.keep {B : Nat} {T : Nat → Nat} {w w' : World} {lv : Value} {E : List (Option (Nat × List UInt8))} {i : Nat} (h : HL B T w lv E) (f : Fr B T i w w') (hi : i % 2 = 1 ∨ i = 2) : HL B (nw T w i) w' lv E := by
  refine ⟨ownsRow_keep h.own fun b hb => ?_, fun b hb => ?_, fun j g m hj => ?_⟩
  · have l := World.ownsRow.lt h.own b hb
    exact f.block b l.2 (.inr (by rw [h.tag b hb]; omega))
  · rw [nw_old (World.ownsRow.lt h.own b hb).2]; exact h.tag b hb
  · obtain ⟨r, h1, h2⟩ := h.rep j g m hj
    exact ⟨rep_of r (f.block g (rep_lt r) (.inr (by rw [h2]; omega))), h1, by rw [nw_old (rep_lt r)]; exact h2⟩
theorem HL.app {B : Nat} {T : Nat → Nat} {w w' : World} {lv lv' : Value} {E : List (Option (Nat × List UInt8))} (h : HL B T w lv E) (x : Option (Nat × List UInt8))
    (hx : ∀ g m, x = some (g, m) → Rep w g m ∧ B ≤ g ∧ T g = 2 * E.length + 4) (own' : w'.ownsRow B 35 1 lv' (E.length + 1) (E.map pl ++ [pl x])) (gr : w.grownBy w' lv.ownBlock)
    (at' : lv'.ownBlock = lv.ownBlock ∨ lv'.ownBlock = some w.heap.size) : HL B (nw T w 0) w' lv' (E ++ [x]) ∧ Fr B T 0 w w' := by
  have f : Fr B T 0 w w' := Fr.of_grown gr fun k hk => ⟨(World.ownsRow.lt h.own k hk).1, h.tag k hk⟩
  refine ⟨⟨by simpa using own', fun b hb => ?_, fun j g m hj => ?_⟩, f⟩
  · rcases at' with e | e
    · rw [e] at hb
      rw [nw_old (World.ownsRow.lt h.own b hb).2]; exact h.tag b hb
    · rw [e] at hb; cases hb; exact nw_new (Nat.le_refl _)
  · have hR : Rep w g m ∧ B ≤ g ∧ T g = 2 * j + 4 := by
      by_cases hjl : j < E.length
      · rw [List.getElem?_append_left hjl] at hj
        exact h.rep j g m hj
      · rw [List.getElem?_append_right (by omega)] at hj
        have : j = E.length := by
          have := (List.getElem?_eq_some_iff.1 hj).1
          simp at this; omega
        subst this
        simp at hj
        exact hx g m hj
    obtain ⟨r, h1, h2⟩ := hR
    exact ⟨rep_of r (f.block g (rep_lt r) (.inr (by rw [h2]; omega))), h1, by rw [nw_old (rep_lt r)]; exact h2⟩
theorem map_set_same {α β : Type} (p : α → β) (E : List α) (j : Nat) (x y : α) (hj : E[j]? = some x) (h : p y = p x) : (E.set j y).map p = E.map p := by
  apply List.ext_getElem?
  intro k
  rw [List.getElem?_map, List.getElem?_map, List.getElem?_set]
  by_cases e : j = k
  · subst e
    have hl := (List.getElem?_eq_some_iff.1 hj).1
    rw [if_pos rfl, if_pos hl, hj]
    simp [h]
  · rw [if_neg e]
theorem HL.set {B : Nat} {T : Nat → Nat} {w w' : World} {lv : Value} {E : List (Option (Nat × List UInt8))} {j g : Nat} {m m' : List UInt8} (h : HL B T w lv E) (hj : E[j]? = some (some (g, m))) (f : Fr B T (2 * j + 4) w w') (r : Rep w' g m') :
    HL B (nw T w (2 * j + 4)) w' lv (E.set j (some (g, m'))) := by
  have hl := (List.getElem?_eq_some_iff.1 hj).1
  refine ⟨?_, fun b hb => ?_, fun k g2 m2 hk => ?_⟩
  · rw [map_set_same pl E j (some (g, m)) (some (g, m')) hj rfl, List.length_set]
    refine ownsRow_keep h.own fun b hb => ?_
    exact f.block b (World.ownsRow.lt h.own b hb).2 (.inr (by rw [h.tag b hb]; omega))
  · rw [nw_old (World.ownsRow.lt h.own b hb).2]; exact h.tag b hb
  · rw [List.getElem?_set] at hk
    by_cases e : j = k
    · subst e
      rw [if_pos rfl, if_pos hl] at hk
      simp at hk
      obtain ⟨rfl, rfl⟩ := hk
      obtain ⟨r0, h1, h2⟩ := h.rep j g m hj
      exact ⟨r, h1, by rw [nw_old (rep_lt r0)]; exact h2⟩
    · rw [if_neg e] at hk
      obtain ⟨r0, h1, h2⟩ := h.rep k g2 m2 hk
      exact ⟨rep_of r0 (f.block g2 (rep_lt r0) (.inr (by rw [h2]; omega))), h1, by rw [nw_old (rep_lt r0)]; exact h2⟩

/-! The reference's. -/
/-- A Hasher of the reference at block h, its row v, that was written m. -/
def RR (B : Nat) (w : World) (h : Nat) (v : Value) (m : List UInt8) : Prop := w.heap[h]? = some (.cells #[v] 64 (0, 0)) ∧ OwnB w B v m
theorem RR.lt {B : Nat} {w : World} {h : Nat} {v : Value} {m : List UInt8} (r : RR B w h v m) : h < w.heap.size := (Array.getElem?_eq_some_iff.1 r.1).1
theorem RR.keep {B : Nat} {w w' : World} {h : Nat} {v : Value} {m : List UInt8} (r : RR B w h v m) (e : w'.heap[h]? = w.heap[h]?) (e2 : ∀ b, v.ownBlock = some b → w'.heap[b]? = w.heap[b]?) : RR B w' h v m :=
  ⟨e.trans r.1, ownsRow_keep r.2 e2⟩
def pm (e : Option (Nat × Value × List UInt8)) : Value := .pointer (e.map fun x => ⟨x.1, 0, none⟩)
structure HM (B : Nat) (T : Nat → Nat) (w : World) (mv : Value) (E : List (Option (Nat × Value × List UInt8))) : Prop where
  own : w.ownsRow B 38 1 mv E.length (E.map pm)
  tag : ∀ b, mv.ownBlock = some b → T b = 1
  rep : ∀ (j h : Nat) (v : Value) (m : List UInt8), E[j]? = some (some (h, v, m)) → RR B w h v m ∧ B ≤ h ∧ T h = 2 * j + 5 ∧ ∀ b, v.ownBlock = some b → T b = 2 * j + 5

theorem HM.keep {B : Nat} {T : Nat → Nat} {w w' : World} {lv : Value} {E : List (Option (Nat × Value × List UInt8))} {i : Nat} (h : HM B T w lv E) (f : Fr B T i w w') (hi : i % 2 = 0) : HM B (nw T w i) w' lv E := by
  refine ⟨ownsRow_keep h.own fun b hb => ?_, fun b hb => ?_, fun j g v m hj => ?_⟩
  · have l := World.ownsRow.lt h.own b hb
    exact f.block b l.2 (.inr (by rw [h.tag b hb]; omega))
  · rw [nw_old (World.ownsRow.lt h.own b hb).2]; exact h.tag b hb
  · obtain ⟨r, h1, h2, h3⟩ := h.rep j g v m hj
    exact ⟨r.keep (f.block g r.lt (.inr (by rw [h2]; omega))) fun b hb => f.block b (World.ownsRow.lt r.2 b hb).2 (.inr (by rw [h3 b hb]; omega)), h1, by rw [nw_old r.lt]; exact h2,
      fun b hb => by rw [nw_old (World.ownsRow.lt r.2 b hb).2]; exact h3 b hb⟩
theorem HM.app {B : Nat} {T : Nat → Nat} {w w' : World} {lv lv' : Value} {E : List (Option (Nat × Value × List UInt8))} (h : HM B T w lv E) (x : Option (Nat × Value × List UInt8))
    (hx : ∀ g v m, x = some (g, v, m) → RR B w g v m ∧ B ≤ g ∧ T g = 2 * E.length + 5 ∧ ∀ b, v.ownBlock = some b → T b = 2 * E.length + 5) (own' : w'.ownsRow B 38 1 lv' (E.length + 1) (E.map pm ++ [pm x])) (gr : w.grownBy w' lv.ownBlock)
    (at' : lv'.ownBlock = lv.ownBlock ∨ lv'.ownBlock = some w.heap.size) : HM B (nw T w 1) w' lv' (E ++ [x]) ∧ Fr B T 1 w w' := by
  have f : Fr B T 1 w w' := Fr.of_grown gr fun k hk => ⟨(World.ownsRow.lt h.own k hk).1, h.tag k hk⟩
  refine ⟨⟨by simpa using own', fun b hb => ?_, fun j g v m hj => ?_⟩, f⟩
  · rcases at' with e | e
    · rw [e] at hb
      rw [nw_old (World.ownsRow.lt h.own b hb).2]; exact h.tag b hb
    · rw [e] at hb; cases hb; exact nw_new (Nat.le_refl _)
  · have hR : RR B w g v m ∧ B ≤ g ∧ T g = 2 * j + 5 ∧ ∀ b, v.ownBlock = some b → T b = 2 * j + 5 := by
      by_cases hjl : j < E.length
      · rw [List.getElem?_append_left hjl] at hj
        exact h.rep j g v m hj
      · rw [List.getElem?_append_right (by omega)] at hj
        have : j = E.length := by
          have := (List.getElem?_eq_some_iff.1 hj).1
          simp at this; omega
        subst this
        simp at hj
        exact hx g v m hj
    obtain ⟨r, h1, h2, h3⟩ := hR
    exact ⟨r.keep (f.block g r.lt (.inr (by rw [h2]; omega))) fun b hb => f.block b (World.ownsRow.lt r.2 b hb).2 (.inr (by rw [h3 b hb]; omega)), h1, by rw [nw_old r.lt]; exact h2,
      fun b hb => by rw [nw_old (World.ownsRow.lt r.2 b hb).2]; exact h3 b hb⟩
theorem HM.set {B : Nat} {T : Nat → Nat} {w w' : World} {lv v v' : Value} {E : List (Option (Nat × Value × List UInt8))} {j g : Nat} {m m' : List UInt8} (h : HM B T w lv E) (hj : E[j]? = some (some (g, v, m))) (f : Fr B T (2 * j + 5) w w') (r : RR B w' g v' m')
    (at' : v'.ownBlock = v.ownBlock ∨ ∃ b, v'.ownBlock = some b ∧ w.heap.size ≤ b) :
    HM B (nw T w (2 * j + 5)) w' lv (E.set j (some (g, v', m'))) := by
  have hl := (List.getElem?_eq_some_iff.1 hj).1
  refine ⟨?_, fun b hb => ?_, fun k g2 v2 m2 hk => ?_⟩
  · rw [map_set_same pm E j (some (g, v, m)) (some (g, v', m')) hj rfl, List.length_set]
    refine ownsRow_keep h.own fun b hb => ?_
    exact f.block b (World.ownsRow.lt h.own b hb).2 (.inr (by rw [h.tag b hb]; omega))
  · rw [nw_old (World.ownsRow.lt h.own b hb).2]; exact h.tag b hb
  · rw [List.getElem?_set] at hk
    by_cases e : j = k
    · subst e
      rw [if_pos rfl, if_pos hl] at hk
      simp at hk
      obtain ⟨rfl, rfl, rfl⟩ := hk
      obtain ⟨r0, h1, h2, h3⟩ := h.rep j g v m hj
      refine ⟨r, h1, by rw [nw_old r0.lt]; exact h2, fun b hb => ?_⟩
      rcases at' with e | ⟨b', e, hb'⟩
      · rw [e] at hb
        rw [nw_old (World.ownsRow.lt r0.2 b hb).2]; exact h3 b hb
      · rw [e] at hb; cases hb; exact nw_new hb'
    · rw [if_neg e] at hk
      obtain ⟨r0, h1, h2, h3⟩ := h.rep k g2 v2 m2 hk
      exact ⟨r0.keep (f.block g2 r0.lt (.inr (by rw [h2]; omega))) fun b hb => f.block b (World.ownsRow.lt r0.2 b hb).2 (.inr (by rw [h3 b hb]; omega)), h1, by rw [nw_old r0.lt]; exact h2,
        fun b hb => by rw [nw_old (World.ownsRow.lt r0.2 b hb).2]; exact h3 b hb⟩
end Go.Proofs.YtpmdlhlojifoeaaDoor
