import Derived.Test.YtgnichmemkglkaaDoorYa
import Derived.Deep.RegionHeld3
import Derived.Deep.Cut
namespace Go.Proofs.YtgnichmemkglkaaDoor
open Go.RowKit
set_option linter.unusedVariables false
set_option linter.unusedSimpArgs false

/-- The first of three numbers that is not 0. -/
def or3 (a b c : Int) : Int := if a = 0 then (if b = 0 then c else b) else a
def sel3 (a b c : Int) (k : Nat) : Int := if k = 0 then a else if k = 1 then b else c
/-- A step: its kind, its key, its number. -/
structure St where
  k : Int
  s : ByteArray
  n : Int
def St.c (p : St) : Array Value := #[.int .u8 p.k, .string p.s, .int .i64 p.n]
/-- How two steps stand. -/
def cSt (p q : St) : Int := or3 (cI p.k q.k) (cS p.s q.s) (cI p.n q.n)
theorem to_cSt : TO cSt := by
  have h := to_cI.lex (to_cS.lex to_cI)
  exact ⟨fun a b => h.anti (a.k, a.s, a.n) (b.k, b.s, b.n), fun a b d => h.le (a.k, a.s, a.n) (b.k, b.s, b.n) (d.k, d.s, d.n), fun a b d => h.lt (a.k, a.s, a.n) (b.k, b.s, b.n) (d.k, d.s, d.n)⟩
theorem cI_bd (a b : Int) : -1 ≤ cI a b ∧ cI a b ≤ 1 := by unfold cI; repeat' split <;> omega
theorem cS_bd (a b : ByteArray) : -1 ≤ cS a b ∧ cS a b ≤ 1 := by rcases cS_val a b with ⟨_, e⟩ | ⟨_, e⟩ | ⟨_, e⟩ <;> rw [e] <;> omega
theorem cSt_bd (p q : St) : -1 ≤ cSt p q ∧ cSt p q ≤ 1 := by
  have := cI_bd p.k q.k
  have := cS_bd p.s q.s
  have := cI_bd p.n q.n
  unfold cSt or3
  repeat' split
  all_goals omega
theorem cI_zero {a b : Int} : cI a b = 0 ↔ a = b := by
  unfold cI
  constructor
  · intro h; split at h
    · omega
    · split at h <;> omega
  · rintro rfl; rw [if_neg (by omega), if_neg (by omega)]
theorem cS_zero {a b : ByteArray} : cS a b = 0 ↔ a = b := by
  have ext : a.toList = b.toList ↔ a = b := by
    rw [ByteArray.toList_eq, ByteArray.toList_eq]
    constructor
    · intro h
      obtain ⟨⟨x⟩⟩ := a
      obtain ⟨⟨y⟩⟩ := b
      simp at h
      subst h
      rfl
    · rintro rfl; rfl
  rw [← ext]
  rcases cS_val a b with ⟨p, e⟩ | ⟨p, e⟩ | ⟨p, e⟩ <;> rw [e]
  · constructor
    · intro h; omega
    · intro h; rw [h, bl_irrefl] at p; cases p
  · exact ⟨fun _ => p, fun _ => rfl⟩
  · constructor
    · intro h; omega
    · intro h; rw [h, bl_irrefl] at p; cases p
theorem cSt_zero {p q : St} : cSt p q = 0 ↔ p = q := by
  obtain ⟨k, s, n⟩ := p
  obtain ⟨k', s', n'⟩ := q
  have a := @cI_zero k k'
  have b := @cS_zero s s'
  have c := @cI_zero n n'
  simp only [cSt, or3, St.mk.injEq]
  rw [← a, ← b, ← c]
  constructor
  · intro h
    split at h
    · split at h
      · rename_i h1 h2; exact ⟨h1, h2, h⟩
      · omega
    · omega
  · rintro ⟨h1, h2, h3⟩
    rw [if_pos h1, if_pos h2, h3]
/-- How two ways stand. -/
def cL : List St → List St → Int
  | [], [] => 0
  | [], _ :: _ => -1
  | _ :: _, [] => 1
  | a :: x, b :: y => or2 (cSt a b) (cL x y)
theorem cL_bd : ∀ (x y : List St), -1 ≤ cL x y ∧ cL x y ≤ 1
  | [], [] => by simp [cL]
  | [], _ :: _ => by simp [cL]
  | _ :: _, [] => by simp [cL]
  | a :: x, b :: y => by
    have := cSt_bd a b
    have := cL_bd x y
    simp only [cL, or2]
    split <;> omega
theorem cL_zero : ∀ {x y : List St}, cL x y = 0 ↔ x = y
  | [], [] => by simp [cL]
  | [], _ :: _ => by simp [cL]
  | _ :: _, [] => by simp [cL]
  | a :: x, b :: y => by
    have h := @cSt_zero a b
    have ih := @cL_zero x y
    simp only [cL, or2, List.cons.injEq, ← h, ← ih]
    constructor
    · intro e
      split at e
      · rename_i h1; exact ⟨h1, e⟩
      · omega
    · rintro ⟨e1, e2⟩
      rw [if_pos e1, e2]
theorem cL_anti : ∀ (x y : List St), cL y x = - cL x y
  | [], [] => by simp [cL]
  | [], _ :: _ => by simp [cL]
  | _ :: _, [] => by simp [cL]
  | a :: x, b :: y => by
    have h := to_cSt.anti a b
    have ih := cL_anti x y
    simp only [cL, or2]
    split <;> split <;> omega
theorem cL_le : ∀ (x y z : List St), cL x y ≤ 0 → cL y z ≤ 0 → cL x z ≤ 0 ∧ ((cL x y < 0 ∨ cL y z < 0) → cL x z < 0)
  | [], [], [], _, _ => by simp [cL]
  | [], [], _ :: _, _, _ => by simp [cL]
  | [], _ :: _, [], _, h => by simp [cL] at h
  | [], _ :: _, _ :: _, _, _ => by simp [cL]
  | _ :: _, [], _, h, _ => by simp [cL] at h
  | _ :: _, _ :: _, [], _, h => by simp [cL] at h
  | a :: x, b :: y, d :: z, h1, h2 => by
    have := to_cSt.le a b d
    have := to_cSt.lt a b d
    have := @TO.zero _ _ to_cSt a b d
    have ih := cL_le x y z
    simp only [cL, or2] at *
    split at h1 <;> split at h2
    · rename_i e1 e2
      have e3 := ‹cSt a b = 0 → cSt b d = 0 → cSt a d = 0› e1 e2
      obtain ⟨i1, i2⟩ := ih h1 h2
      rw [if_pos e3]
      refine ⟨i1, fun h => i2 ?_⟩
      rw [if_pos e1, if_pos e2] at h
      exact h
    · rename_i e1 e2
      have : cSt a d < 0 := ‹cSt a b ≤ 0 → cSt b d ≤ 0 → cSt a b < 0 ∨ cSt b d < 0 → cSt a d < 0› (by omega) h2 (.inr (by omega))
      rw [if_neg (by omega)]
      exact ⟨by omega, fun _ => this⟩
    · rename_i e1 e2
      have : cSt a d < 0 := ‹cSt a b ≤ 0 → cSt b d ≤ 0 → cSt a b < 0 ∨ cSt b d < 0 → cSt a d < 0› h1 (by omega) (.inl (by omega))
      rw [if_neg (by omega)]
      exact ⟨by omega, fun _ => this⟩
    · rename_i e1 e2
      have : cSt a d < 0 := ‹cSt a b ≤ 0 → cSt b d ≤ 0 → cSt a b < 0 ∨ cSt b d < 0 → cSt a d < 0› h1 h2 (.inl (by omega))
      rw [if_neg (by omega)]
      exact ⟨by omega, fun _ => this⟩
theorem cL_pre : ∀ (x y : List St), cL x (x ++ y) ≤ 0
  | [], [] => by simp [cL]
  | [], _ :: _ => by simp [cL]
  | a :: x, y => by
    have e : cSt a a = 0 := cSt_zero.2 rfl
    simp only [List.cons_append, cL, or2, e, if_true]
    exact cL_pre x y
theorem bel_box2 (w : World) (c d : Array Value) (t u : TypeId) : Below w.heap.size w ((w.alloc (.cells c t)).alloc (.cells d u)) := ((Below.refl _ _).alloc (Nat.le_refl _) _).alloc (by simp) _
end Go.Proofs.YtgnichmemkglkaaDoor
