import Derived.Test.YtpalbfkkegaliaaRfi
namespace Go.Proofs.Ytpalbfkkegaliaa
open Go.RowKit
set_option linter.unusedVariables false
set_option linter.unusedSimpArgs false

/-- How many digits tell the pairs apart. -/
def LeadP (R : List UInt8 → List UInt8 → Prop) (n : Nat) : Prop :=
  (∀ a b, R a b → a ≠ b → cm a b < n) ∧ (n = 0 ∨ ∃ a b, R a b ∧ a ≠ b ∧ cm a b + 1 = n)
theorem LeadP.zero {R : List UInt8 → List UInt8 → Prop} (h : ∀ a b, ¬ R a b) : LeadP R 0 := ⟨fun a b r => absurd r (h a b), .inl rfl⟩
theorem LeadP.same {R R' : List UInt8 → List UInt8 → Prop} {n : Nat} (h : LeadP R n) (e : ∀ a b, R' a b ↔ R a b) : LeadP R' n :=
  ⟨fun a b r => h.1 a b ((e a b).1 r), by
    rcases h.2 with h2 | ⟨a, b, r, h3⟩
    · exact .inl h2
    · exact .inr ⟨a, b, (e a b).2 r, h3⟩⟩
/-- One pair more. -/
def upL (x y : List UInt8) (n : Nat) : Nat := if x = y then n else max n (cm x y + 1)
theorem LeadP.more {R R' : List UInt8 → List UInt8 → Prop} {n : Nat} {x y : List UInt8} (h : LeadP R n) (e : ∀ a b, R' a b ↔ R a b ∨ (a = x ∧ b = y)) : LeadP R' (upL x y n) := by
  unfold upL
  by_cases hxy : x = y
  · rw [if_pos hxy]
    refine ⟨fun a b r hab => ?_, ?_⟩
    · rcases (e a b).1 r with r | ⟨rfl, rfl⟩
      · exact h.1 a b r hab
      · exact absurd hxy hab
    · rcases h.2 with h2 | ⟨a, b, r, h3⟩
      · exact .inl h2
      · exact .inr ⟨a, b, (e a b).2 (.inl r), h3⟩
  · rw [if_neg hxy]
    refine ⟨fun a b r hab => ?_, ?_⟩
    · rcases (e a b).1 r with r | ⟨rfl, rfl⟩
      · have := h.1 a b r hab; omega
      · omega
    · by_cases hm : n ≤ cm x y + 1
      · exact .inr ⟨x, y, (e x y).2 (.inr ⟨rfl, rfl⟩), hxy, by omega⟩
      · rcases h.2 with h2 | ⟨a, b, r, h3, h4⟩
        · omega
        · exact .inr ⟨a, b, (e a b).2 (.inl r), h3, by omega⟩
theorem LeadP.le {R : List UInt8 → List UInt8 → Prop} {n : Nat} (h : LeadP R n) (h32 : ∀ a b, R a b → a.length = 32 ∧ b.length = 32) : n ≤ 64 := by
  rcases h.2 with h2 | ⟨a, b, r, h3, h4⟩
  · omega
  · have := cm_lt (h32 a b r).1 (h32 a b r).2 h3
    omega
theorem upL_le {x y : List UInt8} (hx : x.length = 32) (hy : y.length = 32) {n : Nat} (h : n ≤ 64) : upL x y n ≤ 64 := by
  unfold upL
  split
  · exact h
  · rename_i hxy
    have := cm_lt hx hy hxy
    omega
/-- The pairs of a list, by places. -/
def Prs (L : List (List UInt8)) (i j : Nat) (a b : List UInt8) : Prop := ∃ p q : Nat, L[p]? = some a ∧ L[q]? = some b ∧ (p < i ∧ q < p ∨ p = i ∧ q < j)
theorem prs_zero (L : List (List UInt8)) (a b : List UInt8) : ¬ Prs L 0 0 a b := by
  rintro ⟨p, q, _, _, h | h⟩ <;> omega
theorem prs_more {L : List (List UInt8)} {i j : Nat} {x y : List UInt8} (hx : L[i]? = some x) (hy : L[j]? = some y) (a b : List UInt8) : Prs L i (j + 1) a b ↔ Prs L i j a b ∨ (a = x ∧ b = y) := by
  constructor
  · rintro ⟨p, q, h1, h2, h⟩
    by_cases e : p = i ∧ q = j
    · obtain ⟨rfl, rfl⟩ := e
      rw [h1] at hx; rw [h2] at hy
      cases hx; cases hy
      exact .inr ⟨rfl, rfl⟩
    · exact .inl ⟨p, q, h1, h2, by omega⟩
  · rintro (⟨p, q, h1, h2, h⟩ | ⟨rfl, rfl⟩)
    · exact ⟨p, q, h1, h2, by omega⟩
    · exact ⟨i, j, hx, hy, by omega⟩
theorem prs_next {L : List (List UInt8)} {i : Nat} (a b : List UInt8) : Prs L (i + 1) 0 a b ↔ Prs L i i a b := by
  constructor
  · rintro ⟨p, q, h1, h2, h⟩; exact ⟨p, q, h1, h2, by omega⟩
  · rintro ⟨p, q, h1, h2, h⟩; exact ⟨p, q, h1, h2, by omega⟩
/-- All pairs tell all. -/
theorem lead_of_prs {L : List (List UInt8)} {n : Nat} (h : LeadP (Prs L L.length 0) n) : IsLead (fun x => x ∈ L) n := by
  refine ⟨fun a b ha hb hab => ?_, ?_⟩
  · obtain ⟨p, hp⟩ := List.mem_iff_getElem?.1 ha
    obtain ⟨q, hq⟩ := List.mem_iff_getElem?.1 hb
    have lp := (List.getElem?_eq_some_iff.1 hp).1
    have lq := (List.getElem?_eq_some_iff.1 hq).1
    by_cases e : p = q
    · subst e; rw [hp] at hq; exact absurd (Option.some.inj hq) hab
    · by_cases h2 : q < p
      · exact h.1 a b ⟨p, q, hp, hq, by omega⟩ hab
      · rw [cm_comm]; exact h.1 b a ⟨q, p, hq, hp, by omega⟩ (fun e => hab e.symm)
  · rcases h.2 with h2 | ⟨a, b, ⟨p, q, hp, hq, _⟩, h3⟩
    · exact .inl h2
    · exact .inr ⟨a, b, List.mem_of_getElem? hp, List.mem_of_getElem? hq, h3⟩
theorem hexl_agree {x y : List UInt8} {n : Nat} : hexl x n = hexl y n ↔ Agree x y n := by
  constructor
  · intro e j hj
    have h1 := at8_hexl x n j hj
    have h2 := at8_hexl y n j hj
    rw [e, h2] at h1
    have h3 := congrArg dgVal h1
    rw [(hx_all _ (dig_bd y j).1 (dig_bd y j).2).2, (hx_all _ (dig_bd x j).1 (dig_bd x j).2).2] at h3
    exact h3.symm
  · intro h
    unfold hexl
    apply List.map_congr_left
    intro j hj
    rw [h j (by simpa using hj)]
theorem cut_same {x y : List UInt8} {n : Nat} (hn : n ≤ 64) : ((⟨(hexl x n).toArray⟩ : ByteArray).toList == (⟨(hexl y n).toArray⟩ : ByteArray).toList) = decide (n ≤ cm x y) := by
  rw [ByteArray.toList_eq, ByteArray.toList_eq]
  by_cases h : n ≤ cm x y
  · have e := hexl_agree.2 ((le_cm hn).1 h)
    simp [h, e]
  · have e : ¬ hexl x n = hexl y n := fun e => h ((le_cm hn).2 (hexl_agree.1 e))
    simp [h, e]
end Go.Proofs.Ytpalbfkkegaliaa
