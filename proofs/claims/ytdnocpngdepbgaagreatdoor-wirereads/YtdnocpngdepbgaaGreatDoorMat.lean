import Derived.WalkKit
import Derived.Test.YtdnocpngdepbgaaGreatDoorF
import Derived.Test.YtdnocpngdepbgaaGreatDoorCm
namespace Go.Proofs.YtdnocpngdepbgaaGreatDoor
open Go.RowKit
set_option linter.unusedVariables false
set_option linter.unusedSimpArgs false

/-- Two rows of 32 bytes have the same digits up to number n. -/
def Agree (a b : List UInt8) (n : Nat) : Prop := ∀ j, j < n → dig a j = dig b j
theorem Agree.mono {a b : List UInt8} {n m : Nat} (h : Agree a b n) (hm : m ≤ n) : Agree a b m := fun j hj => h j (by omega)
theorem Agree.symm {a b : List UInt8} {n : Nat} (h : Agree a b n) : Agree b a n := fun j hj => (h j hj).symm
theorem Agree.trans {a b c : List UInt8} {n : Nat} (h : Agree a b n) (k : Agree b c n) : Agree a c n := fun j hj => (h j hj).trans (k j hj)
theorem agree_zero (a b : List UInt8) : Agree a b 0 := fun j hj => by omega

theorem dig_even (h : List UInt8) (i : Nat) : dig h (2 * i) = at8 h i / 16 := by unfold dig; rw [if_pos (by omega), show 2 * i / 2 = i by omega]
theorem dig_odd (h : List UInt8) (i : Nat) : dig h (2 * i + 1) = at8 h i % 16 := by unfold dig; rw [if_neg (by omega), show (2 * i + 1) / 2 = i by omega]
theorem at8_dig (h : List UInt8) (i : Nat) : at8 h i = dig h (2 * i) * 16 + dig h (2 * i + 1) := by rw [dig_even, dig_odd]; have := at8_lo h i; omega

theorem agree_all {a b : List UInt8} (ha : a.length = 32) (hb : b.length = 32) (h : Agree a b 64) : a = b :=
  at8_ext 32 ha hb fun i hi => by rw [at8_dig, at8_dig, h (2 * i) (by omega), h (2 * i + 1) (by omega)]

/-- How many of the first n digits, counted from number k on, agree till one parts. -/
def cmF (a b : List UInt8) : Nat → Nat → Nat
  | 0, k => k
  | n + 1, k => if dig a k = dig b k then cmF a b n (k + 1) else k
/-- With how many digits both begin. -/
def cm (a b : List UInt8) : Nat := cmF a b 64 0
theorem cmF_spec (a b : List UInt8) : ∀ n k, Agree a b k → k ≤ cmF a b n k ∧ cmF a b n k ≤ k + n ∧ Agree a b (cmF a b n k) ∧ (cmF a b n k < k + n → dig a (cmF a b n k) ≠ dig b (cmF a b n k))
  | 0, k, h => ⟨Nat.le_refl _, by simp [cmF], h, by simp [cmF]⟩
  | n + 1, k, h => by
    unfold cmF
    split
    · rename_i e
      have h' : Agree a b (k + 1) := fun j hj => by
        by_cases ej : j = k
        · subst ej; exact e
        · exact h j (by omega)
      obtain ⟨h1, h2, h3, h4⟩ := cmF_spec a b n (k + 1) h'
      exact ⟨by omega, by omega, h3, fun hh => h4 (by omega)⟩
    · rename_i e
      exact ⟨Nat.le_refl _, by omega, h, fun _ => e⟩
theorem cm_le (a b : List UInt8) : cm a b ≤ 64 := by have := (cmF_spec a b 64 0 (agree_zero a b)).2.1; unfold cm; omega
theorem cm_agree (a b : List UInt8) : Agree a b (cm a b) := (cmF_spec a b 64 0 (agree_zero a b)).2.2.1
theorem cm_parts (a b : List UInt8) (h : cm a b < 64) : dig a (cm a b) ≠ dig b (cm a b) := (cmF_spec a b 64 0 (agree_zero a b)).2.2.2 (by unfold cm at h; omega)
theorem cm_eq {a b : List UInt8} {n : Nat} (hn : n ≤ 64) (h : Agree a b n) (hp : n < 64 → dig a n ≠ dig b n) : cm a b = n := by
  by_cases h1 : cm a b < n
  · exact absurd (h _ h1) (cm_parts a b (by omega))
  · by_cases h2 : n < cm a b
    · exact absurd (cm_agree a b n h2) (hp (by have := cm_le a b; omega))
    · omega
theorem le_cm {a b : List UInt8} {n : Nat} (hn : n ≤ 64) : n ≤ cm a b ↔ Agree a b n := by
  constructor
  · intro h; exact (cm_agree a b).mono h
  · intro h
    by_cases h1 : cm a b < n
    · exact absurd (h _ h1) (cm_parts a b (by omega))
    · omega
theorem cm_lt {a b : List UInt8} (ha : a.length = 32) (hb : b.length = 32) (h : a ≠ b) : cm a b < 64 := by
  by_cases h1 : cm a b < 64
  · exact h1
  · have := cm_le a b
    exact absurd (agree_all ha hb ((cm_agree a b).mono (by omega))) h
theorem cm_comm (a b : List UInt8) : cm a b = cm b a :=
  cm_eq (cm_le b a) (cm_agree b a).symm (fun h => fun e => cm_parts b a h e.symm)

/-- The first place at which two rows part. -/
theorem first_part {a b : List UInt8} (ha : a.length = 32) (hb : b.length = 32) (h : a ≠ b) : ∃ k, k < 32 ∧ (∀ j, j < k → at8 a j = at8 b j) ∧ at8 a k ≠ at8 b k := by
  have hc := cm_lt ha hb h
  have hg := cm_agree a b
  have hp := cm_parts a b hc
  refine ⟨cm a b / 2, by omega, fun j hj => ?_, fun e => hp ?_⟩
  · rw [at8_dig, at8_dig, hg (2 * j) (by omega), hg (2 * j + 1) (by omega)]
  · by_cases h2 : cm a b % 2 = 0
    · have e1 : cm a b = 2 * (cm a b / 2) := by omega
      rw [e1, dig_even, dig_even, e]
    · have e1 : cm a b = 2 * (cm a b / 2) + 1 := by omega
      rw [e1, dig_odd, dig_odd, e]

/-- Not behind: by digits. -/
theorem cmpL_digits {a b : List UInt8} (ha : a.length = 32) (hb : b.length = 32) (n : Nat) (hn : n < 64) (hg : Agree a b n) (h : dig a n < dig b n) : cmpL a b = -1 := by
  have hk : ∀ j, j < n / 2 → at8 a j = at8 b j := fun j hj => by rw [at8_dig, at8_dig, hg (2 * j) (by omega), hg (2 * j + 1) (by omega)]
  refine (cmpL_at a b (n / 2) (by omega) (by omega) hk).1 ?_
  by_cases h2 : n % 2 = 0
  · have e1 : n = 2 * (n / 2) := by omega
    rw [e1, dig_even, dig_even] at h
    omega
  · have e1 : n = 2 * (n / 2) + 1 := by omega
    have h3 := hg (2 * (n / 2)) (by omega)
    rw [dig_even, dig_even] at h3
    rw [e1, dig_odd, dig_odd] at h
    omega
theorem cmpL_neg {a b : List UInt8} (ha : a.length = 32) (hb : b.length = 32) : cmpL b a = - cmpL a b := by
  by_cases e : a = b
  · subst e; rw [cmpL_same]; rfl
  · obtain ⟨k, hk, h1, h2⟩ := first_part ha hb e
    have p := cmpL_at a b k (by omega) (by omega) h1
    have q := cmpL_at b a k (by omega) (by omega) (fun j hj => (h1 j hj).symm)
    by_cases h3 : at8 a k < at8 b k
    · rw [p.1 h3, q.2 h3]; rfl
    · have h4 : at8 b k < at8 a k := by omega
      rw [p.2 h4, q.1 h4]
theorem cmpL_zero {a b : List UInt8} (ha : a.length = 32) (hb : b.length = 32) : cmpL a b = 0 ↔ a = b := by
  constructor
  · intro h
    by_cases e : a = b
    · exact e
    · obtain ⟨k, hk, h1, h2⟩ := first_part ha hb e
      have p := cmpL_at a b k (by omega) (by omega) h1
      by_cases h3 : at8 a k < at8 b k
      · rw [p.1 h3] at h; cases h
      · rw [p.2 (by omega)] at h; cases h
  · intro h; subst h; exact cmpL_same a
/-- Less: at the first parting digit. -/
theorem cmpL_lt_iff {a b : List UInt8} (ha : a.length = 32) (hb : b.length = 32) : cmpL a b < 0 ↔ ∃ n, n < 64 ∧ Agree a b n ∧ dig a n < dig b n := by
  constructor
  · intro h
    have hne : a ≠ b := fun e => by subst e; rw [cmpL_same] at h; omega
    have hc := cm_lt ha hb hne
    refine ⟨cm a b, hc, cm_agree a b, ?_⟩
    have hp := cm_parts a b hc
    by_cases h3 : dig a (cm a b) < dig b (cm a b)
    · exact h3
    · have := cmpL_digits hb ha (cm a b) hc (cm_agree a b).symm (by omega)
      rw [cmpL_neg ha hb] at this
      omega
  · rintro ⟨n, h1, h2, h3⟩
    rw [cmpL_digits ha hb n h1 h2 h3]; omega
theorem lt_trans {a b c : List UInt8} (ha : a.length = 32) (hb : b.length = 32) (hc : c.length = 32) (h1 : cmpL a b < 0) (h2 : cmpL b c < 0) : cmpL a c < 0 := by
  rw [cmpL_lt_iff ha hb] at h1
  rw [cmpL_lt_iff hb hc] at h2
  rw [cmpL_lt_iff ha hc]
  obtain ⟨n, n1, n2, n3⟩ := h1
  obtain ⟨m, m1, m2, m3⟩ := h2
  by_cases h : n < m
  · exact ⟨n, n1, n2.trans (m2.mono (by omega)), by rw [← m2 n h]; exact n3⟩
  · by_cases h' : m < n
    · exact ⟨m, m1, (n2.mono (by omega)).trans m2, by rw [n2 m h']; exact m3⟩
    · obtain rfl : n = m := by omega
      exact ⟨n, n1, n2.trans m2, by omega⟩
/-- a, p, x in their order: what a and x have in common p and x have too. -/
theorem cm_between {a p x : List UInt8} (ha : a.length = 32) (hp : p.length = 32) (hx : x.length = 32) (h1 : ¬ cmpL p a < 0) (h2 : ¬ cmpL x p < 0) : cm a x ≤ cm p x := by
  by_cases h : cm p x < cm a x
  · exfalso
    have hl := cm_le a x
    have hg := (cm_agree p x)
    have hax : dig a (cm p x) = dig x (cm p x) := cm_agree a x _ h
    have hne := cm_parts p x (by omega)
    by_cases h3 : dig p (cm p x) < dig x (cm p x)
    · apply h1
      rw [cmpL_digits hp ha (cm p x) (by omega) (hg.trans ((cm_agree a x).mono (by omega)).symm) (by omega)]
      omega
    · apply h2
      rw [cmpL_digits hx hp (cm p x) (by omega) hg.symm (by omega)]
      omega
  · omega

/-- How many digits tell hashes apart: by who is among them alone. -/
def IsLead (S : List UInt8 → Prop) (n : Nat) : Prop :=
  (∀ a b, S a → S b → a ≠ b → cm a b < n) ∧ (n = 0 ∨ ∃ a b, S a ∧ S b ∧ a ≠ b ∧ cm a b + 1 = n)
theorem IsLead.unique {S : List UInt8 → Prop} {n m : Nat} (h : IsLead S n) (k : IsLead S m) : n = m := by
  have key : ∀ n m, IsLead S n → IsLead S m → ¬ n < m := by
    intro n m h k hlt
    rcases k.2 with k2 | ⟨a, b, sa, sb, hab, e⟩
    · omega
    · have := h.1 a b sa sb hab; omega
  have := key n m h k
  have := key m n k h
  omega
end Go.Proofs.YtdnocpngdepbgaaGreatDoor
