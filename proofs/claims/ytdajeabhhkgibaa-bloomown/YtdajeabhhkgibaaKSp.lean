import Derived.Test.YtdajeabhhkgibaaKKs
namespace Go.Proofs.Ytdajeabhhkgibaa.K
open Go.RowKit
set_option linter.unusedVariables false
set_option linter.unusedSimpArgs false

/-- Where a Reader stands: the place, the fault, the fault's place. -/
structure St where
  k : Nat
  bad : Int
  wh : Int

/-- A fault, if it is the first one. -/
def St.fl (s : St) (e p : Int) : St := if s.bad = 0 then (if e = 0 then s else ⟨s.k, e, p⟩) else s
def St.go (s : St) (n : Nat) : St := ⟨s.k + n, s.bad, s.wh⟩

theorem St.fl_bad (s : St) (e p : Int) (h : s.bad ≠ 0) : s.fl e p = s := by simp [St.fl, h]
theorem St.fl_ok (s : St) (p : Int) : s.fl 0 p = s := by simp [St.fl]
theorem St.fl_new (s : St) (e p : Int) (h : s.bad = 0) (he : e ≠ 0) : s.fl e p = ⟨s.k, e, p⟩ := by simp [St.fl, h, he]
theorem St.fl_k (s : St) (e p : Int) : (s.fl e p).k = s.k := by
  unfold St.fl
  split
  · split <;> rfl
  · rfl

/-- A number: value, size, error, place. -/
structure Num where
  v : Nat
  size : Nat
  why : Int
  place : Int

def numL (len k : Nat) : List UInt8 → Nat → Nat → Num
  | [], _, v => ⟨v, 0, 20, len⟩
  | b :: t, i, v =>
    if (i = 9 ∧ 1 < b.toNat) ∨ (0 < i ∧ b.toNat = 0) then ⟨v, 0, 21, k + i⟩
    else if b.toNat < 128 then ⟨v + b.toNat * 2 ^ (7 * i), i + 1, 0, len⟩
    else numL len k t (i + 1) (v + (b.toNat - 128) * 2 ^ (7 * i))
def num (L : List UInt8) (k : Nat) : Num := numL L.length k (L.drop k) 0 0

theorem drop_cons (L : List UInt8) (j : Nat) (h : j < L.length) : L.drop j = L.getD j 0 :: L.drop (j + 1) := by
  rw [List.drop_eq_getElem_cons h]
  simp [List.getElem?_eq_getElem h]
theorem num_end (L : List UInt8) (k i v : Nat) (h : ¬ k + i < L.length) : numL L.length k (L.drop (k + i)) i v = ⟨v, 0, 20, L.length⟩ := by
  rw [List.drop_of_length_le (by omega)]
  rfl
theorem num_step (L : List UInt8) (k i v b : Nat) (h : k + i < L.length) (hb : at8 L (k + i) = (b : Int)) :
    numL L.length k (L.drop (k + i)) i v = if (i = 9 ∧ 1 < b) ∨ (0 < i ∧ b = 0) then ⟨v, 0, 21, k + i⟩
      else if b < 128 then ⟨v + b * 2 ^ (7 * i), i + 1, 0, L.length⟩
      else numL L.length k (L.drop (k + (i + 1))) (i + 1) (v + (b - 128) * 2 ^ (7 * i)) := by
  have e : (L.getD (k + i) 0).toNat = b := by unfold at8 at hb; omega
  rw [drop_cons L (k + i) h]
  show (if _ then _ else if _ then _ else _) = _
  rw [e]
  rfl
theorem numL_ok (len k : Nat) : ∀ (l : List UInt8) (i v : Nat), i ≤ 9 → v < 2 ^ (7 * i) → ((numL len k l i v).why = 0 → 0 < (numL len k l i v).size ∧ (numL len k l i v).size ≤ i + l.length ∧ (numL len k l i v).v < 18446744073709551616) ∧ ((numL len k l i v).why = 0 ∨ (numL len k l i v).why = 20 ∨ (numL len k l i v).why = 21)
  | [], i, v, _, _ => ⟨fun h => by simp [numL] at h, .inr (.inl rfl)⟩
  | b :: t, i, v, hi, hv => by
    unfold numL
    split
    · exact ⟨fun h => by simp at h, .inr (.inr rfl)⟩
    · rename_i h1
      have hp : (0 : Nat) < 2 ^ (7 * i) := Nat.two_pow_pos _
      split
      · rename_i h2
        refine ⟨fun _ => ⟨by simp, by simp, ?_⟩, .inl rfl⟩
        show v + b.toNat * 2 ^ (7 * i) < _
        by_cases h9 : i = 9
        · subst h9
          have : b.toNat ≤ 1 := by omega
          have : b.toNat * 2 ^ (7 * 9) ≤ 1 * 2 ^ (7 * 9) := Nat.mul_le_mul_right _ this
          omega
        · have h8 : 2 ^ (7 * i) ≤ 2 ^ 56 := Nat.pow_le_pow_right (by omega) (by omega)
          have : b.toNat * 2 ^ (7 * i) ≤ 127 * 2 ^ (7 * i) := Nat.mul_le_mul_right _ (by omega)
          omega
      · rename_i h2
        have hb := b.toNat_lt
        have h9 : i ≠ 9 := fun h => h1 (.inl ⟨h, by omega⟩)
        have hn : v + (b.toNat - 128) * 2 ^ (7 * i) < 2 ^ (7 * (i + 1)) := by
          have : (b.toNat - 128) * 2 ^ (7 * i) ≤ 127 * 2 ^ (7 * i) := Nat.mul_le_mul_right _ (by omega)
          have : 2 ^ (7 * (i + 1)) = 128 * 2 ^ (7 * i) := by rw [Nat.mul_add, Nat.pow_add]; omega
          omega
        have := numL_ok len k t (i + 1) (v + (b.toNat - 128) * 2 ^ (7 * i)) (by omega) hn
        refine ⟨fun h => ?_, this.2⟩
        obtain ⟨q1, q2, q3⟩ := this.1 h
        refine ⟨q1, by simp; omega, q3⟩
theorem num_ok (L : List UInt8) (k : Nat) (hk : k ≤ L.length) : ((num L k).why = 0 → 0 < (num L k).size ∧ k + (num L k).size ≤ L.length ∧ (num L k).v < 18446744073709551616) ∧ ((num L k).why = 0 ∨ (num L k).why = 20 ∨ (num L k).why = 21) := by
  have := numL_ok L.length k (L.drop k) 0 0 (by omega) (by omega)
  refine ⟨fun h => ?_, this.2⟩
  obtain ⟨h1, h2, h3⟩ := this.1 h
  rw [List.length_drop] at h2
  exact ⟨h1, by unfold num; omega, h3⟩
end Go.Proofs.Ytdajeabhhkgibaa.K
