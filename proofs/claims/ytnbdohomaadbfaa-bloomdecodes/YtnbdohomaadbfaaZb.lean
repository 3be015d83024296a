import Derived.Test.YtnbdohomaadbfaaZa
import Derived.Test.YtnbdohomaadbfaaKXd
namespace Go.Proofs.Ytnbdohomaadbfaa
open Go.RowKit
set_option linter.unusedVariables false
set_option linter.unusedSimpArgs false

theorem S2_snoc (n x : Nat) : PC.S 2 (n + 1) x = PC.S 2 n x + (if x.testBit n = true then 1 else 0) := by
  induction n generalizing x with
  | zero =>
    rw [PC.S, PC.S, PC.S, Nat.testBit_zero]
    by_cases h : x % 2 = 1
    · rw [if_pos (decide_eq_true h)]; omega
    · rw [if_neg (by simpa using h)]; omega
  | succ n ih =>
    rw [PC.S, ih, Nat.testBit_succ]
    rw [show PC.S 2 (n + 1) x = x % 2 + PC.S 2 n (x / 2) from rfl]
    omega
theorem cntB_word (ws : Nat → Nat) (m j : Nat) (hj : j ≤ 64) : cntB (bitAt ws) (64 * m + j) = cntB (bitAt ws) (64 * m) + PC.S 2 j (ws m) := by
  induction j with
  | zero => rfl
  | succ j ih =>
    have e : bitAt ws (64 * m + j) = (ws m).testBit j := by
      unfold bitAt
      rw [show (64 * m + j) / 64 = m by omega, show (64 * m + j) % 64 = j by omega]
    rw [show 64 * m + (j + 1) = (64 * m + j) + 1 by omega, cntB, ih (by omega), S2_snoc, e]
    omega
theorem cntB_words (ws : Nat → Nat) (m : Nat) : cntB (bitAt ws) (64 * m) = cntW ws m := by
  induction m with
  | zero => rfl
  | succ m ih => rw [show 64 * (m + 1) = 64 * m + 64 by omega, cntB_word ws m 64 (Nat.le_refl _), ih, cntW]
theorem cntB_more {f : Nat → Bool} {n : Nat} (h : ∀ x, f x = true → x < n) (d : Nat) : cntB f (n + d) = cntB f n := by
  induction d with
  | zero => rfl
  | succ d ih =>
    rw [show n + (d + 1) = (n + d) + 1 by omega, cntB, ih]
    cases hf : f (n + d) with
    | false => rfl
    | true => have := h _ hf; omega
theorem cntB_bits {ws : Nat → Nat} {bits : Nat} (h : Within ws bits) : cntB (bitAt ws) bits = cntW ws ((bits + 63) / 64) := by
  rw [← cntB_words, ← cntB_more h (64 * ((bits + 63) / 64) - bits), show bits + (64 * ((bits + 63) / 64) - bits) = 64 * ((bits + 63) / 64) by omega]
/-- The bytes behind k bits. -/
def pB (ws : Nat → Nat) (k j : Nat) : Nat := if 8 * j + 8 ≤ k then (byW ws j).toNat else if 8 * j < k then (byW ws j).toNat % 2 ^ (k - 8 * j) else 0
theorem mod_pow_succ (x t : Nat) : x % 2 ^ (t + 1) = x % 2 ^ t + (if x.testBit t = true then 2 ^ t else 0) := by
  rw [Nat.pow_succ, Nat.mod_mul, Nat.testBit_eq_decide_div_mod_eq]
  by_cases h : x / 2 ^ t % 2 = 1
  · rw [if_pos (decide_eq_true h), h, Nat.mul_one]
  · rw [if_neg (by simpa using h), show x / 2 ^ t % 2 = 0 by omega, Nat.mul_zero]
theorem pB_zero (ws : Nat → Nat) (j : Nat) : pB ws 0 j = 0 := by unfold pB; rw [if_neg (by omega), if_neg (by omega)]
theorem pB_all (ws : Nat → Nat) (n j : Nat) (hj : j < n) : pB ws (8 * n) j = (byW ws j).toNat := by unfold pB; rw [if_pos (by omega)]
theorem pB_other (ws : Nat → Nat) (k j : Nat) (h : j ≠ k / 8) : pB ws (k + 1) j = pB ws k j := by
  unfold pB
  by_cases h1 : 8 * j + 8 ≤ k
  · rw [if_pos (by omega), if_pos h1]
  · have : ¬ 8 * j < k + 1 := by omega
    rw [if_neg (by omega), if_neg this, if_neg h1, if_neg (by omega)]
theorem pB_full (ws : Nat → Nat) (j : Nat) : (byW ws j).toNat % 2 ^ 8 = (byW ws j).toNat := Nat.mod_eq_of_lt (UInt8.toNat_lt _)
theorem pB_step (ws : Nat → Nat) (k : Nat) : pB ws (k + 1) (k / 8) = pB ws k (k / 8) + (if bitAt ws k = true then 2 ^ (k % 8) else 0) ∧ pB ws k (k / 8) < 2 ^ (k % 8) := by
  have hr : k % 8 < 8 := Nat.mod_lt _ (by omega)
  have e0 : pB ws k (k / 8) = (byW ws (k / 8)).toNat % 2 ^ (k % 8) := by
    unfold pB
    rw [if_neg (by omega)]
    by_cases h : 8 * (k / 8) < k
    · rw [if_pos h, show k - 8 * (k / 8) = k % 8 by omega]
    · rw [if_neg h, show k % 8 = 0 by omega, Nat.pow_zero, Nat.mod_one]
  have e1 : pB ws (k + 1) (k / 8) = (byW ws (k / 8)).toNat % 2 ^ (k % 8 + 1) := by
    unfold pB
    by_cases h : 8 * (k / 8) + 8 ≤ k + 1
    · rw [if_pos h, show k % 8 + 1 = 8 by omega, pB_full]
    · rw [if_neg h, if_pos (by omega), show k + 1 - 8 * (k / 8) = k % 8 + 1 by omega]
  have e2 : (byW ws (k / 8)).toNat.testBit (k % 8) = bitAt ws k := by rw [bit_byW ws _ _ hr, show 8 * (k / 8) + k % 8 = k by omega]
  rw [e0, e1, mod_pow_succ, e2]
  exact ⟨rfl, Nat.mod_lt _ (Nat.two_pow_pos _)⟩
end Go.Proofs.Ytnbdohomaadbfaa
