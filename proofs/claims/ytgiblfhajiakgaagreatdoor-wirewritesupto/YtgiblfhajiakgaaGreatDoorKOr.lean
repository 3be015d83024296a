import Ieee.Arith
namespace Go.Proofs.YtgiblfhajiakgaaGreatDoor.K

theorem cmp_congr {a b c d : Int} (h1 : a < b ↔ c < d) (h2 : a = b ↔ c = d) : compare a b = compare c d := by
  simp only [compare, compareOfLessAndEq, h1, h2]

/-- The magnitude of a rung, in units of the least place. -/
def fval (r : Nat) : Nat := if r < 2 ^ 52 then r else (2 ^ 52 + r % 2 ^ 52) * 2 ^ (r / 2 ^ 52 - 1)
theorem fval_step (r : Nat) : fval r < fval (r + 1) := by
  unfold fval
  by_cases h : r + 1 < 2 ^ 52
  · rw [if_pos (by omega), if_pos h]; omega
  · by_cases h2 : r < 2 ^ 52
    · rw [if_pos h2, if_neg h]
      have e : r + 1 = 2 ^ 52 := by omega
      rw [e]
      have e2 : (2 ^ 52 + 2 ^ 52 % 2 ^ 52) * 2 ^ (2 ^ 52 / 2 ^ 52 - 1) = 2 ^ 52 := by decide
      rw [e2]
      omega
    · rw [if_neg h2, if_neg h]
      by_cases h3 : r % 2 ^ 52 + 1 < 2 ^ 52
      · have e1 : (r + 1) % 2 ^ 52 = r % 2 ^ 52 + 1 := by omega
        have e2 : (r + 1) / 2 ^ 52 = r / 2 ^ 52 := by omega
        rw [e1, e2]
        exact Nat.mul_lt_mul_of_pos_right (by omega) (Nat.two_pow_pos _)
      · have e1 : (r + 1) % 2 ^ 52 = 0 := by omega
        have e2 : (r + 1) / 2 ^ 52 - 1 = (r / 2 ^ 52 - 1) + 1 := by omega
        rw [e1, e2]
        generalize r / 2 ^ 52 - 1 = k
        rw [Nat.pow_succ 2 k, Nat.mul_comm (2 ^ k) 2, ← Nat.mul_assoc]
        exact Nat.mul_lt_mul_of_pos_right (by omega) (Nat.two_pow_pos _)
theorem fval_lt {r s : Nat} (h : r < s) : fval r < fval s := by
  induction s with
  | zero => omega
  | succ s ih =>
    rcases Nat.lt_or_ge r s with h1 | h1
    · exact Nat.lt_trans (ih h1) (fval_step s)
    · have : r = s := by omega
      subst this
      exact fval_step r
theorem fval_lt_iff (r s : Nat) : fval r < fval s ↔ r < s := by
  constructor
  · intro h
    rcases Nat.lt_or_ge r s with h1 | h1
    · exact h1
    · rcases Nat.eq_or_lt_of_le h1 with h2 | h2
      · subst h2; omega
      · have := fval_lt h2; omega
  · exact fval_lt
theorem fval_inj (r s : Nat) : fval r = fval s ↔ r = s := by
  have := fval_lt_iff r s
  have := fval_lt_iff s r
  omega
theorem fval_zero : fval 0 = 0 := rfl

/-- A float's place among all finite ones. -/
def fkey (x : Nat) : Int := if x / 2 ^ 63 % 2 = 1 then -((x % 2 ^ 63 : Nat) : Int) else ((x % 2 ^ 63 : Nat) : Int)
def ffin (x : Nat) : Prop := x % 2 ^ 63 < 2047 * 2 ^ 52
def fplace (r : Nat) : Nat := if r < 2 ^ 52 then 0 else r / 2 ^ 52 - 1
def fmag (r : Nat) : Nat := if r < 2 ^ 52 then r else 2 ^ 52 + r % 2 ^ 52
theorem fval_eq (r : Nat) : fval r = fmag r * 2 ^ fplace r := by
  unfold fval fmag fplace
  split <;> simp
theorem fread (x : Nat) (h : ffin x) : Ieee.double.read x = .number (x / 2 ^ 63 % 2 == 1) (fmag (x % 2 ^ 63)) (Ieee.double.leastPlace + (fplace (x % 2 ^ 63) : Nat)) := by
  unfold ffin at h
  have e1 : Ieee.double.signWeight = 2 ^ 63 := rfl
  have e2 : Ieee.double.binade = 2 ^ 52 := rfl
  have e3 : Ieee.double.infRung = 2047 * 2 ^ 52 := rfl
  unfold Ieee.Format.read fmag fplace
  rw [e1, e2, e3]
  by_cases h1 : x % 2 ^ 63 < 2 ^ 52
  · simp only [if_pos h1]; simp
  · simp only [if_neg h1, if_pos h]
theorem forder (x y : Nat) (hx : ffin x) (hy : ffin y) : Ieee.double.order x y = some (compare (fkey x) (fkey y)) := by
  unfold Ieee.Format.order
  rw [fread x hx, fread y hy]
  unfold fkey
  generalize x % 2 ^ 63 = r
  generalize y % 2 ^ 63 = s
  simp only [Ieee.Datum.order]
  refine congrArg some ?_
  have hr := fval_eq r
  have hs := fval_eq s
  have key : ∃ c : Nat, 0 < c ∧ fval r = fmag r * 2 ^ (Ieee.double.leastPlace + (fplace r : Int) - min (Ieee.double.leastPlace + (fplace r : Int)) (Ieee.double.leastPlace + (fplace s : Int))).toNat * c ∧ fval s = fmag s * 2 ^ (Ieee.double.leastPlace + (fplace s : Int) - min (Ieee.double.leastPlace + (fplace r : Int)) (Ieee.double.leastPlace + (fplace s : Int))).toNat * c := by
    refine ⟨2 ^ min (fplace r) (fplace s), Nat.two_pow_pos _, ?_, ?_⟩
    · rw [hr, Nat.mul_assoc, ← Nat.pow_add]; congr 2; omega
    · rw [hs, Nat.mul_assoc, ← Nat.pow_add]; congr 2; omega
  obtain ⟨c, hc, k1, k2⟩ := key
  simp only [Ieee.signed, Nat.shiftLeft_eq]
  generalize fmag r * 2 ^ (Ieee.double.leastPlace + (fplace r : Int) - min (Ieee.double.leastPlace + (fplace r : Int)) (Ieee.double.leastPlace + (fplace s : Int))).toNat = A at *
  generalize fmag s * 2 ^ (Ieee.double.leastPlace + (fplace s : Int) - min (Ieee.double.leastPlace + (fplace r : Int)) (Ieee.double.leastPlace + (fplace s : Int))).toNat = B at *
  have a1 : A < B ↔ r < s := by rw [← fval_lt_iff r s, k1, k2]; exact (Nat.mul_lt_mul_right hc).symm
  have a2 : B < A ↔ s < r := by rw [← fval_lt_iff s r, k1, k2]; exact (Nat.mul_lt_mul_right hc).symm
  have a3 : A = 0 ↔ r = 0 := by
    have := fval_inj r 0
    rw [fval_zero, k1] at this
    rw [← this, Nat.mul_eq_zero]
    omega
  have a4 : B = 0 ↔ s = 0 := by
    have := fval_inj s 0
    rw [fval_zero, k2] at this
    rw [← this, Nat.mul_eq_zero]
    omega
  clear k1 k2 hr hs
  by_cases p : x / 2 ^ 63 % 2 = 1 <;> by_cases q : y / 2 ^ 63 % 2 = 1 <;> simp only [p, q, beq_self_eq_true, if_true, if_false, beq_iff_eq] <;> exact cmp_congr (by omega) (by omega)
end Go.Proofs.YtgiblfhajiakgaaGreatDoor.K
