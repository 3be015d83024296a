import Derived.Test.YtphpaaajfcbafaaKPa
namespace Go.Proofs.Ytphpaaajfcbafaa.K
open Go.RowKit
set_option linter.unusedVariables false
set_option linter.unusedSimpArgs false

theorem Hid.mk' {p : Prop} (h : p) : Hid p := h
theorem or64_nat (a b : Nat) (ha : a < 18446744073709551616) (hb : b < 18446744073709551616) : bits .or .u64 (a : Int) (b : Int) = ((a ||| b : Nat) : Int) := by
  have hx : a ||| b < 2 ^ 64 := Nat.or_lt_two_pow (by omega) (by omega)
  have o : ∀ x : Nat, x < 18446744073709551616 → (BitVec.ofInt 64 (x : Int)).toNat = x := fun x h => by
    rw [BitVec.toNat_ofInt]; omega
  show IntKind.u64.wrap ((BitVec.ofInt 64 (a : Int) ||| BitVec.ofInt 64 (b : Int)).toNat : Int) = _
  rw [BitVec.toNat_or, o a ha, o b hb, IntKind.wrap_u64]
  omega
theorem or_num (vv b i : Nat) (hv : vv < 2 ^ (7 * i)) (hb : vv + b * 2 ^ (7 * i) < 18446744073709551616) :
    bits .or .u64 (vv : Int) (IntKind.u64.wrap ((b : Int) * 2 ^ (7 * (i : Int)).toNat)) = ((vv + b * 2 ^ (7 * i) : Nat) : Int) := by
  have e1 : (7 * (i : Int)).toNat = 7 * i := by omega
  have e2 : (b : Int) * 2 ^ (7 * i) = ((b * 2 ^ (7 * i) : Nat) : Int) := by push_cast; rfl
  rw [e1, e2, IntKind.wrap_u64, show ((b * 2 ^ (7 * i) : Nat) : Int) % 18446744073709551616 = ((b * 2 ^ (7 * i) : Nat) : Int) by omega, or64_nat _ _ (by omega) (by omega)]
  congr 1
  rw [Nat.or_comm, ← Nat.shiftLeft_eq, ← Nat.shiftLeft_add_eq_or_of_lt hv, Nat.shiftLeft_eq]
  omega
theorem pow7 (i : Nat) (h : i ≤ 8) : 128 * 2 ^ (7 * i) ≤ 9223372036854775808 := by
  have : 2 ^ (7 * i) ≤ 2 ^ 56 := Nat.pow_le_pow_right (by omega) (by omega)
  omega
theorem pow7s (i : Nat) : 2 ^ (7 * (i + 1)) = 128 * 2 ^ (7 * i) := by rw [Nat.mul_add, Nat.pow_add]; omega

theorem or_j (vv b j : Nat) (hv : vv < 2 ^ (7 * j)) (hj : j ≤ 8) (hb : b < 128) : bits .or .u64 (vv : Int) (IntKind.u64.wrap ((b : Int) * 2 ^ (7 * j))) = ((vv + b * 2 ^ (7 * j) : Nat) : Int) := by
  have := or_num vv b j hv (by
    have := pow7 j hj
    have : b * 2 ^ (7 * j) ≤ 127 * 2 ^ (7 * j) := Nat.mul_le_mul_right _ (by omega)
    omega)
  rwa [show (7 * (j : Int)).toNat = 7 * j by omega] at this
theorem or_9 (vv b : Nat) (hv : vv < 2 ^ (7 * 9)) (hb : b ≤ 1) : bits .or .u64 (vv : Int) ((b : Int) * 9223372036854775808) = ((vv + b * 2 ^ (7 * 9) : Nat) : Int) := by
  have := or_num vv b 9 hv (by omega)
  rw [show (7 * ((9 : Nat) : Int)).toNat = 63 by decide, IntKind.wrap_u64] at this
  rw [← this]
  congr 1
  omega
theorem or_0 (vv b : Nat) (hv : vv < 2 ^ (7 * 0)) (hb : b < 128) : bits .or .u64 (vv : Int) (b : Int) = ((vv + b * 2 ^ (7 * 0) : Nat) : Int) := by
  have := or_num vv b 0 hv (by omega)
  rw [show (7 * ((0 : Nat) : Int)).toNat = 0 by decide, IntKind.wrap_u64] at this
  rw [← this]
  congr 1
  omega
theorem tup3 {a b : Int} {c d : Value} {e f : Value} (h : a = b) (h2 : c = d) (h3 : e = f) : Ending.returned (.tuple #[.int .u64 a, c, e]) = .returned (.tuple #[.int .u64 b, d, f]) := by rw [h, h2, h3]

variable {T : TypeId} {r cap : Nat} {a : Option Addr} {L : List UInt8} {s : St}
/-- The bytes from a place on, as cells. -/
theorem RD.cells {w : World} (h : RD w T r a cap L s) : L.length = s.k ∨ ∃ b off, from23 a cap s.k = some ⟨b, off, none⟩ ∧ s.k < L.length ∧ b ≠ r ∧ ∀ j, s.k + j < L.length → w.cell? ⟨b, off + j, none⟩ = some (.int .u8 (at8 L (s.k + j))) := by
  by_cases hk : s.k < L.length
  · right
    rcases byt_from h.byt cap s.k h.room with e | ⟨b, off, e, hc⟩
    · have := congrArg List.length e
      simp at this
      omega
    · refine ⟨b, off, e, hk, (plain_from h.plain cap s.k _ e).2, fun j hj => ?_⟩
      have := hc j (by rw [List.length_drop]; omega)
      rw [at8_drop] at this
      exact this
  · left
    have := h.at_le
    omega

end Go.Proofs.Ytphpaaajfcbafaa.K
