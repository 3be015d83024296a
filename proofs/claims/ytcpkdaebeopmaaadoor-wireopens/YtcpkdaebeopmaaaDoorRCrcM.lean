import Derived.Test.YtcpkdaebeopmaaaDoorLin
namespace Go.Proofs.YtcpkdaebeopmaaaDoor
open Go.RowKit
set_option linter.unusedVariables false
set_option linter.unusedSimpArgs false

/-- One bit's step. -/
def bit1 (r : UInt32) : UInt32 := (r >>> 1) ^^^ (if r &&& 1 = 1 then 0xedb88320 else 0)
def bitS (r x : UInt32) : UInt32 := if x = 1 then (r >>> 1) ^^^ 0xedb88320 else r >>> 1
def low (v : UInt32) (k : Nat) : UInt32 := (v >>> UInt32.ofNat k) &&& 1
def bitN (v r : UInt32) : Nat → UInt32
  | 0 => r
  | k + 1 => bitS (bitN v r k) (low v k ^^^ (bitN v r k &&& 1))

theorem and_xor_r (a b c : UInt32) : (a ^^^ b) &&& c = (a &&& c) ^^^ (b &&& c) := by
  apply UInt32.toNat_inj.1
  rw [UInt32.toNat_and, UInt32.toNat_xor, UInt32.toNat_xor, UInt32.toNat_and, UInt32.toNat_and, Nat.and_xor_distrib_right]
theorem bitS_eq (r y : UInt32) : bitS r ((y &&& 1) ^^^ (r &&& 1)) ^^^ (y >>> 1) = bit1 (r ^^^ y) := by
  have e : (y &&& 1) ^^^ (r &&& 1) = (r ^^^ y) &&& 1 := by rw [← and_xor_r, UInt32.xor_comm]
  rw [e]
  unfold bitS bit1
  rw [shr_xor]
  split
  · ac_rfl
  · simp
def bits4 (r : UInt32) : UInt32 := bit1 (bit1 (bit1 (bit1 r)))
theorem bit1_xor (a b : UInt32) : bit1 (a ^^^ b) = bit1 a ^^^ bit1 b := by
  unfold bit1
  rw [shr_xor]
  have e : (a ^^^ b) &&& 1 = (a &&& 1) ^^^ (b &&& 1) := and_xor_r _ _ _
  have f : ∀ x : UInt32, x &&& 1 = 0 ∨ x &&& 1 = 1 := fun x => by
    have : (x &&& 1).toNat < 2 := by rw [UInt32.toNat_and]; exact Nat.lt_of_le_of_lt Nat.and_le_right (by decide)
    rcases (by omega : (x &&& 1).toNat = 0 ∨ (x &&& 1).toNat = 1) with h | h
    · exact .inl (UInt32.toNat_inj.1 h)
    · exact .inr (UInt32.toNat_inj.1 h)
  rw [e]
  rcases f a with h1 | h1 <;> rcases f b with h2 | h2 <;> rw [h1, h2]
  · simp
  · simp; ac_rfl
  · simp; ac_rfl
  · simp
    have : ∀ x y p : UInt32, x ^^^ p ^^^ (y ^^^ p) = x ^^^ y ^^^ (p ^^^ p) := fun x y p => by ac_rfl
    rw [this]; simp
theorem bits4_xor (a b : UInt32) : bits4 (a ^^^ b) = bits4 a ^^^ bits4 b := by
  unfold bits4
  rw [bit1_xor, bit1_xor, bit1_xor, bit1_xor]
theorem bit1_even (m : Nat) (h : 2 * m < 4294967296) : bit1 (UInt32.ofNat (2 * m)) = UInt32.ofNat m := by
  have e : UInt32.ofNat (2 * m) &&& 1 = 0 := by
    apply UInt32.toNat_inj.1
    rw [UInt32.toNat_and, UInt32.toNat_ofNat', Nat.mod_eq_of_lt (by omega)]
    show (2 * m) &&& 1 = 0
    rw [Nat.and_one_is_mod]; omega
  unfold bit1
  rw [e]
  apply UInt32.toNat_inj.1
  simp
  omega
theorem bits4_high (m : Nat) (h : 16 * m < 4294967296) : bits4 (UInt32.ofNat (16 * m)) = UInt32.ofNat m := by
  unfold bits4
  rw [show 16 * m = 2 * (2 * (2 * (2 * m))) by omega, bit1_even _ (by omega), bit1_even _ (by omega), bit1_even _ (by omega), bit1_even _ (by omega)]
theorem half_high (m : Nat) (h : 16 * m < 4294967296) : half (UInt32.ofNat (16 * m)) = UInt32.ofNat m := by
  have e : nib (UInt32.ofNat (16 * m)) = 0 := by
    unfold nib
    rw [UInt32.toNat_ofNat', Nat.mod_eq_of_lt (show 16 * m < 2 ^ 32 by omega), show 16 * m % 16 = 0 by omega]
    rfl
  unfold half
  rw [e]
  apply UInt32.toNat_inj.1
  simp
  rw [Nat.shiftRight_eq_div_pow]
  omega
theorem low16 : ∀ x : Fin 16, half (UInt32.ofNat x.val) = bits4 (UInt32.ofNat x.val) := by decide +kernel
theorem split16 (x : UInt32) : x = UInt32.ofNat (16 * (x.toNat / 16)) ^^^ UInt32.ofNat (x.toNat % 16) := by
  have hx := x.toNat_lt
  apply UInt32.toNat_inj.1
  rw [UInt32.toNat_xor, UInt32.toNat_ofNat', UInt32.toNat_ofNat', Nat.mod_eq_of_lt (by omega), Nat.mod_eq_of_lt (by omega)]
  have hd := Nat.div_add_mod x.toNat 16
  generalize x.toNat / 16 = q at *
  have e1 : (16 * q ^^^ x.toNat % 16) / 2 ^ 4 = q := by
    rw [← Nat.shiftRight_eq_div_pow, Nat.shiftRight_xor_distrib, Nat.shiftRight_eq_div_pow, Nat.shiftRight_eq_div_pow]
    rw [show 16 * q / 2 ^ 4 = q by omega, show x.toNat % 16 / 2 ^ 4 = 0 by omega, Nat.xor_zero]
  have e2 : (16 * q ^^^ x.toNat % 16) % 2 ^ 4 = x.toNat % 16 := by
    rw [Nat.xor_mod_two_pow, show 16 * q % 2 ^ 4 = 0 by omega, Nat.zero_xor]
    omega
  have e3 := Nat.div_add_mod (16 * q ^^^ x.toNat % 16) (2 ^ 4)
  omega
theorem half_bits4 (x : UInt32) : half x = bits4 x := by
  have hx := x.toNat_lt
  rw [split16 x, half_xor, bits4_xor, half_high _ (by omega), bits4_high _ (by omega), low16 ⟨x.toNat % 16, by omega⟩]
def bitsK (r : UInt32) : Nat → UInt32
  | 0 => r
  | k + 1 => bit1 (bitsK r k)
theorem bitN_inv (v r : UInt32) (k : Nat) (hk : k < 32) : bitN v r k ^^^ (v >>> UInt32.ofNat k) = bitsK (r ^^^ v) k := by
  induction k with
  | zero => simp [bitN, bitsK]
  | succ k ih =>
    have i := ih (by omega)
    have e : v >>> UInt32.ofNat (k + 1) = (v >>> UInt32.ofNat k) >>> 1 := by
      apply UInt32.toNat_inj.1
      rw [UInt32.toNat_shiftRight, UInt32.toNat_shiftRight, UInt32.toNat_shiftRight, UInt32.toNat_ofNat', UInt32.toNat_ofNat', ← Nat.shiftRight_add]
      congr 1
      show _ = _ + 1
      omega
    rw [e]
    show bitS _ _ ^^^ _ = bit1 _
    rw [← i]
    exact bitS_eq _ _
theorem byte_bits (r : UInt32) (v : UInt8) : bitN (UInt32.ofNat v.toNat) r 8 = crcStep r v := by
  have h := bitN_inv (UInt32.ofNat v.toNat) r 8 (by decide)
  have e : UInt32.ofNat v.toNat >>> UInt32.ofNat 8 = 0 := by
    apply UInt32.toNat_inj.1
    have := v.toNat_lt
    rw [UInt32.toNat_shiftRight, UInt32.toNat_ofNat', Nat.mod_eq_of_lt (by omega), Nat.shiftRight_eq_div_pow]
    show v.toNat / 256 = 0
    omega
  rw [e, UInt32.xor_zero] at h
  rw [h]
  unfold crcStep
  rw [half_bits4, half_bits4]
  rfl
end Go.Proofs.YtcpkdaebeopmaaaDoor
