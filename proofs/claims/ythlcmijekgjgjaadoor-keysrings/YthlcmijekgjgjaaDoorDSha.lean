import Derived.Test.YthlcmijekgjgjaaDoorDBase
namespace Go.Proofs.YthlcmijekgjgjaaDoor
open Go.RowKit
set_option linter.unusedVariables false
set_option linter.unusedSimpArgs false

/-- Turned right. -/
def rotr (x : UInt32) (r : Nat) : UInt32 := (x <<< UInt32.ofNat (32 - r)) ||| (x >>> UInt32.ofNat r)
def shl (x : UInt32) (r : Nat) : UInt32 := x <<< UInt32.ofNat r
def shr (x : UInt32) (r : Nat) : UInt32 := x >>> UInt32.ofNat r

theorem U_shl (x : UInt32) (r : Nat) (h : r < 32) : (U x * ((2 ^ r : Nat) : Int)) % 4294967296 = U (shl x r) := by
  unfold U shl
  rw [UInt32.toNat_shiftLeft, UInt32.toNat_ofNat', Nat.shiftLeft_eq]
  have e : r % 2 ^ 32 % 32 = r := by omega
  rw [e, Int.natCast_emod, Int.natCast_mul]
  rfl
theorem U_shr (x : UInt32) (r : Nat) (h : r < 32) : U x / ((2 ^ r : Nat) : Int) = U (shr x r) := by
  unfold U shr
  rw [UInt32.toNat_shiftRight, UInt32.toNat_ofNat', Nat.shiftRight_eq_div_pow]
  have e : r % 2 ^ 32 % 32 = r := by omega
  rw [e, Int.natCast_ediv]
theorem wrapU (n : Int) : IntKind.u32.wrap n = n % 4294967296 := IntKind.wrap_u32' n
theorem U_add (a b : UInt32) : (U a + U b) % 4294967296 = U (a + b) := by
  unfold U
  rw [UInt32.toNat_add, Int.natCast_emod, Int.natCast_add]
  rfl
theorem U_addw (a b : UInt32) : IntKind.u32.wrap (U a + U b) = U (a + b) := by rw [wrapU, U_add]
theorem shl24 (x : UInt32) : (U x * (16777216 : Int)) % 4294967296 = U (shl x 24) := U_shl x 24 (by decide)
theorem shl16 (x : UInt32) : (U x * (65536 : Int)) % 4294967296 = U (shl x 16) := U_shl x 16 (by decide)
theorem shl8 (x : UInt32) : (U x * (256 : Int)) % 4294967296 = U (shl x 8) := U_shl x 8 (by decide)
theorem shl24w (x : UInt32) : IntKind.u32.wrap (U x * (16777216 : Int)) = U (shl x 24) := by rw [wrapU]; exact shl24 x
theorem shl16w (x : UInt32) : IntKind.u32.wrap (U x * (65536 : Int)) = U (shl x 16) := by rw [wrapU]; exact shl16 x
theorem shl8w (x : UInt32) : IntKind.u32.wrap (U x * (256 : Int)) = U (shl x 8) := by rw [wrapU]; exact shl8 x
theorem shr3 (x : UInt32) : U x / (8 : Int) = U (shr x 3) := U_shr x 3 (by decide)
theorem shr10 (x : UInt32) : U x / (1024 : Int) = U (shr x 10) := U_shr x 10 (by decide)
theorem rot_or (x : UInt32) (r : Nat) (p q : Int) (h1 : 1 ≤ r) (h : r < 32) (hp : p = ((2 ^ (32 - r) : Nat) : Int)) (hq : q = ((2 ^ r : Nat) : Int)) :
    bits .or .u32 ((U x * p) % 4294967296) (U x / q) = U (rotr x r) := by
  subst hp hq
  rw [U_shl x (32 - r) (by omega), U_shr x r h, bits_or]
  rfl
end Go.Proofs.YthlcmijekgjgjaaDoor
