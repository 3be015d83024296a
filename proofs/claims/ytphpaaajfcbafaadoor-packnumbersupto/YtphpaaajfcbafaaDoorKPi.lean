import Derived.Test.YtphpaaajfcbafaaDoorKPb
namespace Go.Proofs.YtphpaaajfcbafaaDoor.K
open Go.RowKit
set_option linter.unusedVariables false
set_option linter.unusedSimpArgs false

theorem not64 (x : Nat) (h : x < 9223372036854775808) : wrap64 (bits .xor .u64 IntKind.u64.max (x : Int)) = -(x : Int) - 1 := by
  have e : bits .xor .u64 IntKind.u64.max (x : Int) = ((18446744073709551615 - x : Nat) : Int) := by
    show IntKind.u64.wrap ((BitVec.ofInt 64 IntKind.u64.max ^^^ BitVec.ofInt 64 (x : Int)).toNat : Int) = _
    rw [show BitVec.ofInt 64 IntKind.u64.max = BitVec.allOnes 64 by decide, BitVec.allOnes_xor, BitVec.toNat_not, BitVec.toNat_ofInt, IntKind.wrap_u64]
    omega
  rw [e]
  unfold wrap64
  omega
variable {T : TypeId} {r cap : Nat} {a : Option Addr} {L : List UInt8} {s : St}
set_option maxRecDepth 100000 in
set_option maxHeartbeats 1000000 in
theorem int_any (w : World) (h : RD w T r a cap L s) :
    Calls Tryd.prog 48 #[.pointer (some ⟨r, 0, none⟩)] w fun e w' => e = .returned (.int .i64 (rInt L s).1) ∧ On w w' T r a cap L (rInt L s).2 := by
  have HU := Hid.mk' (uint_any 18446744073709551615 (by decide) w h)
  have hlt := rUint_lt L 18446744073709551615 s h.at_le
  unfold rInt
  generalize rUint L 18446744073709551615 s = u at *
  obtain ⟨n, s'⟩ := u
  simp only at HU hlt ⊢
  clear h
  by_cases h2 : n % 2 = 1
  · have h2' : (n : Int) % 2 = 1 := by omega
    go_enter Tryd.func48, Tryd.ntmps48
    go_wp2_with fail
    refine HU.out.mono ?_
    rintro e w1 ⟨rfl, ho⟩
    have HO := Hid.mk' ho
    clear ho HU
    go_wp2
    go_ret
    exact ⟨ret_int (by unfold unzig; rw [if_pos h2, show (n : Int) / 2 = ((n / 2 : Nat) : Int) by omega]; exact not64 _ (by omega)), HO.out⟩
  · have h2' : (n : Int) % 2 = 0 := by omega
    go_enter Tryd.func48, Tryd.ntmps48
    go_wp2_with fail
    refine HU.out.mono ?_
    rintro e w1 ⟨rfl, ho⟩
    have HO := Hid.mk' ho
    clear ho HU
    go_wp2
    go_ret
    exact ⟨ret_int (by unfold unzig; rw [if_neg h2]; omega), HO.out⟩
end Go.Proofs.YtphpaaajfcbafaaDoor.K
