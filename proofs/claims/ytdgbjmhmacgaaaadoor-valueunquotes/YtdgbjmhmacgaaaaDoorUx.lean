import Derived.Test.YtdgbjmhmacgaaaaDoorQs
import Derived.Test.YtdgbjmhmacgaaaaDoorTa
import Derived.Laws.Externs
import Derived.Lib.Bytealg
namespace Go.Proofs.YtdgbjmhmacgaaaaDoor
open Go.RowKit
set_option linter.unusedVariables false
set_option linter.unusedSimpArgs false

/-- The number of a digit; -1: it is none. -/
def ixD (c : Nat) : Int := if 48 ≤ c ∧ c ≤ 57 then (c : Int) - 48 else if 97 ≤ c ∧ c ≤ 102 then (c : Int) - 87 else -1
def digL : List UInt8 := [48, 49, 50, 51, 52, 53, 54, 55, 56, 57, 97, 98, 99, 100, 101, 102]
theorem find_ix : ∀ x : Fin 256, Lib.indexByte digL (UInt8.ofNat x.val) = ixD x.val := by decide +kernel
theorem ix72 (c : Nat) (w : World) (hc : c < 256) : (callFunc 72 #[.string { data := #[48, 49, 50, 51, 52, 53, 54, 55, 56, 57, 97, 98, 99, 100, 101, 102] }, .int .u8 (c : Int)]).run Tryd.prog w = .ok (.value (.int .i64 (ixD c))) w := by
  rw [run_callFunc_extern Tryd.func72 (by kernel_rfl) (by kernel_rfl) (by kernel_rfl) (e := Extern.BytealgIndexByte.indexByte) (by kernel_rfl), Lib.run_indexByteString]
  have h := find_ix ⟨c, hc⟩
  simp only [] at h
  rw [← h]
  rfl
set_option maxRecDepth 100000 in
set_option maxHeartbeats 400000 in
theorem ix71 (c : Nat) (w : World) (hc : c < 256) :
    Calls Tryd.prog 71 #[.string { data := #[48, 49, 50, 51, 52, 53, 54, 55, 56, 57, 97, 98, 99, 100, 101, 102] }, .int .u8 (c : Int)] w fun e w' => e = .returned (.int .i64 (ixD c)) ∧ w' = w := by
  have h := ix72 c w hc
  go_enter Tryd.func71, Tryd.ntmps71
  go_wp2
  go_ret
  exact ⟨rfl, rfl⟩
set_option maxRecDepth 100000 in
set_option maxHeartbeats 400000 in
theorem ix69 (c : Nat) (w : World) (hc : c < 256) :
    Calls Tryd.prog 69 #[.string { data := #[48, 49, 50, 51, 52, 53, 54, 55, 56, 57, 97, 98, 99, 100, 101, 102] }, .int .u8 (c : Int)] w fun e w' => e = .returned (.int .i64 (ixD c)) ∧ w' = w := by
  have h := ix71 c w hc
  go_enter Tryd.func69, Tryd.ntmps69
  go_wp2_with fail
  refine h.mono ?_
  rintro e _ ⟨rfl, rfl⟩
  go_wp2
  go_ret
  exact ⟨rfl, rfl⟩
end Go.Proofs.YtdgbjmhmacgaaaaDoor
