import Derived.Test.YthlcmijekgjgjaaDoorRows
import Derived.Test.YthlcmijekgjgjaaDoorDSha
import Derived.Test.YthlcmijekgjgjaaDoorDLaws
import Derived.WalkLawsBesides
import Derived.WalkSpells
namespace Go.Proofs.YthlcmijekgjgjaaDoor
open Go.RowKit
set_option linter.unusedVariables false
set_option linter.unusedSimpArgs false
set_option maxHeartbeats 400000 in
theorem rot2 (x : UInt32) (w : World) : Calls Tryd.prog 21 #[.int .u32 (U x), .int .i64 (-2)] w fun e w' => e = .returned (.int .u32 (U (rotr x 2))) ∧ w' = w := by
  have b0 := U_lo x
  have b1 := U_hi x
  have hk : bits BinOp.and IntKind.u64 (IntKind.u64.wrap (-2)) 31 = 30 := by decide
  go_enter Tryd.func21, Tryd.ntmps21
  go_wp2
  go_ret
  exact ⟨ret_int (rot_or x 2 _ _ (by decide) (by decide) rfl rfl), rfl⟩
set_option maxHeartbeats 400000 in
theorem rot6 (x : UInt32) (w : World) : Calls Tryd.prog 21 #[.int .u32 (U x), .int .i64 (-6)] w fun e w' => e = .returned (.int .u32 (U (rotr x 6))) ∧ w' = w := by
  have b0 := U_lo x
  have b1 := U_hi x
  have hk : bits BinOp.and IntKind.u64 (IntKind.u64.wrap (-6)) 31 = 26 := by decide
  go_enter Tryd.func21, Tryd.ntmps21
  go_wp2
  go_ret
  exact ⟨ret_int (rot_or x 6 _ _ (by decide) (by decide) rfl rfl), rfl⟩
set_option maxHeartbeats 400000 in
theorem rot7 (x : UInt32) (w : World) : Calls Tryd.prog 21 #[.int .u32 (U x), .int .i64 (-7)] w fun e w' => e = .returned (.int .u32 (U (rotr x 7))) ∧ w' = w := by
  have b0 := U_lo x
  have b1 := U_hi x
  have hk : bits BinOp.and IntKind.u64 (IntKind.u64.wrap (-7)) 31 = 25 := by decide
  go_enter Tryd.func21, Tryd.ntmps21
  go_wp2
  go_ret
  exact ⟨ret_int (rot_or x 7 _ _ (by decide) (by decide) rfl rfl), rfl⟩
set_option maxHeartbeats 400000 in
theorem rot11 (x : UInt32) (w : World) : Calls Tryd.prog 21 #[.int .u32 (U x), .int .i64 (-11)] w fun e w' => e = .returned (.int .u32 (U (rotr x 11))) ∧ w' = w := by
  have b0 := U_lo x
  have b1 := U_hi x
  have hk : bits BinOp.and IntKind.u64 (IntKind.u64.wrap (-11)) 31 = 21 := by decide
  go_enter Tryd.func21, Tryd.ntmps21
  go_wp2
  go_ret
  exact ⟨ret_int (rot_or x 11 _ _ (by decide) (by decide) rfl rfl), rfl⟩
set_option maxHeartbeats 400000 in
theorem rot13 (x : UInt32) (w : World) : Calls Tryd.prog 21 #[.int .u32 (U x), .int .i64 (-13)] w fun e w' => e = .returned (.int .u32 (U (rotr x 13))) ∧ w' = w := by
  have b0 := U_lo x
  have b1 := U_hi x
  have hk : bits BinOp.and IntKind.u64 (IntKind.u64.wrap (-13)) 31 = 19 := by decide
  go_enter Tryd.func21, Tryd.ntmps21
  go_wp2
  go_ret
  exact ⟨ret_int (rot_or x 13 _ _ (by decide) (by decide) rfl rfl), rfl⟩
set_option maxHeartbeats 400000 in
theorem rot17 (x : UInt32) (w : World) : Calls Tryd.prog 21 #[.int .u32 (U x), .int .i64 (-17)] w fun e w' => e = .returned (.int .u32 (U (rotr x 17))) ∧ w' = w := by
  have b0 := U_lo x
  have b1 := U_hi x
  have hk : bits BinOp.and IntKind.u64 (IntKind.u64.wrap (-17)) 31 = 15 := by decide
  go_enter Tryd.func21, Tryd.ntmps21
  go_wp2
  go_ret
  exact ⟨ret_int (rot_or x 17 _ _ (by decide) (by decide) rfl rfl), rfl⟩
set_option maxHeartbeats 400000 in
theorem rot18 (x : UInt32) (w : World) : Calls Tryd.prog 21 #[.int .u32 (U x), .int .i64 (-18)] w fun e w' => e = .returned (.int .u32 (U (rotr x 18))) ∧ w' = w := by
  have b0 := U_lo x
  have b1 := U_hi x
  have hk : bits BinOp.and IntKind.u64 (IntKind.u64.wrap (-18)) 31 = 14 := by decide
  go_enter Tryd.func21, Tryd.ntmps21
  go_wp2
  go_ret
  exact ⟨ret_int (rot_or x 18 _ _ (by decide) (by decide) rfl rfl), rfl⟩
set_option maxHeartbeats 400000 in
theorem rot19 (x : UInt32) (w : World) : Calls Tryd.prog 21 #[.int .u32 (U x), .int .i64 (-19)] w fun e w' => e = .returned (.int .u32 (U (rotr x 19))) ∧ w' = w := by
  have b0 := U_lo x
  have b1 := U_hi x
  have hk : bits BinOp.and IntKind.u64 (IntKind.u64.wrap (-19)) 31 = 13 := by decide
  go_enter Tryd.func21, Tryd.ntmps21
  go_wp2
  go_ret
  exact ⟨ret_int (rot_or x 19 _ _ (by decide) (by decide) rfl rfl), rfl⟩
set_option maxHeartbeats 400000 in
theorem rot22 (x : UInt32) (w : World) : Calls Tryd.prog 21 #[.int .u32 (U x), .int .i64 (-22)] w fun e w' => e = .returned (.int .u32 (U (rotr x 22))) ∧ w' = w := by
  have b0 := U_lo x
  have b1 := U_hi x
  have hk : bits BinOp.and IntKind.u64 (IntKind.u64.wrap (-22)) 31 = 10 := by decide
  go_enter Tryd.func21, Tryd.ntmps21
  go_wp2
  go_ret
  exact ⟨ret_int (rot_or x 22 _ _ (by decide) (by decide) rfl rfl), rfl⟩
set_option maxHeartbeats 400000 in
theorem rot25 (x : UInt32) (w : World) : Calls Tryd.prog 21 #[.int .u32 (U x), .int .i64 (-25)] w fun e w' => e = .returned (.int .u32 (U (rotr x 25))) ∧ w' = w := by
  have b0 := U_lo x
  have b1 := U_hi x
  have hk : bits BinOp.and IntKind.u64 (IntKind.u64.wrap (-25)) 31 = 7 := by decide
  go_enter Tryd.func21, Tryd.ntmps21
  go_wp2
  go_ret
  exact ⟨ret_int (rot_or x 25 _ _ (by decide) (by decide) rfl rfl), rfl⟩
def turnE (x : UInt32) : UInt32 := rotr x 6 ^^^ rotr x 11 ^^^ rotr x 25
def turnA (x : UInt32) : UInt32 := rotr x 2 ^^^ rotr x 13 ^^^ rotr x 22
attribute [local go_sem] bits_xor
set_option maxHeartbeats 400000 in
theorem turnE_any (x : UInt32) (w : World) : Calls Tryd.prog 20 #[.int .u32 (U x), .int .i64 6, .int .i64 11, .int .i64 25] w fun e w' => e = .returned (.int .u32 (U (turnE x))) ∧ w' = w := by
  go_enter Tryd.func20, Tryd.ntmps20
  go_wp2_with fail
  refine (rot6 _ _).mono ?_
  rintro e w' ⟨rfl, rfl⟩
  go_wp2_with fail
  refine (rot11 _ _).mono ?_
  rintro e w' ⟨rfl, rfl⟩
  go_wp2_with fail
  refine (rot25 _ _).mono ?_
  rintro e w' ⟨rfl, rfl⟩
  go_wp2
  go_ret
  exact ⟨rfl, rfl⟩
set_option maxHeartbeats 400000 in
theorem turnA_any (x : UInt32) (w : World) : Calls Tryd.prog 20 #[.int .u32 (U x), .int .i64 2, .int .i64 13, .int .i64 22] w fun e w' => e = .returned (.int .u32 (U (turnA x))) ∧ w' = w := by
  go_enter Tryd.func20, Tryd.ntmps20
  go_wp2_with fail
  refine (rot2 _ _).mono ?_
  rintro e w' ⟨rfl, rfl⟩
  go_wp2_with fail
  refine (rot13 _ _).mono ?_
  rintro e w' ⟨rfl, rfl⟩
  go_wp2_with fail
  refine (rot22 _ _).mono ?_
  rintro e w' ⟨rfl, rfl⟩
  go_wp2
  go_ret
  exact ⟨rfl, rfl⟩
end Go.Proofs.YthlcmijekgjgjaaDoor
