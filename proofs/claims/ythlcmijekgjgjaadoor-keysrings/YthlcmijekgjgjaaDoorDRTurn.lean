import Derived.Test.YthlcmijekgjgjaaDoorDRot
namespace Go.Proofs.YthlcmijekgjgjaaDoor
open Go.RowKit
set_option linter.unusedVariables false
set_option linter.unusedSimpArgs false
theorem rot_ro (x : UInt32) (r : Nat) (p q : Int) (h1 : 1 ≤ r) (h : r < 32) (hp : p = ((2 ^ (32 - r) : Nat) : Int)) (hq : q = ((2 ^ r : Nat) : Int)) :
    bits .or .u32 (U x / q) ((U x * p) % 4294967296) = U (rotr x r) := by
  subst hp hq
  rw [U_shl x (32 - r) (by omega), U_shr x r h, bits_or, UInt32.or_comm]
  rfl
set_option maxHeartbeats 400000 in
theorem tur2 (x : UInt32) (w : World) : Calls Tryd.prog 18 #[.int .u32 (U x), .int .i64 2] w fun e w' => e = .returned (.int .u32 (U (rotr x 2))) ∧ ∃ m, w' = w.drewN m := by
  have b0 := U_lo x
  have b1 := U_hi x
  go_enter Tryd.func18, Tryd.ntmps18
  go_wp2
  go_region
  all_goals go_wp2
  all_goals go_ret
  all_goals exact ⟨ret_int (rot_ro x 2 _ _ (by decide) (by decide) rfl rfl), 1, rfl⟩
set_option maxHeartbeats 400000 in
theorem tur6 (x : UInt32) (w : World) : Calls Tryd.prog 18 #[.int .u32 (U x), .int .i64 6] w fun e w' => e = .returned (.int .u32 (U (rotr x 6))) ∧ ∃ m, w' = w.drewN m := by
  have b0 := U_lo x
  have b1 := U_hi x
  go_enter Tryd.func18, Tryd.ntmps18
  go_wp2
  go_region
  all_goals go_wp2
  all_goals go_ret
  all_goals exact ⟨ret_int (rot_ro x 6 _ _ (by decide) (by decide) rfl rfl), 1, rfl⟩
set_option maxHeartbeats 400000 in
theorem tur7 (x : UInt32) (w : World) : Calls Tryd.prog 18 #[.int .u32 (U x), .int .i64 7] w fun e w' => e = .returned (.int .u32 (U (rotr x 7))) ∧ ∃ m, w' = w.drewN m := by
  have b0 := U_lo x
  have b1 := U_hi x
  go_enter Tryd.func18, Tryd.ntmps18
  go_wp2
  go_region
  all_goals go_wp2
  all_goals go_ret
  all_goals exact ⟨ret_int (rot_ro x 7 _ _ (by decide) (by decide) rfl rfl), 1, rfl⟩
set_option maxHeartbeats 400000 in
theorem tur11 (x : UInt32) (w : World) : Calls Tryd.prog 18 #[.int .u32 (U x), .int .i64 11] w fun e w' => e = .returned (.int .u32 (U (rotr x 11))) ∧ ∃ m, w' = w.drewN m := by
  have b0 := U_lo x
  have b1 := U_hi x
  go_enter Tryd.func18, Tryd.ntmps18
  go_wp2
  go_region
  all_goals go_wp2
  all_goals go_ret
  all_goals exact ⟨ret_int (rot_ro x 11 _ _ (by decide) (by decide) rfl rfl), 1, rfl⟩
set_option maxHeartbeats 400000 in
theorem tur13 (x : UInt32) (w : World) : Calls Tryd.prog 18 #[.int .u32 (U x), .int .i64 13] w fun e w' => e = .returned (.int .u32 (U (rotr x 13))) ∧ ∃ m, w' = w.drewN m := by
  have b0 := U_lo x
  have b1 := U_hi x
  go_enter Tryd.func18, Tryd.ntmps18
  go_wp2
  go_region
  all_goals go_wp2
  all_goals go_ret
  all_goals exact ⟨ret_int (rot_ro x 13 _ _ (by decide) (by decide) rfl rfl), 1, rfl⟩
set_option maxHeartbeats 400000 in
theorem tur17 (x : UInt32) (w : World) : Calls Tryd.prog 18 #[.int .u32 (U x), .int .i64 17] w fun e w' => e = .returned (.int .u32 (U (rotr x 17))) ∧ ∃ m, w' = w.drewN m := by
  have b0 := U_lo x
  have b1 := U_hi x
  go_enter Tryd.func18, Tryd.ntmps18
  go_wp2
  go_region
  all_goals go_wp2
  all_goals go_ret
  all_goals exact ⟨ret_int (rot_ro x 17 _ _ (by decide) (by decide) rfl rfl), 1, rfl⟩
set_option maxHeartbeats 400000 in
theorem tur18 (x : UInt32) (w : World) : Calls Tryd.prog 18 #[.int .u32 (U x), .int .i64 18] w fun e w' => e = .returned (.int .u32 (U (rotr x 18))) ∧ ∃ m, w' = w.drewN m := by
  have b0 := U_lo x
  have b1 := U_hi x
  go_enter Tryd.func18, Tryd.ntmps18
  go_wp2
  go_region
  all_goals go_wp2
  all_goals go_ret
  all_goals exact ⟨ret_int (rot_ro x 18 _ _ (by decide) (by decide) rfl rfl), 1, rfl⟩
set_option maxHeartbeats 400000 in
theorem tur19 (x : UInt32) (w : World) : Calls Tryd.prog 18 #[.int .u32 (U x), .int .i64 19] w fun e w' => e = .returned (.int .u32 (U (rotr x 19))) ∧ ∃ m, w' = w.drewN m := by
  have b0 := U_lo x
  have b1 := U_hi x
  go_enter Tryd.func18, Tryd.ntmps18
  go_wp2
  go_region
  all_goals go_wp2
  all_goals go_ret
  all_goals exact ⟨ret_int (rot_ro x 19 _ _ (by decide) (by decide) rfl rfl), 1, rfl⟩
set_option maxHeartbeats 400000 in
theorem tur22 (x : UInt32) (w : World) : Calls Tryd.prog 18 #[.int .u32 (U x), .int .i64 22] w fun e w' => e = .returned (.int .u32 (U (rotr x 22))) ∧ ∃ m, w' = w.drewN m := by
  have b0 := U_lo x
  have b1 := U_hi x
  go_enter Tryd.func18, Tryd.ntmps18
  go_wp2
  go_region
  all_goals go_wp2
  all_goals go_ret
  all_goals exact ⟨ret_int (rot_ro x 22 _ _ (by decide) (by decide) rfl rfl), 1, rfl⟩
set_option maxHeartbeats 400000 in
theorem tur25 (x : UInt32) (w : World) : Calls Tryd.prog 18 #[.int .u32 (U x), .int .i64 25] w fun e w' => e = .returned (.int .u32 (U (rotr x 25))) ∧ ∃ m, w' = w.drewN m := by
  have b0 := U_lo x
  have b1 := U_hi x
  go_enter Tryd.func18, Tryd.ntmps18
  go_wp2
  go_region
  all_goals go_wp2
  all_goals go_ret
  all_goals exact ⟨ret_int (rot_ro x 25 _ _ (by decide) (by decide) rfl rfl), 1, rfl⟩
end Go.Proofs.YthlcmijekgjgjaaDoor
