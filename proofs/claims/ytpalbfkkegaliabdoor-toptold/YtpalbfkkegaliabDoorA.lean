import Derived.Test.YtpalbfkkegaliabDoorRows
import Derived.Test.YtpalbfkkegaliabDoorBase
import Derived.WalkLawsBesides
import Derived.WalkSpells
import Derived.Laws.Rows
namespace Go.Proofs.YtpalbfkkegaliabDoor
open Go.RowKit
set_option linter.unusedVariables false
set_option linter.unusedSimpArgs false

set_option maxHeartbeats 400000 in
theorem isDigit_any (c : Int) (w : World) :
    Calls Tryd.prog 90 #[.int .u8 c] w fun e w' => e = .returned (.bool (isDg c)) ∧ w' = w := by
  by_cases h1 : 48 ≤ c <;> by_cases h2 : c ≤ 57 <;> by_cases h3 : 97 ≤ c
  all_goals
    go_enter Tryd.func90, Tryd.ntmps90
    go_wp2
    go_ret
    refine ⟨ret_bool ?_, rfl⟩
    unfold isDg
    first | simp [h1, h2, h3]; done | (simp [h1, h2, h3]; omega)

set_option maxHeartbeats 400000 in
theorem digitValue_any (c : Int) (w : World) (h0 : 0 ≤ c) (h1 : c ≤ 255) :
    Calls Tryd.prog 91 #[.int .u8 c] w fun e w' => e = .returned (.int .u8 (dgVal c)) ∧ w' = w := by
  by_cases h1 : 97 ≤ c
  all_goals
    go_enter Tryd.func91, Tryd.ntmps91
    go_wp2
    go_ret
    exact ⟨ret_int (by unfold dgVal; simp [h1]; omega), rfl⟩

set_option maxHeartbeats 400000 in
theorem digitAt_any (h : List UInt8) (k : Nat) (w : World) (hl : h.length = 32) (h1 : k < 64) :
    Calls Tryd.prog 89 #[.agg (bs h), .int .i64 k] w fun e w' => e = .returned (.int .u8 (dig h k)) ∧ w' = w.alloc (.cells (bs h) 36) := by
  have hc := bs_get h (k / 2) (by omega)
  have b0 := at8_lo h (k / 2)
  have b1 := at8_hi h (k / 2)
  go_enter Tryd.func89, Tryd.ntmps89
  go_wp2
  all_goals
    go_ret
    refine ⟨ret_int ?_, rfl⟩
    unfold dig
  · rw [if_pos]
    rename_i h
    simp at h
    omega
  · rw [if_neg]
    rename_i h
    simp at h
    omega
end Go.Proofs.YtpalbfkkegaliabDoor
