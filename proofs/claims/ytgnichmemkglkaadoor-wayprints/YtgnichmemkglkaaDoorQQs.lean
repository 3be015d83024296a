import Derived.Test.YtgnichmemkglkaaDoorQOb
namespace Go.Proofs.YtgnichmemkglkaaDoor.Q
open Go.RowKit
set_option linter.unusedVariables false
set_option linter.unusedSimpArgs false

/-- What stands behind a backslash for a character; 0: none. -/
def signN (r : Int) : Int := if r = 34 ∨ r = 92 then r else if r = 10 then 110 else if r = 13 then 114 else if r = 9 then 116 else 0
def hidB (r : Int) : Bool := decide (r < 32) || decide (r = 127)
set_option maxRecDepth 100000 in
set_option maxHeartbeats 400000 in
theorem sign_chr (r : Int) (w : World) : Calls Tryd.prog 54 #[.int .i32 r] w fun e w' => e = .returned (.int .u8 (signN r)) ∧ w' = w := by
  unfold signN
  by_cases h1 : r = 34
  · subst h1
    go_enter Tryd.func54, Tryd.ntmps54
    go_wp2
    go_ret
    exact ⟨rfl, rfl⟩
  by_cases h2 : r = 92
  · subst h2
    go_enter Tryd.func54, Tryd.ntmps54
    go_wp2
    go_ret
    exact ⟨rfl, rfl⟩
  rw [if_neg (by omega)]
  by_cases h3 : r = 10
  · subst h3
    go_enter Tryd.func54, Tryd.ntmps54
    go_wp2
    go_ret
    exact ⟨rfl, rfl⟩
  rw [if_neg h3]
  by_cases h4 : r = 13
  · subst h4
    go_enter Tryd.func54, Tryd.ntmps54
    go_wp2
    go_ret
    exact ⟨rfl, rfl⟩
  rw [if_neg h4]
  by_cases h5 : r = 9
  · subst h5
    go_enter Tryd.func54, Tryd.ntmps54
    go_wp2
    go_ret
    exact ⟨rfl, rfl⟩
  rw [if_neg h5]
  go_enter Tryd.func54, Tryd.ntmps54
  go_wp2
  go_ret
  exact ⟨rfl, rfl⟩
set_option maxRecDepth 100000 in
set_option maxHeartbeats 400000 in
theorem hidden_chr (r : Int) (w : World) : Calls Tryd.prog 55 #[.int .i32 r] w fun e w' => e = .returned (.bool (hidB r)) ∧ w' = w := by
  unfold hidB
  by_cases h1 : r < 32
  · rw [decide_eq_true h1]
    go_enter Tryd.func55, Tryd.ntmps55
    go_wp2
    go_ret
    exact ⟨rfl, rfl⟩
  rw [decide_eq_false h1]
  by_cases h2 : r = 127
  · subst h2
    go_enter Tryd.func55, Tryd.ntmps55
    go_wp2
    go_ret
    exact ⟨rfl, rfl⟩
  rw [decide_eq_false h2]
  go_enter Tryd.func55, Tryd.ntmps55
  go_wp2
  go_ret
  exact ⟨by simp [h2], rfl⟩
end Go.Proofs.YtgnichmemkglkaaDoor.Q
