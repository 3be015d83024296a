import Derived.Test.YtklliihdbkoooaaRows
import Derived.WalkKit
import Derived.WalkSpells
import Derived.WalkLawsBesides
import Derived.ProofKit
import Derived.Below
import Derived.WideMake
namespace Go.Proofs.Ytklliihdbkoooaa
open Go.ChangeShapes Go.WideShapes Go.ChangeAt Go.RowKit
set_option linter.unusedVariables false

theorem own : ownKnob Try.prog.godebug = none := by kernel_rfl
theorem laidOut : laidOutB Try.prog = true := by kernel_rfl

attribute [local go_sem] run_makeMap_plain

/-- What New answers. -/
def newOut (n : Int) (e : Ending) : Prop :=
  if n < 0 ∨ 256 < n then e = .returned (.tuple #[.pointer none, .int .i64 2]) else ∃ p, e = .returned (.tuple #[.pointer (some p), .int .i64 0])

set_option maxHeartbeats 400000 in
theorem new_any (n : Int) (w : World) :
    Calls Try.prog 10 #[.int .i64 n] w fun e w' => newOut n e ∧ Below w.heap.size w w' := by
  by_cases h1 : n < 0
  · go_enter Try.func10, Try.ntmps10
    go_wp2
    go_ret2
    exact ⟨by simp [newOut, h1], Below.refl _ _⟩
  · by_cases h2 : 256 < n
    · go_enter Try.func10, Try.ntmps10
      go_wp2
      go_ret2
      exact ⟨by simp [newOut, h2], Below.refl _ _⟩
    · have h3 : ¬ n > 256 := h2
      go_enter Try.func10, Try.ntmps10
      go_wp2
      go_ret2
      exact ⟨by simp [newOut, h1, h2], ((Below.refl _ _).alloc (Nat.le_refl _) _).alloc (by simp) _⟩
end Go.Proofs.Ytklliihdbkoooaa
