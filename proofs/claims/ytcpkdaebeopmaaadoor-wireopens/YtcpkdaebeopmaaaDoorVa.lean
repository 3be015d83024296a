import Derived.Test.YtcpkdaebeopmaaaDoorRows
import Derived.WalkKit
import Derived.WalkSpells
import Derived.WalkLawsBesides
import Derived.Deep.QuietTactic
import Derived.BigQuiet
namespace Go.Proofs.YtcpkdaebeopmaaaDoor
open Go.RowKit
set_option linter.unusedVariables false
set_option linter.unusedSimpArgs false

def strLen : Value → Nat
  | .string b => b.size
  | _ => 0
set_option maxRecDepth 100000 in
set_option maxHeartbeats 1000000 in
theorem valid_ab (w : World) :
    Calls Tryd.prog 59 #[.string { data := #[97, 98] }] w fun e w' => e = .returned (.bool true) ∧ w' = w := by
  go_enter Tryd.func59, Tryd.ntmps59
  go_wp2_with fail
  go_loopw [0] (fun s wr => (s = .string { data := #[97, 98] } ∨ s = .string { data := #[98] } ∨ s = .string { data := #[] }) ∧ wr = w) (fun s _ => strLen s)
  case atStart => exact ⟨.inl rfl, rfl⟩
  case round =>
    obtain ⟨h | h | h, rfl⟩ := hrel
    · subst h
      go_wp2_with fail
      exact ⟨⟨.inr (.inl (by rfl)), trivial⟩, by decide⟩
    · subst h
      go_wp2_with fail
      exact ⟨⟨.inr (.inr (by rfl)), trivial⟩, by decide⟩
    · subst h
      go_wp2_with fail
      go_ret
      exact ⟨rfl, rfl⟩
end Go.Proofs.YtcpkdaebeopmaaaDoor
