import Derived.Test.YtoofljkgdjjllaaTh
namespace Go.Proofs.Ytoofljkgdjjllaa
open Go.RowKit
set_option linter.unusedVariables false
set_option linter.unusedSimpArgs false

set_option maxRecDepth 100000 in
set_option maxHeartbeats 1000000 in
theorem grow_nil (i u key : Value) (ii ui : IdK) (hi : i = ii.v) (hu : u = ui.v) (w : World) : Calls Try.prog 17 #[.pointer none, i, u, key] w fun e w' => e = .returned (.tuple #[.pointer none, .int .i64 1]) ∧ Below w.heap.size w w' := by
  subst hi hu
  unfold IdK.v
  go_enter Try.func17, Try.ntmps17
  go_wp2
  go_ret2
  exact ⟨rfl, ((Below.refl _ _).alloc (Nat.le_refl _) _).alloc (by simp) _⟩
end Go.Proofs.Ytoofljkgdjjllaa
