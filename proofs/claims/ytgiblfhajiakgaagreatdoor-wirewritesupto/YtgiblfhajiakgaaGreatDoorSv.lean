import Derived.Test.YtgiblfhajiakgaaGreatDoorGd
import Derived.Test.YtgiblfhajiakgaaGreatDoorKPf
import Derived.Laws.FloatArith
namespace Go.Proofs.YtgiblfhajiakgaaGreatDoor
open Go.RowKit
set_option linter.unusedVariables false
set_option linter.unusedSimpArgs false

theorem bel2 (w : World) (a b : Obj) : Below w.heap.size w ((w.alloc a).alloc b) := ((Below.refl _ _).alloc (Nat.le_refl _) _).alloc (by simp) _
set_option maxRecDepth 100000 in
set_option maxHeartbeats 1000000 in
theorem sameV0 (w : World) : Calls Tryz.prog 82 #[K.VV 0 0 0 ⟨#[]⟩, K.VV 0 0 0 ⟨#[]⟩] w fun e w' => e = .returned (.bool true) ∧ Below w.heap.size w w' := by
  have z1 : (FloatKind.f64.format.order 0 0 == some .eq) = true := by decide +kernel
  have z2 : (FloatKind.f64.format.order 0 0 != some .eq) = false := by decide +kernel
  have z3 : (FloatKind.f64.format.order 9218868437227405312 9218868437227405312 == some .eq) = true := by decide +kernel
  have hq : ∀ W, (binOp .quo 34 (.float .f64 4607182418800017408) (.float .f64 0)).run Tryz.prog W = .ok (.float .f64 9218868437227405312) W := fun W => run_float_arith W .quo 34 .f64 _ _ _ (by decide +kernel)
  unfold K.VV
  go_enter Tryz.func82, Tryz.ntmps82
  go_wp2
  go_ret
  exact ⟨rfl, bel2 _ _ _⟩
set_option maxRecDepth 100000 in
set_option maxHeartbeats 1000000 in
theorem sameVn (f : Nat) (z1 : (FloatKind.f64.format.order f f == some .eq) = true) (z3 : (FloatKind.f64.format.order f 0 == some .eq) = false) (w : World) : Calls Tryz.prog 82 #[K.VV 0 0 f ⟨#[]⟩, K.VV 0 0 f ⟨#[]⟩] w fun e w' => e = .returned (.bool true) ∧ Below w.heap.size w w' := by
  have z2 : (FloatKind.f64.format.order f f != some .eq) = false := by rw [bne, z1]; rfl
  have z4 : (FloatKind.f64.format.order f 0 != some .eq) = true := by rw [bne, z3]; rfl
  unfold K.VV
  go_enter Tryz.func82, Tryz.ntmps82
  go_wp2
  go_ret
  exact ⟨rfl, bel2 _ _ _⟩
end Go.Proofs.YtgiblfhajiakgaaGreatDoor
