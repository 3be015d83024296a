import Derived.Test.YtkinjcblngkeiaaDoorRs
namespace Go.Proofs.YtkinjcblngkeiaaDoor
open Go.RowKit
set_option linter.unusedVariables false
set_option linter.unusedSimpArgs false

theorem rUint_le (L : List UInt8) (most : Nat) (s : St) : (rUint L most s).1 ≤ most := by
  unfold rUint
  repeat' split
  all_goals (simp only; omega)
@[go_sem] theorem run_store_float {P : Program} {w : World} {a : Addr} {m : Mode} (k : FloatKind) (b : Nat) : (store a (.float k b) m).run P w = stored P w a (.float k b) m := run_store P w a _ m rfl
end Go.Proofs.YtkinjcblngkeiaaDoor
