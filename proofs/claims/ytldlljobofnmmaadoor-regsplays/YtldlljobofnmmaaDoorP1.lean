import Derived.Test.YtldlljobofnmmaaDoorZr
import Derived.Test.YtldlljobofnmmaaDoorP0
namespace Go.Proofs.YtldlljobofnmmaaDoor
open Go.RowKit
set_option linter.unusedVariables false
set_option linter.unusedSimpArgs false

theorem ex_neb {w : World} {a : Act} {o : Oper} {x y : Operand} {r : Bool} (ho : o.op = .binOp .neq 4 x y 4) (hx : a.eval x = .bool r) (hy : a.eval y = .bool r) : (execOp a.eval o).run Tryd.prog w = .ok (.value (.bool false)) w := by
  refine exec_binOp ho hx hy ?_ ?_
  · unfold eqGuard; simp
  · cases r <;> kernel_rfl
end Go.Proofs.YtldlljobofnmmaaDoor

