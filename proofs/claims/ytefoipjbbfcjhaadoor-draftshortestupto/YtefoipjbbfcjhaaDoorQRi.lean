import Derived.Test.YtefoipjbbfcjhaaDoorRows
import Derived.WalkKit
import Derived.WalkSpells
import Derived.WalkLawsBesides
import Derived.Deep.QuietTactic
import Derived.BigQuiet
import Derived.Below
import Derived.Laws.Externs
namespace Go.Proofs.YtefoipjbbfcjhaaDoor.Q
open Go.RowKit
set_option linter.unusedVariables false
set_option linter.unusedSimpArgs false

/-- A value of package api, by value. -/
def VV (k n : Int) (f : Nat) (s : ByteArray) : Value := .agg #[.int .u8 k, .int .i64 n, .float .f64 f, .string s]


theorem below_drewN {B : Nat} {a w : World} (h : Below B a w) : ∀ q, Below B a (w.drewN q)
  | 0 => h
  | q + 1 => (below_drewN h q).drew
theorem bel_box (w : World) (c : Array Value) (t : TypeId) : Below w.heap.size w (w.alloc (.cells c t)) := (Below.refl _ _).alloc (Nat.le_refl _) _

/-- Which values of the kinds without floats and texts are right. -/
def rightB (k n : Int) (f : Nat) (s : ByteArray) : Bool :=
  if k = 1 then (decide (n = 0) || decide (n = 1)) && decide (f = 0) && s.toList.isEmpty
  else if k = 2 ∨ k = 7 then decide (f = 0) && s.toList.isEmpty
  else if k = 5 then decide (n = 0) && decide (f = 0) && decide ((s.size : Int) ≤ 1000)
  else if k = 6 then decide (0 ≤ n) && decide (n ≤ 9007199254740992) && decide (f = 0) && s.toList.isEmpty
  else if k ≤ 11 then decide (n = 0) && decide (f = 0) && s.toList.isEmpty else false

end Go.Proofs.YtefoipjbbfcjhaaDoor.Q
