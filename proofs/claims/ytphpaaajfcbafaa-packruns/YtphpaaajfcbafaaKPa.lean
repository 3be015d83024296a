import Derived.Test.YtphpaaajfcbafaaKSl
namespace Go.Proofs.Ytphpaaajfcbafaa.K
open Go.RowKit
set_option linter.unusedVariables false
set_option linter.unusedSimpArgs false

variable {T : TypeId} {r cap : Nat} {a : Option Addr} {L : List UInt8} {s : St}

/-- What Done tells. -/
def doneE (L : List UInt8) (s : St) : Int := if s.bad = 0 then (if s.k < L.length then 22 else 0) else s.bad
def doneP (L : List UInt8) (s : St) : Int := if s.bad = 0 then (if s.k < L.length then (s.k : Int) else 0) else s.wh
end Go.Proofs.Ytphpaaajfcbafaa.K
