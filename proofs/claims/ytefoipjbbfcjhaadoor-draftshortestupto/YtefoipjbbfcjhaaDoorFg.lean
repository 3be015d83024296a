import Derived.Test.YtefoipjbbfcjhaaDoorFf
import Derived.Test.YtefoipjbbfcjhaaDoorDx
import Derived.Test.YtefoipjbbfcjhaaDoorQLv
namespace Go.Proofs.YtefoipjbbfcjhaaDoor
open Go.RowKit
set_option linter.unusedVariables false
set_option linter.unusedSimpArgs false

theorem shortest_all (s t : ByteArray) (w : World) (hs : s.size ≤ 1048576) (ht : t.size ≤ 1048576) (hT : Q.Tabs w) :
    Calls Tryd.prog 4 #[.string s, .string t] w fun e w' => e = .returned (.bool true) ∧ Below w.heap.size w w' :=
  shortest_of s t w hs ht (scriptP_of s t w hs ht (fun W hb => Q.valid_any s W (by omega) (hT.below hb)) (fun W hb => Q.valid_any t W (by omega) (hT.below hb)))
end Go.Proofs.YtefoipjbbfcjhaaDoor
