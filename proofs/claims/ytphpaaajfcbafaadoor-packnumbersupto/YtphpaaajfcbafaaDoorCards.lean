/-
  DERIVED. GIVEN WITH THE SEED: THE CARDS: each row of YtphpaaajfcbafaaDoorRows.lean that lists a variable, with what it lists TIED to the program's text (the seventh form; the later family's looks); each row that meets fmt, with fmt's text TOLD by the authors' own Lean function (tested against real Go, not proved from fmt's source: count such statements apart). THE CARD IS WHAT COUNTS. Prove the row's statement (the work); the ties are given (YtphpaaajfcbafaaDoorTie.lean); close each card by the builder's one call (the guide's Derived/Test/ToyasCard.lean, 'card_holds'). Laid BY PROGRAM, IN A SANDBOX (cutbox-door.mjs). By AI agents, Wed Nov 11 2026. No macro, syntax, notation, axiom, sorry.
-/
import Derived.Test.YtphpaaajfcbafaaDoorRows
import GoSem.ClaimSeven
namespace Go.Proofs.YtphpaaajfcbafaaDoor
namespace Rows

/-- THE TIED CARD OF 'estuarylaw23.PackUnRuns'. -/
def packUnRunsCard : Claim7 := { stood := { row := packUnRunsRow, standIns := [], harness := (true, "16975da8a4d25d1f5b76e7382b9e94c4b861eabc93a4285192c062e9aeed1d36"), looks := true }, kinds := [], alts := [], laidByText := true, laidKinds := [.handle], laidTests := true, laidLooks := .later }
def PackUnRunsCardSaid : Prop := Claim7.holds Tryd.pinned (.plain (OpenSpec.ofChange packUnRunsSpec)) packUnRunsCard

/-- THE TIED CARD OF 'estuarylaw23.PackNumbers'. -/
def packNumbersCard : Claim7 := { stood := { row := packNumbersRow, standIns := [], harness := (true, "16975da8a4d25d1f5b76e7382b9e94c4b861eabc93a4285192c062e9aeed1d36"), looks := true }, kinds := [], alts := [], laidByText := true, laidKinds := [.handle], laidTests := true, laidLooks := .later }
def PackNumbersCardSaid : Prop := Claim7.holds Tryd.pinned (.plain (OpenSpec.ofChange packNumbersSpec)) packNumbersCard

/-- THE SECOND FORM's CARD OF 'estuarylaw23.PackUnRuns'. -/
def packUnRunsUptoCard : Claim7 := { stood := { row := packUnRunsUptoRow, standIns := [], harness := (true, "16975da8a4d25d1f5b76e7382b9e94c4b861eabc93a4285192c062e9aeed1d36"), looks := true }, kinds := [], alts := [], laidByText := true, laidKinds := [.handle], laidTests := true, laidLooks := .later }
def PackUnRunsUptoCardSaid : Prop := Claim7.holds Tryd.pinned (.plain (OpenSpec.upto packUnRunsSpec)) packUnRunsUptoCard

/-- THE SECOND FORM's CARD OF 'estuarylaw23.PackNumbers'. -/
def packNumbersUptoCard : Claim7 := { stood := { row := packNumbersUptoRow, standIns := [], harness := (true, "16975da8a4d25d1f5b76e7382b9e94c4b861eabc93a4285192c062e9aeed1d36"), looks := true }, kinds := [], alts := [], laidByText := true, laidKinds := [.handle], laidTests := true, laidLooks := .later }
def PackNumbersUptoCardSaid : Prop := Claim7.holds Tryd.pinned (.plain (OpenSpec.upto packNumbersSpec)) packNumbersUptoCard
end Rows
end Go.Proofs.YtphpaaajfcbafaaDoor
