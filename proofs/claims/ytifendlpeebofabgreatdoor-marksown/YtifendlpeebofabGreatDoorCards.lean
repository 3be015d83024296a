/-
  DERIVED. GIVEN WITH THE SEED: THE CARDS: each row of YtifendlpeebofabGreatDoorRows.lean that lists a variable, with what it lists TIED to the program's text (the seventh form; the later family's looks); each row that meets fmt, with fmt's text TOLD by the authors' own Lean function (tested against real Go, not proved from fmt's source: count such statements apart). THE CARD IS WHAT COUNTS. Prove the row's statement (the work); the ties are given (YtifendlpeebofabGreatDoorTie.lean); close each card by the builder's one call (the guide's Derived/Test/ToyasCard.lean, 'card_holds'). Laid BY PROGRAM, IN A SANDBOX (cutbox-door.mjs). By AI agents, Wed Nov 11 2026. No macro, syntax, notation, axiom, sorry.
-/
import Derived.Test.YtifendlpeebofabGreatDoorRows
import GoSem.ClaimSeven
namespace Go.Proofs.YtifendlpeebofabGreatDoor
namespace Rows

/-- THE TIED CARD OF 'estuarylaw11.MarksOwn'. -/
def marksOwnCard : Claim7 := { stood := { row := marksOwnRow, standIns := [], harness := (true, "864565e15081f31f5df9962d746c8229f45c7cff2929db5b11df666943446d5c"), looks := false }, kinds := [], alts := [], laidByText := true, laidKinds := [.data, .pinned], laidTests := true, laidLooks := .later }
def MarksOwnCardSaid : Prop := Claim7.holds Tryz.pinned (.plain (OpenSpec.ofChange marksOwnSpec)) marksOwnCard

/-- THE SECOND FORM's CARD OF 'estuarylaw11.MarksOwn'. -/
def marksOwnUptoCard : Claim7 := { stood := { row := marksOwnUptoRow, standIns := [], harness := (true, "864565e15081f31f5df9962d746c8229f45c7cff2929db5b11df666943446d5c"), looks := false }, kinds := [], alts := [], laidByText := true, laidKinds := [.data, .pinned], laidTests := true, laidLooks := .later }
def MarksOwnUptoCardSaid : Prop := Claim7.holds Tryz.pinned (.plain (OpenSpec.upto marksOwnSpec)) marksOwnUptoCard
end Rows
end Go.Proofs.YtifendlpeebofabGreatDoor
