/-
  DERIVED. GIVEN WITH THE SEED: THE CARDS: each row of YtifendlpeebofaaDoorRows.lean that lists a variable, with what it lists TIED to the program's text (the seventh form; the later family's looks); each row that meets fmt, with fmt's text TOLD by the authors' own Lean function (tested against real Go, not proved from fmt's source: count such statements apart). THE CARD IS WHAT COUNTS. Prove the row's statement (the work); the ties are given (YtifendlpeebofaaDoorTie.lean); close each card by the builder's one call (the guide's Derived/Test/ToyasCard.lean, 'card_holds'). Laid BY PROGRAM, IN A SANDBOX (cutbox-door.mjs). By AI agents, Wed Nov 11 2026. No macro, syntax, notation, axiom, sorry.
-/
import Derived.Test.YtifendlpeebofaaDoorRows
import GoSem.ClaimSeven
namespace Go.Proofs.YtifendlpeebofaaDoor
namespace Rows

/-- THE TIED CARD OF 'estuarylaw11.MarksGrow'. -/
def marksGrowCard : Claim7 := { stood := { row := marksGrowRow, standIns := [], harness := (true, "7026caa5b57fc39ac5d2addfff8f85faa0f705b5e75b7e965bf341738e20614a"), looks := false }, kinds := [], alts := [], laidByText := true, laidKinds := [.data, .pinned], laidTests := true, laidLooks := .later }
def MarksGrowCardSaid : Prop := Claim7.holds Tryd.pinned (.plain (OpenSpec.ofChange marksGrowSpec)) marksGrowCard

/-- THE SECOND FORM's CARD OF 'estuarylaw11.MarksGrow'. -/
def marksGrowUptoCard : Claim7 := { stood := { row := marksGrowUptoRow, standIns := [], harness := (true, "7026caa5b57fc39ac5d2addfff8f85faa0f705b5e75b7e965bf341738e20614a"), looks := false }, kinds := [], alts := [], laidByText := true, laidKinds := [.data, .pinned], laidTests := true, laidLooks := .later }
def MarksGrowUptoCardSaid : Prop := Claim7.holds Tryd.pinned (.plain (OpenSpec.upto marksGrowSpec)) marksGrowUptoCard
end Rows
end Go.Proofs.YtifendlpeebofaaDoor
