/-
  DERIVED. GIVEN WITH THE SEED: THE CARDS: each row of YtgnichmemkglkaaDoorRows.lean that lists a variable, with what it lists TIED to the program's text (the seventh form; the later family's looks); each row that meets fmt, with fmt's text TOLD by the authors' own Lean function (tested against real Go, not proved from fmt's source: count such statements apart). THE CARD IS WHAT COUNTS. Prove the row's statement (the work); the ties are given (YtgnichmemkglkaaDoorTie.lean); close each card by the builder's one call (the guide's Derived/Test/ToyasCard.lean, 'card_holds'). Laid BY PROGRAM, IN A SANDBOX (cutbox-door.mjs). By AI agents, Wed Nov 11 2026. No macro, syntax, notation, axiom, sorry.
-/
import Derived.Test.YtgnichmemkglkaaDoorRows
import GoSem.ClaimSeven
namespace Go.Proofs.YtgnichmemkglkaaDoor
namespace Rows

/-- THE TIED CARD OF 'estuarylaw13.WayPrints'. -/
def wayPrintsCard : Claim7 := { stood := { row := wayPrintsRow, standIns := [], harness := (true, "5ecaad3cc102e830404b66ca0bc006cfd45152260f6b3d3a9daf05e2c608cf7f"), looks := true }, kinds := [], alts := [], laidByText := true, laidKinds := [.data, .data, .data, .data, .sentinel, .sentinel, .sentinel, .pinned], laidTests := true, laidLooks := .later }
def WayPrintsCardSaid : Prop := Claim7.holds Tryd.pinned (.plain (OpenSpec.ofChange wayPrintsSpec)) wayPrintsCard

/-- THE TIED CARD OF 'estuarylaw13.WayParses'. -/
def wayParsesCard : Claim7 := { stood := { row := wayParsesRow, standIns := [], harness := (true, "5ecaad3cc102e830404b66ca0bc006cfd45152260f6b3d3a9daf05e2c608cf7f"), looks := true }, kinds := [], alts := [], laidByText := true, laidKinds := [.data, .sentinel, .sentinel, .sentinel, .pinned], laidTests := true, laidLooks := .later }
def WayParsesCardSaid : Prop := Claim7.holds Tryd.pinned (.plain (OpenSpec.ofChange wayParsesSpec)) wayParsesCard

/-- THE SECOND FORM's CARD OF 'estuarylaw13.WayPrints'. -/
def wayPrintsUptoCard : Claim7 := { stood := { row := wayPrintsUptoRow, standIns := [], harness := (true, "5ecaad3cc102e830404b66ca0bc006cfd45152260f6b3d3a9daf05e2c608cf7f"), looks := true }, kinds := [], alts := [], laidByText := true, laidKinds := [.data, .data, .data, .data, .sentinel, .sentinel, .sentinel, .pinned], laidTests := true, laidLooks := .later }
def WayPrintsUptoCardSaid : Prop := Claim7.holds Tryd.pinned (.plain (OpenSpec.upto wayPrintsSpec)) wayPrintsUptoCard

/-- THE SECOND FORM's CARD OF 'estuarylaw13.WayParses'. -/
def wayParsesUptoCard : Claim7 := { stood := { row := wayParsesUptoRow, standIns := [], harness := (true, "5ecaad3cc102e830404b66ca0bc006cfd45152260f6b3d3a9daf05e2c608cf7f"), looks := true }, kinds := [], alts := [], laidByText := true, laidKinds := [.data, .sentinel, .sentinel, .sentinel, .pinned], laidTests := true, laidLooks := .later }
def WayParsesUptoCardSaid : Prop := Claim7.holds Tryd.pinned (.plain (OpenSpec.upto wayParsesSpec)) wayParsesUptoCard
end Rows
end Go.Proofs.YtgnichmemkglkaaDoor
