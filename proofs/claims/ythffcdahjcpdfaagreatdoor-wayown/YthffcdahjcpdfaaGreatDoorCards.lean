/-
  DERIVED. GIVEN WITH THE SEED: THE CARDS: each row of YthffcdahjcpdfaaGreatDoorRows.lean that lists a variable, with what it lists TIED to the program's text (the seventh form; the later family's looks); each row that meets fmt, with fmt's text TOLD by the authors' own Lean function (tested against real Go, not proved from fmt's source: count such statements apart). THE CARD IS WHAT COUNTS. Prove the row's statement (the work); the ties are given (YthffcdahjcpdfaaGreatDoorTie.lean); close each card by the builder's one call (the guide's Derived/Test/ToyasCard.lean, 'card_holds'). Laid BY PROGRAM, IN A SANDBOX (cutbox-door.mjs). By AI agents, Wed Nov 11 2026. No macro, syntax, notation, axiom, sorry.
-/
import Derived.Test.YthffcdahjcpdfaaGreatDoorRows
import GoSem.ClaimSeven
namespace Go.Proofs.YthffcdahjcpdfaaGreatDoor
namespace Rows

/-- THE TIED CARD OF 'estuarylaw13.WayOwn'. -/
def wayOwnCard : Claim7 := { stood := { row := wayOwnRow, standIns := [], harness := (true, "e4b9f2728ba65bb031ab948cb5bdc90af8944dc4baa35006b600dae768c78d19"), looks := true }, kinds := [], alts := [], laidByText := true, laidKinds := [.data, .data, .data, .data, .sentinel, .sentinel, .sentinel, .pinned], laidTests := true, laidLooks := .later }
def WayOwnCardSaid : Prop := Claim7.holds Tryz.pinned (.plain (OpenSpec.ofChange wayOwnSpec)) wayOwnCard

/-- THE SECOND FORM's CARD OF 'estuarylaw13.WayOwn'. -/
def wayOwnUptoCard : Claim7 := { stood := { row := wayOwnUptoRow, standIns := [], harness := (true, "e4b9f2728ba65bb031ab948cb5bdc90af8944dc4baa35006b600dae768c78d19"), looks := true }, kinds := [], alts := [], laidByText := true, laidKinds := [.data, .data, .data, .data, .sentinel, .sentinel, .sentinel, .pinned], laidTests := true, laidLooks := .later }
def WayOwnUptoCardSaid : Prop := Claim7.holds Tryz.pinned (.plain (OpenSpec.upto wayOwnSpec)) wayOwnUptoCard
end Rows
end Go.Proofs.YthffcdahjcpdfaaGreatDoor
