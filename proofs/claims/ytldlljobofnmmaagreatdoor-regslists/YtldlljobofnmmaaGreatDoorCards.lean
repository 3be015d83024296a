/-
  DERIVED. GIVEN WITH THE SEED: THE CARDS: each row of YtldlljobofnmmaaGreatDoorRows.lean that lists a variable, with what it lists TIED to the program's text (the seventh form; the later family's looks); each row that meets fmt, with fmt's text TOLD by the authors' own Lean function (tested against real Go, not proved from fmt's source: count such statements apart). THE CARD IS WHAT COUNTS. Prove the row's statement (the work); the ties are given (YtldlljobofnmmaaGreatDoorTie.lean); close each card by the builder's one call (the guide's Derived/Test/ToyasCard.lean, 'card_holds'). Laid BY PROGRAM, IN A SANDBOX (cutbox-door.mjs). By AI agents, Wed Nov 11 2026. No macro, syntax, notation, axiom, sorry.
-/
import Derived.Test.YtldlljobofnmmaaGreatDoorRows
import GoSem.ClaimSeven
namespace Go.Proofs.YtldlljobofnmmaaGreatDoor
namespace Rows

/-- THE TIED CARD OF 'estuarylaw08.RegsLists'. -/
def regsListsCard : Claim7 := { stood := { row := regsListsRow, standIns := [], harness := (true, "0ba68afad624989c20a595f2c214099090f5510c8e2aa43c2a0c237ef6ca33ce"), looks := false }, kinds := [], alts := [], laidByText := true, laidKinds := [.data, .pinned], laidTests := true, laidLooks := .later }
def RegsListsCardSaid : Prop := Claim7.holds Tryz.pinned (.plain (OpenSpec.ofChange regsListsSpec)) regsListsCard

/-- THE SECOND FORM's CARD OF 'estuarylaw08.RegsLists'. -/
def regsListsUptoCard : Claim7 := { stood := { row := regsListsUptoRow, standIns := [], harness := (true, "0ba68afad624989c20a595f2c214099090f5510c8e2aa43c2a0c237ef6ca33ce"), looks := false }, kinds := [], alts := [], laidByText := true, laidKinds := [.data, .pinned], laidTests := true, laidLooks := .later }
def RegsListsUptoCardSaid : Prop := Claim7.holds Tryz.pinned (.plain (OpenSpec.upto regsListsSpec)) regsListsUptoCard
end Rows
end Go.Proofs.YtldlljobofnmmaaGreatDoor
