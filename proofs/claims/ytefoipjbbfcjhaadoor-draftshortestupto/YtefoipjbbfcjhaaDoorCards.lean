/-
  DERIVED. GIVEN WITH THE SEED: THE CARDS: each row of YtefoipjbbfcjhaaDoorRows.lean that lists a variable, with what it lists TIED to the program's text (the seventh form; the later family's looks); each row that meets fmt, with fmt's text TOLD by the authors' own Lean function (tested against real Go, not proved from fmt's source: count such statements apart). THE CARD IS WHAT COUNTS. Prove the row's statement (the work); the ties are given (YtefoipjbbfcjhaaDoorTie.lean); close each card by the builder's one call (the guide's Derived/Test/ToyasCard.lean, 'card_holds'). Laid BY PROGRAM, IN A SANDBOX (cutbox-door.mjs). By AI agents, Wed Nov 11 2026. No macro, syntax, notation, axiom, sorry.
-/
import Derived.Test.YtefoipjbbfcjhaaDoorRows
import GoSem.ClaimSeven
namespace Go.Proofs.YtefoipjbbfcjhaaDoor
namespace Rows

/-- THE TIED CARD OF 'estuarylaw19.DraftScripts'. -/
def draftScriptsCard : Claim7 := { stood := { row := draftScriptsRow, standIns := [], harness := (true, "13b76f100b5ca5e9ee82fed6361175a41dfcc59c84d621ad2c8721ded930fef0"), looks := false }, kinds := [], alts := [], laidByText := true, laidKinds := [.data, .pinned], laidTests := true, laidLooks := .later }
def DraftScriptsCardSaid : Prop := Claim7.holds Tryd.pinned (.plain (OpenSpec.ofChange draftScriptsSpec)) draftScriptsCard

/-- THE TIED CARD OF 'estuarylaw19.DraftShortest'. -/
def draftShortestCard : Claim7 := { stood := { row := draftShortestRow, standIns := [], harness := (true, "13b76f100b5ca5e9ee82fed6361175a41dfcc59c84d621ad2c8721ded930fef0"), looks := false }, kinds := [], alts := [], laidByText := true, laidKinds := [.data, .pinned], laidTests := true, laidLooks := .later }
def DraftShortestCardSaid : Prop := Claim7.holds Tryd.pinned (.plain (OpenSpec.ofChange draftShortestSpec)) draftShortestCard

/-- THE SECOND FORM's CARD OF 'estuarylaw19.DraftScripts'. -/
def draftScriptsUptoCard : Claim7 := { stood := { row := draftScriptsUptoRow, standIns := [], harness := (true, "13b76f100b5ca5e9ee82fed6361175a41dfcc59c84d621ad2c8721ded930fef0"), looks := false }, kinds := [], alts := [], laidByText := true, laidKinds := [.data, .pinned], laidTests := true, laidLooks := .later }
def DraftScriptsUptoCardSaid : Prop := Claim7.holds Tryd.pinned (.plain (OpenSpec.upto draftScriptsSpec)) draftScriptsUptoCard

/-- THE SECOND FORM's CARD OF 'estuarylaw19.DraftShortest'. -/
def draftShortestUptoCard : Claim7 := { stood := { row := draftShortestUptoRow, standIns := [], harness := (true, "13b76f100b5ca5e9ee82fed6361175a41dfcc59c84d621ad2c8721ded930fef0"), looks := false }, kinds := [], alts := [], laidByText := true, laidKinds := [.data, .pinned], laidTests := true, laidLooks := .later }
def DraftShortestUptoCardSaid : Prop := Claim7.holds Tryd.pinned (.plain (OpenSpec.upto draftShortestSpec)) draftShortestUptoCard
end Rows
end Go.Proofs.YtefoipjbbfcjhaaDoor
