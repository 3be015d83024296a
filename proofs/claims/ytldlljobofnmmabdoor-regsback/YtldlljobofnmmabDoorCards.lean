/-
  DERIVED. GIVEN WITH THE SEED: THE CARDS: each row of YtldlljobofnmmabDoorRows.lean that lists a variable, with what it lists TIED to the program's text (the seventh form; the later family's looks); each row that meets fmt, with fmt's text TOLD by the authors' own Lean function (tested against real Go, not proved from fmt's source: count such statements apart). THE CARD IS WHAT COUNTS. Prove the row's statement (the work); the ties are given (YtldlljobofnmmabDoorTie.lean); close each card by the builder's one call (the guide's Derived/Test/ToyasCard.lean, 'card_holds'). Laid BY PROGRAM, IN A SANDBOX (cutbox-door.mjs). By AI agents, Wed Nov 11 2026. No macro, syntax, notation, axiom, sorry.
-/
import Derived.Test.YtldlljobofnmmabDoorRows
import GoSem.ClaimSeven
namespace Go.Proofs.YtldlljobofnmmabDoor
namespace Rows

/-- THE TIED CARD OF 'estuarylaw08.RegsApart'. -/
def regsApartCard : Claim7 := { stood := { row := regsApartRow, standIns := [], harness := (true, "432d1a22919f48ff864bc461a0103f6c90c7f223c2672b7a5091cd7d683dbbe5"), looks := false }, kinds := [], alts := [], laidByText := true, laidKinds := [.data, .pinned], laidTests := true, laidLooks := .later }
def RegsApartCardSaid : Prop := Claim7.holds Tryd.pinned (.plain (OpenSpec.ofChange regsApartSpec)) regsApartCard

/-- THE TIED CARD OF 'estuarylaw08.RegsBack'. -/
def regsBackCard : Claim7 := { stood := { row := regsBackRow, standIns := [], harness := (true, "432d1a22919f48ff864bc461a0103f6c90c7f223c2672b7a5091cd7d683dbbe5"), looks := false }, kinds := [], alts := [], laidByText := true, laidKinds := [.data, .pinned], laidTests := true, laidLooks := .later }
def RegsBackCardSaid : Prop := Claim7.holds Tryd.pinned (.plain (OpenSpec.ofChange regsBackSpec)) regsBackCard

/-- THE SECOND FORM's CARD OF 'estuarylaw08.RegsApart'. -/
def regsApartUptoCard : Claim7 := { stood := { row := regsApartUptoRow, standIns := [], harness := (true, "432d1a22919f48ff864bc461a0103f6c90c7f223c2672b7a5091cd7d683dbbe5"), looks := false }, kinds := [], alts := [], laidByText := true, laidKinds := [.data, .pinned], laidTests := true, laidLooks := .later }
def RegsApartUptoCardSaid : Prop := Claim7.holds Tryd.pinned (.plain (OpenSpec.upto regsApartSpec)) regsApartUptoCard

/-- THE SECOND FORM's CARD OF 'estuarylaw08.RegsBack'. -/
def regsBackUptoCard : Claim7 := { stood := { row := regsBackUptoRow, standIns := [], harness := (true, "432d1a22919f48ff864bc461a0103f6c90c7f223c2672b7a5091cd7d683dbbe5"), looks := false }, kinds := [], alts := [], laidByText := true, laidKinds := [.data, .pinned], laidTests := true, laidLooks := .later }
def RegsBackUptoCardSaid : Prop := Claim7.holds Tryd.pinned (.plain (OpenSpec.upto regsBackSpec)) regsBackUptoCard
end Rows
end Go.Proofs.YtldlljobofnmmabDoor
