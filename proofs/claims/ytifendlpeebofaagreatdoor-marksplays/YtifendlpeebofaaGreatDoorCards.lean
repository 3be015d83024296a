/-
  DERIVED. GIVEN WITH THE SEED: THE CARDS: each row of YtifendlpeebofaaGreatDoorRows.lean that lists a variable, with what it lists TIED to the program's text (the seventh form; the later family's looks); each row that meets fmt, with fmt's text TOLD by the authors' own Lean function (tested against real Go, not proved from fmt's source: count such statements apart). THE CARD IS WHAT COUNTS. Prove the row's statement (the work); the ties are given (YtifendlpeebofaaGreatDoorTie.lean); close each card by the builder's one call (the guide's Derived/Test/ToyasCard.lean, 'card_holds'). Laid BY PROGRAM, IN A SANDBOX (cutbox-door.mjs). By AI agents, Wed Nov 11 2026. No macro, syntax, notation, axiom, sorry.
-/
import Derived.Test.YtifendlpeebofaaGreatDoorRows
import GoSem.ClaimSeven
namespace Go.Proofs.YtifendlpeebofaaGreatDoor
namespace Rows

/-- THE TIED CARD OF 'estuarylaw11.MarksPlays'. -/
def marksPlaysCard : Claim7 := { stood := { row := marksPlaysRow, standIns := [], harness := (true, "904abd44982304e19fcbfdc5d74ce6309d265186045cecb1d9abb7cb067584d8"), looks := true }, kinds := [], alts := [], laidByText := true, laidKinds := [.data, .pinned], laidTests := true, laidLooks := .later }
def MarksPlaysCardSaid : Prop := Claim7.holds Tryz.pinned (.plain (OpenSpec.ofChange marksPlaysSpec)) marksPlaysCard

/-- THE TIED CARD OF 'estuarylaw11.MarksNil'. -/
def marksNilCard : Claim7 := { stood := { row := marksNilRow, standIns := [], harness := (true, "904abd44982304e19fcbfdc5d74ce6309d265186045cecb1d9abb7cb067584d8"), looks := true }, kinds := [], alts := [], laidByText := true, laidKinds := [.data, .pinned], laidTests := true, laidLooks := .later }
def MarksNilCardSaid : Prop := Claim7.holds Tryz.pinned (.plain (OpenSpec.ofChange marksNilSpec)) marksNilCard

/-- THE TIED CARD OF 'estuarylaw11.MarksBack'. -/
def marksBackCard : Claim7 := { stood := { row := marksBackRow, standIns := [], harness := (true, "904abd44982304e19fcbfdc5d74ce6309d265186045cecb1d9abb7cb067584d8"), looks := true }, kinds := [], alts := [], laidByText := true, laidKinds := [.data, .pinned], laidTests := true, laidLooks := .later }
def MarksBackCardSaid : Prop := Claim7.holds Tryz.pinned (.plain (OpenSpec.ofChange marksBackSpec)) marksBackCard

/-- THE TIED CARD OF 'estuarylaw11.MarksAgree'. -/
def marksAgreeCard : Claim7 := { stood := { row := marksAgreeRow, standIns := [], harness := (true, "904abd44982304e19fcbfdc5d74ce6309d265186045cecb1d9abb7cb067584d8"), looks := true }, kinds := [], alts := [], laidByText := true, laidKinds := [.data, .pinned], laidTests := true, laidLooks := .later }
def MarksAgreeCardSaid : Prop := Claim7.holds Tryz.pinned (.plain (OpenSpec.ofChange marksAgreeSpec)) marksAgreeCard

/-- THE TIED CARD OF 'estuarylaw11.MarksOff'. -/
def marksOffCard : Claim7 := { stood := { row := marksOffRow, standIns := [], harness := (true, "904abd44982304e19fcbfdc5d74ce6309d265186045cecb1d9abb7cb067584d8"), looks := true }, kinds := [], alts := [], laidByText := true, laidKinds := [.data, .pinned], laidTests := true, laidLooks := .later }
def MarksOffCardSaid : Prop := Claim7.holds Tryz.pinned (.plain (OpenSpec.ofChange marksOffSpec)) marksOffCard

/-- THE SECOND FORM's CARD OF 'estuarylaw11.MarksPlays'. -/
def marksPlaysUptoCard : Claim7 := { stood := { row := marksPlaysUptoRow, standIns := [], harness := (true, "904abd44982304e19fcbfdc5d74ce6309d265186045cecb1d9abb7cb067584d8"), looks := true }, kinds := [], alts := [], laidByText := true, laidKinds := [.data, .pinned], laidTests := true, laidLooks := .later }
def MarksPlaysUptoCardSaid : Prop := Claim7.holds Tryz.pinned (.plain (OpenSpec.upto marksPlaysSpec)) marksPlaysUptoCard

/-- THE SECOND FORM's CARD OF 'estuarylaw11.MarksNil'. -/
def marksNilUptoCard : Claim7 := { stood := { row := marksNilUptoRow, standIns := [], harness := (true, "904abd44982304e19fcbfdc5d74ce6309d265186045cecb1d9abb7cb067584d8"), looks := true }, kinds := [], alts := [], laidByText := true, laidKinds := [.data, .pinned], laidTests := true, laidLooks := .later }
def MarksNilUptoCardSaid : Prop := Claim7.holds Tryz.pinned (.plain (OpenSpec.upto marksNilSpec)) marksNilUptoCard

/-- THE SECOND FORM's CARD OF 'estuarylaw11.MarksBack'. -/
def marksBackUptoCard : Claim7 := { stood := { row := marksBackUptoRow, standIns := [], harness := (true, "904abd44982304e19fcbfdc5d74ce6309d265186045cecb1d9abb7cb067584d8"), looks := true }, kinds := [], alts := [], laidByText := true, laidKinds := [.data, .pinned], laidTests := true, laidLooks := .later }
def MarksBackUptoCardSaid : Prop := Claim7.holds Tryz.pinned (.plain (OpenSpec.upto marksBackSpec)) marksBackUptoCard

/-- THE SECOND FORM's CARD OF 'estuarylaw11.MarksAgree'. -/
def marksAgreeUptoCard : Claim7 := { stood := { row := marksAgreeUptoRow, standIns := [], harness := (true, "904abd44982304e19fcbfdc5d74ce6309d265186045cecb1d9abb7cb067584d8"), looks := true }, kinds := [], alts := [], laidByText := true, laidKinds := [.data, .pinned], laidTests := true, laidLooks := .later }
def MarksAgreeUptoCardSaid : Prop := Claim7.holds Tryz.pinned (.plain (OpenSpec.upto marksAgreeSpec)) marksAgreeUptoCard

/-- THE SECOND FORM's CARD OF 'estuarylaw11.MarksOff'. -/
def marksOffUptoCard : Claim7 := { stood := { row := marksOffUptoRow, standIns := [], harness := (true, "904abd44982304e19fcbfdc5d74ce6309d265186045cecb1d9abb7cb067584d8"), looks := true }, kinds := [], alts := [], laidByText := true, laidKinds := [.data, .pinned], laidTests := true, laidLooks := .later }
def MarksOffUptoCardSaid : Prop := Claim7.holds Tryz.pinned (.plain (OpenSpec.upto marksOffSpec)) marksOffUptoCard
end Rows
end Go.Proofs.YtifendlpeebofaaGreatDoor
