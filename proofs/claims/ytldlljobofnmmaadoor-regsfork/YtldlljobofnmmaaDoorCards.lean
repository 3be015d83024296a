/-
  DERIVED. GIVEN WITH THE SEED: THE CARDS: each row of YtldlljobofnmmaaDoorRows.lean that lists a variable, with what it lists TIED to the program's text (the seventh form; the later family's looks); each row that meets fmt, with fmt's text TOLD by the authors' own Lean function (tested against real Go, not proved from fmt's source: count such statements apart). THE CARD IS WHAT COUNTS. Prove the row's statement (the work); the ties are given (YtldlljobofnmmaaDoorTie.lean); close each card by the builder's one call (the guide's Derived/Test/ToyasCard.lean, 'card_holds'). Laid BY PROGRAM, IN A SANDBOX (cutbox-door.mjs). By AI agents, Wed Nov 11 2026. No macro, syntax, notation, axiom, sorry.
-/
import Derived.Test.YtldlljobofnmmaaDoorRows
import GoSem.ClaimSeven
namespace Go.Proofs.YtldlljobofnmmaaDoor
namespace Rows

/-- THE TIED CARD OF 'estuarylaw08.RegsPlays'. -/
def regsPlaysCard : Claim7 := { stood := { row := regsPlaysRow, standIns := [], harness := (true, "b0acce50076ee7976f8a89c2b4e4ece703ecf8aef9c6bfb028a6c6f5adc57187"), looks := true }, kinds := [], alts := [], laidByText := true, laidKinds := [.data, .pinned], laidTests := true, laidLooks := .later }
def RegsPlaysCardSaid : Prop := Claim7.holds Tryd.pinned (.plain (OpenSpec.ofChange regsPlaysSpec)) regsPlaysCard

/-- THE TIED CARD OF 'estuarylaw08.RegsSeldom'. -/
def regsSeldomCard : Claim7 := { stood := { row := regsSeldomRow, standIns := [], harness := (true, "b0acce50076ee7976f8a89c2b4e4ece703ecf8aef9c6bfb028a6c6f5adc57187"), looks := true }, kinds := [], alts := [], laidByText := true, laidKinds := [.data, .pinned], laidTests := true, laidLooks := .later }
def RegsSeldomCardSaid : Prop := Claim7.holds Tryd.pinned (.plain (OpenSpec.ofChange regsSeldomSpec)) regsSeldomCard

/-- THE TIED CARD OF 'estuarylaw08.RegsFork'. -/
def regsForkCard : Claim7 := { stood := { row := regsForkRow, standIns := [], harness := (true, "b0acce50076ee7976f8a89c2b4e4ece703ecf8aef9c6bfb028a6c6f5adc57187"), looks := true }, kinds := [], alts := [], laidByText := true, laidKinds := [.data, .pinned], laidTests := true, laidLooks := .later }
def RegsForkCardSaid : Prop := Claim7.holds Tryd.pinned (.plain (OpenSpec.ofChange regsForkSpec)) regsForkCard

/-- THE TIED CARD OF 'estuarylaw08.RegsNone'. -/
def regsNoneCard : Claim7 := { stood := { row := regsNoneRow, standIns := [], harness := (true, "b0acce50076ee7976f8a89c2b4e4ece703ecf8aef9c6bfb028a6c6f5adc57187"), looks := true }, kinds := [], alts := [], laidByText := true, laidKinds := [.data, .pinned], laidTests := true, laidLooks := .later }
def RegsNoneCardSaid : Prop := Claim7.holds Tryd.pinned (.plain (OpenSpec.ofChange regsNoneSpec)) regsNoneCard

/-- THE TIED CARD OF 'estuarylaw08.RegsValues'. -/
def regsValuesCard : Claim7 := { stood := { row := regsValuesRow, standIns := [], harness := (true, "b0acce50076ee7976f8a89c2b4e4ece703ecf8aef9c6bfb028a6c6f5adc57187"), looks := true }, kinds := [], alts := [], laidByText := true, laidKinds := [.data, .pinned], laidTests := true, laidLooks := .later }
def RegsValuesCardSaid : Prop := Claim7.holds Tryd.pinned (.plain (OpenSpec.ofChange regsValuesSpec)) regsValuesCard

/-- THE SECOND FORM's CARD OF 'estuarylaw08.RegsPlays'. -/
def regsPlaysUptoCard : Claim7 := { stood := { row := regsPlaysUptoRow, standIns := [], harness := (true, "b0acce50076ee7976f8a89c2b4e4ece703ecf8aef9c6bfb028a6c6f5adc57187"), looks := true }, kinds := [], alts := [], laidByText := true, laidKinds := [.data, .pinned], laidTests := true, laidLooks := .later }
def RegsPlaysUptoCardSaid : Prop := Claim7.holds Tryd.pinned (.plain (OpenSpec.upto regsPlaysSpec)) regsPlaysUptoCard

/-- THE SECOND FORM's CARD OF 'estuarylaw08.RegsSeldom'. -/
def regsSeldomUptoCard : Claim7 := { stood := { row := regsSeldomUptoRow, standIns := [], harness := (true, "b0acce50076ee7976f8a89c2b4e4ece703ecf8aef9c6bfb028a6c6f5adc57187"), looks := true }, kinds := [], alts := [], laidByText := true, laidKinds := [.data, .pinned], laidTests := true, laidLooks := .later }
def RegsSeldomUptoCardSaid : Prop := Claim7.holds Tryd.pinned (.plain (OpenSpec.upto regsSeldomSpec)) regsSeldomUptoCard

/-- THE SECOND FORM's CARD OF 'estuarylaw08.RegsFork'. -/
def regsForkUptoCard : Claim7 := { stood := { row := regsForkUptoRow, standIns := [], harness := (true, "b0acce50076ee7976f8a89c2b4e4ece703ecf8aef9c6bfb028a6c6f5adc57187"), looks := true }, kinds := [], alts := [], laidByText := true, laidKinds := [.data, .pinned], laidTests := true, laidLooks := .later }
def RegsForkUptoCardSaid : Prop := Claim7.holds Tryd.pinned (.plain (OpenSpec.upto regsForkSpec)) regsForkUptoCard

/-- THE SECOND FORM's CARD OF 'estuarylaw08.RegsNone'. -/
def regsNoneUptoCard : Claim7 := { stood := { row := regsNoneUptoRow, standIns := [], harness := (true, "b0acce50076ee7976f8a89c2b4e4ece703ecf8aef9c6bfb028a6c6f5adc57187"), looks := true }, kinds := [], alts := [], laidByText := true, laidKinds := [.data, .pinned], laidTests := true, laidLooks := .later }
def RegsNoneUptoCardSaid : Prop := Claim7.holds Tryd.pinned (.plain (OpenSpec.upto regsNoneSpec)) regsNoneUptoCard

/-- THE SECOND FORM's CARD OF 'estuarylaw08.RegsValues'. -/
def regsValuesUptoCard : Claim7 := { stood := { row := regsValuesUptoRow, standIns := [], harness := (true, "b0acce50076ee7976f8a89c2b4e4ece703ecf8aef9c6bfb028a6c6f5adc57187"), looks := true }, kinds := [], alts := [], laidByText := true, laidKinds := [.data, .pinned], laidTests := true, laidLooks := .later }
def RegsValuesUptoCardSaid : Prop := Claim7.holds Tryd.pinned (.plain (OpenSpec.upto regsValuesSpec)) regsValuesUptoCard
end Rows
end Go.Proofs.YtldlljobofnmmaaDoor
