/-
  DERIVED. GIVEN WITH THE SEED: THE CARDS: each row of YteggiecmfclcjaaDoorRows.lean that lists a variable, with what it lists TIED to the program's text (the seventh form; the later family's looks); each row that meets fmt, with fmt's text TOLD by the authors' own Lean function (tested against real Go, not proved from fmt's source: count such statements apart). THE CARD IS WHAT COUNTS. Prove the row's statement (the work); the ties are given (YteggiecmfclcjaaDoorTie.lean); close each card by the builder's one call (the guide's Derived/Test/ToyasCard.lean, 'card_holds'). Laid BY PROGRAM, IN A SANDBOX (cutbox-door.mjs). By AI agents, Wed Nov 11 2026. No macro, syntax, notation, axiom, sorry.
-/
import Derived.Test.YteggiecmfclcjaaDoorRows
import GoSem.ClaimSeven
namespace Go.Proofs.YteggiecmfclcjaaDoor
namespace Rows

/-- THE TIED CARD OF 'estuarylaw13.WayJoins'. -/
def wayJoinsCard : Claim7 := { stood := { row := wayJoinsRow, standIns := [], harness := (true, "9cca8929d76f590acc218881c1cf514fa73599cee540b351f4ba39a53e0a7180"), looks := true }, kinds := [], alts := [], laidByText := true, laidKinds := [.data, .sentinel, .sentinel, .sentinel, .pinned], laidTests := true, laidLooks := .later }
def WayJoinsCardSaid : Prop := Claim7.holds Tryd.pinned (.plain (OpenSpec.ofChange wayJoinsSpec)) wayJoinsCard

/-- THE TIED CARD OF 'estuarylaw13.WayUnder'. -/
def wayUnderCard : Claim7 := { stood := { row := wayUnderRow, standIns := [], harness := (true, "9cca8929d76f590acc218881c1cf514fa73599cee540b351f4ba39a53e0a7180"), looks := true }, kinds := [], alts := [], laidByText := true, laidKinds := [.data, .sentinel, .sentinel, .sentinel, .pinned], laidTests := true, laidLooks := .later }
def WayUnderCardSaid : Prop := Claim7.holds Tryd.pinned (.plain (OpenSpec.ofChange wayUnderSpec)) wayUnderCard

/-- THE SECOND FORM's CARD OF 'estuarylaw13.WayJoins'. -/
def wayJoinsUptoCard : Claim7 := { stood := { row := wayJoinsUptoRow, standIns := [], harness := (true, "9cca8929d76f590acc218881c1cf514fa73599cee540b351f4ba39a53e0a7180"), looks := true }, kinds := [], alts := [], laidByText := true, laidKinds := [.data, .sentinel, .sentinel, .sentinel, .pinned], laidTests := true, laidLooks := .later }
def WayJoinsUptoCardSaid : Prop := Claim7.holds Tryd.pinned (.plain (OpenSpec.upto wayJoinsSpec)) wayJoinsUptoCard

/-- THE SECOND FORM's CARD OF 'estuarylaw13.WayUnder'. -/
def wayUnderUptoCard : Claim7 := { stood := { row := wayUnderUptoRow, standIns := [], harness := (true, "9cca8929d76f590acc218881c1cf514fa73599cee540b351f4ba39a53e0a7180"), looks := true }, kinds := [], alts := [], laidByText := true, laidKinds := [.data, .sentinel, .sentinel, .sentinel, .pinned], laidTests := true, laidLooks := .later }
def WayUnderUptoCardSaid : Prop := Claim7.holds Tryd.pinned (.plain (OpenSpec.upto wayUnderSpec)) wayUnderUptoCard
end Rows
end Go.Proofs.YteggiecmfclcjaaDoor
