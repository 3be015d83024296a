/-
  NARROWER THAN 'FOR EVERY INPUT', by the rows' own cells (each row's printed sentence says how): WayJoins: laid · WayUnder: laid.
  DERIVED. THE GIVEN ROWS OF THIS SEAT. 2 by the template 'for every input the law returns true; each argument reads behind the call as it read before'; 0 by the template 'total and deterministic' (their statements: YteggiecmfclcjaaDoorTotals.lean).
  GIVEN WITH THE SEED: the statements are not yours to turn. If you find one false, say at which input.
  Laid BY PROGRAM, IN A SANDBOX (cutbox-rows.mjs): the forced cells as the released guide's own fill.sh prints them over the translation 21393c997c095a3a… (all of the seat's roots in one cut). By AI agents, Wed Nov 11 2026. No macro, syntax, notation, axiom, sorry.
-/
import Derived.Test.YteggiecmfclcjaaDoorChecked
import GoSem.PinnedTables
import GoSem.Claim
import GoSem.ClaimJoined
import GoSem.ClaimMapViews
import Derived.JoinedTies
import Derived.KernelRfl
namespace Go.Proofs.YteggiecmfclcjaaDoor
/- THE CELL 'sum', in the pinned program and in every row, IS THE sha256 OF THE DUMP (.gsa) THAT YteggiecmfclcjaaDoorProg.lean LOADS. Nothing in Lean hashes anything: it is a label: what it is worth is what the hold of that sum in a sandbox is worth. -/
noncomputable def Tryd.pinned : Pinned := { name := "yteggiecmfclcjaadoor", sum := "21393c997c095a3a35dd5b80d641ddb437563f67485bada49169863205b1ace6", checked := Tryd.checked }
namespace Rows
def none {H : Type} : Left H := { results := [], args := [] }

/- WHAT THE LISTED PACKAGE-LEVEL VARIABLES READ AS WHEN THE CALL BEGINS. Each datum BY PROGRAM (the guide's laid-datum.mjs) off the statement by which the dump's own 'gosem.cut.vars' lays the variable. In a bare row this is a premise. The card (YteggiecmfclcjaaDoorCards.lean) ties it to the program's text. -/
def laid_unicode_utf8_acceptRanges {H : Type} : DataW H := .agg [.agg [.lit (.int .u8 128), .lit (.int .u8 191)], .agg [.lit (.int .u8 160), .lit (.int .u8 191)], .agg [.lit (.int .u8 128), .lit (.int .u8 159)], .agg [.lit (.int .u8 144), .lit (.int .u8 191)], .agg [.lit (.int .u8 128), .lit (.int .u8 143)], .agg [.lit (.int .u8 0), .lit (.int .u8 0)], .agg [.lit (.int .u8 0), .lit (.int .u8 0)], .agg [.lit (.int .u8 0), .lit (.int .u8 0)], .agg [.lit (.int .u8 0), .lit (.int .u8 0)], .agg [.lit (.int .u8 0), .lit (.int .u8 0)], .agg [.lit (.int .u8 0), .lit (.int .u8 0)], .agg [.lit (.int .u8 0), .lit (.int .u8 0)], .agg [.lit (.int .u8 0), .lit (.int .u8 0)], .agg [.lit (.int .u8 0), .lit (.int .u8 0)], .agg [.lit (.int .u8 0), .lit (.int .u8 0)], .agg [.lit (.int .u8 0), .lit (.int .u8 0)]]
def laid_estuary_way_errLong {H : Type} : DataW H := .iface "*errors.errorString" (.ptr (.agg [.lit (.string [108, 111, 110, 103, 101, 114, 32, 116, 104, 97, 110, 32, 97, 32, 119, 97, 121, 32, 109, 97, 121, 32, 98, 101])]))
def laid_estuary_way_errStep {H : Type} : DataW H := .iface "*errors.errorString" (.ptr (.agg [.lit (.string [97, 32, 115, 116, 101, 112, 32, 116, 104, 97, 116, 32, 109, 97, 121, 32, 110, 111, 116, 32, 98, 101, 32, 115, 111])]))
def laid_estuary_way_errText {H : Type} : DataW H := .iface "*errors.errorString" (.ptr (.agg [.lit (.string [97, 32, 116, 101, 120, 116, 32, 116, 104, 97, 116, 32, 105, 115, 32, 110, 111, 32, 119, 97, 121])]))
/-- One of Go's own tables, pinned by name: the form's constant. -/
def laid_unicode_utf8_first : DataW Unit := Go.Pinned.utf8First

/-- 'estuarylaw13.WayJoins': WHATEVER THE INPUT: true; the input reads as it did. -/
def wayJoinsSpec : ChangeSpec := { name := "wayJoins", fn := fun _ => fun
  | [d1, d2] => { results := [.lit (.bool true)], args := [d1, d2] }
  | _ => none }
def wayJoinsRow : OpenClaim := { program := "yteggiecmfclcjaadoor", sum := "21393c997c095a3a35dd5b80d641ddb437563f67485bada49169863205b1ace6", func := "estuary/estuarylaw13.WayJoins", spec := "wayJoins", inPlace := ["internal/reflectlite.TypeOf"], unfollowed := true, recurses := true, named := ["estuary/way.errLong", "estuary/way.errStep", "unicode/utf8.first", "unicode/utf8.acceptRanges", "estuary/way.errText"], apart := false, laid := [("unicode/utf8.acceptRanges", laid_unicode_utf8_acceptRanges), ("estuary/way.errLong", laid_estuary_way_errLong), ("estuary/way.errStep", laid_estuary_way_errStep), ("estuary/way.errText", laid_estuary_way_errText), ("unicode/utf8.first", laid_unicode_utf8_first)] }
def WayJoinsSaid : Prop := wayJoinsRow.holds Tryd.pinned (OpenSpec.ofChange wayJoinsSpec)

/-- ITS FALSE NEIGHBOUR: 'it returns false'. Refute it at one input. -/
def wayJoinsWrong : ChangeSpec := { name := "wayJoins", fn := fun _ => fun
  | [d1, d2] => { results := [.lit (.bool false)], args := [d1, d2] }
  | _ => none }
def WayJoinsWrongFalsely : Prop := wayJoinsRow.holds Tryd.pinned (OpenSpec.ofChange wayJoinsWrong)

/-- 'estuarylaw13.WayUnder': WHATEVER THE INPUT: true; the input reads as it did. -/
def wayUnderSpec : ChangeSpec := { name := "wayUnder", fn := fun _ => fun
  | [d1, d2] => { results := [.lit (.bool true)], args := [d1, d2] }
  | _ => none }
def wayUnderRow : OpenClaim := { program := "yteggiecmfclcjaadoor", sum := "21393c997c095a3a35dd5b80d641ddb437563f67485bada49169863205b1ace6", func := "estuary/estuarylaw13.WayUnder", spec := "wayUnder", inPlace := ["internal/reflectlite.TypeOf"], unfollowed := true, recurses := true, named := ["estuary/way.errLong", "estuary/way.errStep", "unicode/utf8.first", "unicode/utf8.acceptRanges", "estuary/way.errText"], apart := false, laid := [("unicode/utf8.acceptRanges", laid_unicode_utf8_acceptRanges), ("estuary/way.errLong", laid_estuary_way_errLong), ("estuary/way.errStep", laid_estuary_way_errStep), ("estuary/way.errText", laid_estuary_way_errText), ("unicode/utf8.first", laid_unicode_utf8_first)] }
def WayUnderSaid : Prop := wayUnderRow.holds Tryd.pinned (OpenSpec.ofChange wayUnderSpec)

/-- ITS FALSE NEIGHBOUR: 'it returns false'. Refute it at one input. -/
def wayUnderWrong : ChangeSpec := { name := "wayUnder", fn := fun _ => fun
  | [d1, d2] => { results := [.lit (.bool false)], args := [d1, d2] }
  | _ => none }
def WayUnderWrongFalsely : Prop := wayUnderRow.holds Tryd.pinned (OpenSpec.ofChange wayUnderWrong)

/- THE SECOND FORM. 'bulk': how many values and letters a reading holds, each counted each time it is reached (what is shared counts as often as it is met; a slice's spare places count too). A statement '..UptoSaid' is the law's where the arguments, and the package variables that the reading takes, are together of bulk at most 1048576: NARROWER than '..Said'. Prove '..Said' where nothing that the law and all that it calls make is longer than what came in: it says more and counts as full. Else prove '..UptoSaid'. A law counts once. -/
mutual
def uptoBulk {H : Type} : DataW H → Nat
  | .lit (.string bytes) => bytes.length + 1
  | .lit _ => 1
  | .nil => 1
  | .ptr d => uptoBulk d + 1
  | .slice elems spare => uptoBulkAll elems + uptoBulkAll spare + 1
  | .agg parts => uptoBulkAll parts + 1
  | .iface _ d => uptoBulk d + 1
  | .map entries => uptoBulkEntries entries + 1
  | .held _ => 1
def uptoBulkAll {H : Type} : List (DataW H) → Nat
  | [] => 0
  | d :: r => uptoBulk d + uptoBulkAll r
def uptoBulkEntries {H : Type} : List (Lit × DataW H) → Nat
  | [] => 0
  | x :: r => uptoBulkEntry x + uptoBulkEntries r
def uptoBulkEntry {H : Type} : Lit × DataW H → Nat
  | (.string bytes, d) => bytes.length + uptoBulk d + 1
  | (_, d) => uptoBulk d + 1
 end
def uptoSmall : (H : Type) → List (DataW H) → Bool := fun _ ds => decide (uptoBulkAll ds ≤ 1048576)
def OpenSpec.upto (s : _root_.Go.ChangeSpec) : _root_.Go.OpenSpec := { _root_.Go.OpenSpec.ofChange s with cond := some uptoSmall }

/-- 'estuarylaw13.WayJoins', WHERE WHAT IT READS IS OF BULK AT MOST 1048576: true; the input reads as it did. -/
def wayJoinsUptoRow : OpenClaim := { program := "yteggiecmfclcjaadoor", sum := "21393c997c095a3a35dd5b80d641ddb437563f67485bada49169863205b1ace6", func := "estuary/estuarylaw13.WayJoins", spec := "wayJoins", inPlace := ["internal/reflectlite.TypeOf"], unfollowed := true, recurses := true, named := ["estuary/way.errLong", "estuary/way.errStep", "unicode/utf8.first", "unicode/utf8.acceptRanges", "estuary/way.errText"], apart := false, laid := [("unicode/utf8.acceptRanges", laid_unicode_utf8_acceptRanges), ("estuary/way.errLong", laid_estuary_way_errLong), ("estuary/way.errStep", laid_estuary_way_errStep), ("estuary/way.errText", laid_estuary_way_errText), ("unicode/utf8.first", laid_unicode_utf8_first)], narrowed := true }
def WayJoinsUptoSaid : Prop := wayJoinsUptoRow.holds Tryd.pinned (OpenSpec.upto wayJoinsSpec)

/-- 'estuarylaw13.WayUnder', WHERE WHAT IT READS IS OF BULK AT MOST 1048576: true; the input reads as it did. -/
def wayUnderUptoRow : OpenClaim := { program := "yteggiecmfclcjaadoor", sum := "21393c997c095a3a35dd5b80d641ddb437563f67485bada49169863205b1ace6", func := "estuary/estuarylaw13.WayUnder", spec := "wayUnder", inPlace := ["internal/reflectlite.TypeOf"], unfollowed := true, recurses := true, named := ["estuary/way.errLong", "estuary/way.errStep", "unicode/utf8.first", "unicode/utf8.acceptRanges", "estuary/way.errText"], apart := false, laid := [("unicode/utf8.acceptRanges", laid_unicode_utf8_acceptRanges), ("estuary/way.errLong", laid_estuary_way_errLong), ("estuary/way.errStep", laid_estuary_way_errStep), ("estuary/way.errText", laid_estuary_way_errText), ("unicode/utf8.first", laid_unicode_utf8_first)], narrowed := true }
def WayUnderUptoSaid : Prop := wayUnderUptoRow.holds Tryd.pinned (OpenSpec.upto wayUnderSpec)

end Rows
end Go.Proofs.YteggiecmfclcjaaDoor
