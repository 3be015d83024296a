/-
  NARROWER THAN 'FOR EVERY INPUT', by the rows' own cells (each row's printed sentence says how): RegsPlays: laid · RegsSeldom: laid · RegsFork: laid · RegsNone: laid · RegsValues: laid.
  DERIVED. THE GIVEN ROWS OF THIS SEAT. 5 by the template 'for every input the law returns true; each argument reads behind the call as it read before'; 0 by the template 'total and deterministic' (their statements: YtldlljobofnmmaaDoorTotals.lean).
  GIVEN WITH THE SEED: the statements are not yours to turn. If you find one false, say at which input.
  Laid BY PROGRAM, IN A SANDBOX (cutbox-rows.mjs): the forced cells as the released guide's own fill.sh prints them over the translation d99890f13781c0e8… (all of the seat's roots in one cut). By AI agents, Wed Nov 11 2026. No macro, syntax, notation, axiom, sorry.
-/
import Derived.Test.YtldlljobofnmmaaDoorChecked
import GoSem.PinnedTables
import GoSem.Claim
import GoSem.ClaimJoined
import GoSem.ClaimMapViews
import Derived.JoinedTies
import Derived.KernelRfl
namespace Go.Proofs.YtldlljobofnmmaaDoor
/- THE CELL 'sum', in the pinned program and in every row, IS THE sha256 OF THE DUMP (.gsa) THAT YtldlljobofnmmaaDoorProg.lean LOADS. Nothing in Lean hashes anything: it is a label: what it is worth is what the hold of that sum in a sandbox is worth. -/
noncomputable def Tryd.pinned : Pinned := { name := "ytldlljobofnmmaadoor", sum := "d99890f13781c0e8579a120e1358a7c643216c16ef20984d84f6a6ca713fbc56", checked := Tryd.checked }
namespace Rows
def none {H : Type} : Left H := { results := [], args := [] }

/- WHAT THE LISTED PACKAGE-LEVEL VARIABLES READ AS WHEN THE CALL BEGINS. Each datum BY PROGRAM (the guide's laid-datum.mjs) off the statement by which the dump's own 'gosem.cut.vars' lays the variable. In a bare row this is a premise. The card (YtldlljobofnmmaaDoorCards.lean) ties it to the program's text. -/
def laid_unicode_utf8_acceptRanges {H : Type} : DataW H := .agg [.agg [.lit (.int .u8 128), .lit (.int .u8 191)], .agg [.lit (.int .u8 160), .lit (.int .u8 191)], .agg [.lit (.int .u8 128), .lit (.int .u8 159)], .agg [.lit (.int .u8 144), .lit (.int .u8 191)], .agg [.lit (.int .u8 128), .lit (.int .u8 143)], .agg [.lit (.int .u8 0), .lit (.int .u8 0)], .agg [.lit (.int .u8 0), .lit (.int .u8 0)], .agg [.lit (.int .u8 0), .lit (.int .u8 0)], .agg [.lit (.int .u8 0), .lit (.int .u8 0)], .agg [.lit (.int .u8 0), .lit (.int .u8 0)], .agg [.lit (.int .u8 0), .lit (.int .u8 0)], .agg [.lit (.int .u8 0), .lit (.int .u8 0)], .agg [.lit (.int .u8 0), .lit (.int .u8 0)], .agg [.lit (.int .u8 0), .lit (.int .u8 0)], .agg [.lit (.int .u8 0), .lit (.int .u8 0)], .agg [.lit (.int .u8 0), .lit (.int .u8 0)]]
/-- One of Go's own tables, pinned by name: the form's constant. -/
def laid_unicode_utf8_first : DataW Unit := Go.Pinned.utf8First

/-- 'estuarylaw08.RegsPlays': WHATEVER THE INPUT: true; the input reads as it did. -/
def regsPlaysSpec : ChangeSpec := { name := "regsPlays", fn := fun _ => fun
  | [d1, d2] => { results := [.lit (.bool true)], args := [d1, d2] }
  | _ => none }
def regsPlaysRow : OpenClaim := { program := "ytldlljobofnmmaadoor", sum := "d99890f13781c0e8579a120e1358a7c643216c16ef20984d84f6a6ca713fbc56", func := "estuary/estuarylaw08.RegsPlays", spec := "regsPlays", inPlace := ["math.Float64bits", "math.Float64frombits"], unfollowed := true, recurses := true, named := ["unicode/utf8.first", "unicode/utf8.acceptRanges"], plainKeys := false, apart := false, laid := [("unicode/utf8.acceptRanges", laid_unicode_utf8_acceptRanges), ("unicode/utf8.first", laid_unicode_utf8_first)] }
def RegsPlaysSaid : Prop := regsPlaysRow.holds Tryd.pinned (OpenSpec.ofChange regsPlaysSpec)

/-- ITS FALSE NEIGHBOUR: 'it returns false'. Refute it at one input. -/
def regsPlaysWrong : ChangeSpec := { name := "regsPlays", fn := fun _ => fun
  | [d1, d2] => { results := [.lit (.bool false)], args := [d1, d2] }
  | _ => none }
def RegsPlaysWrongFalsely : Prop := regsPlaysRow.holds Tryd.pinned (OpenSpec.ofChange regsPlaysWrong)

/-- 'estuarylaw08.RegsSeldom': WHATEVER THE INPUT: true; the input reads as it did. -/
def regsSeldomSpec : ChangeSpec := { name := "regsSeldom", fn := fun _ => fun
  | [d1, d2] => { results := [.lit (.bool true)], args := [d1, d2] }
  | _ => none }
def regsSeldomRow : OpenClaim := { program := "ytldlljobofnmmaadoor", sum := "d99890f13781c0e8579a120e1358a7c643216c16ef20984d84f6a6ca713fbc56", func := "estuary/estuarylaw08.RegsSeldom", spec := "regsSeldom", inPlace := ["math.Float64bits", "math.Float64frombits"], unfollowed := true, recurses := true, named := ["unicode/utf8.first", "unicode/utf8.acceptRanges"], plainKeys := false, apart := false, laid := [("unicode/utf8.acceptRanges", laid_unicode_utf8_acceptRanges), ("unicode/utf8.first", laid_unicode_utf8_first)] }
def RegsSeldomSaid : Prop := regsSeldomRow.holds Tryd.pinned (OpenSpec.ofChange regsSeldomSpec)

/-- ITS FALSE NEIGHBOUR: 'it returns false'. Refute it at one input. -/
def regsSeldomWrong : ChangeSpec := { name := "regsSeldom", fn := fun _ => fun
  | [d1, d2] => { results := [.lit (.bool false)], args := [d1, d2] }
  | _ => none }
def RegsSeldomWrongFalsely : Prop := regsSeldomRow.holds Tryd.pinned (OpenSpec.ofChange regsSeldomWrong)

/-- 'estuarylaw08.RegsFork': WHATEVER THE INPUT: true; the input reads as it did. -/
def regsForkSpec : ChangeSpec := { name := "regsFork", fn := fun _ => fun
  | [d] => { results := [.lit (.bool true)], args := [d] }
  | _ => none }
def regsForkRow : OpenClaim := { program := "ytldlljobofnmmaadoor", sum := "d99890f13781c0e8579a120e1358a7c643216c16ef20984d84f6a6ca713fbc56", func := "estuary/estuarylaw08.RegsFork", spec := "regsFork", inPlace := ["math.Float64bits", "math.Float64frombits", "maps.clone"], unfollowed := true, recurses := true, named := ["unicode/utf8.first", "unicode/utf8.acceptRanges"], plainKeys := false, apart := false, laid := [("unicode/utf8.acceptRanges", laid_unicode_utf8_acceptRanges), ("unicode/utf8.first", laid_unicode_utf8_first)] }
def RegsForkSaid : Prop := regsForkRow.holds Tryd.pinned (OpenSpec.ofChange regsForkSpec)

/-- ITS FALSE NEIGHBOUR: 'it returns false'. Refute it at one input. -/
def regsForkWrong : ChangeSpec := { name := "regsFork", fn := fun _ => fun
  | [d] => { results := [.lit (.bool false)], args := [d] }
  | _ => none }
def RegsForkWrongFalsely : Prop := regsForkRow.holds Tryd.pinned (OpenSpec.ofChange regsForkWrong)

/-- 'estuarylaw08.RegsNone': WHATEVER THE INPUT: true; the input reads as it did. -/
def regsNoneSpec : ChangeSpec := { name := "regsNone", fn := fun _ => fun
  | [d1, d2] => { results := [.lit (.bool true)], args := [d1, d2] }
  | _ => none }
def regsNoneRow : OpenClaim := { program := "ytldlljobofnmmaadoor", sum := "d99890f13781c0e8579a120e1358a7c643216c16ef20984d84f6a6ca713fbc56", func := "estuary/estuarylaw08.RegsNone", spec := "regsNone", inPlace := ["math.Float64bits", "math.Float64frombits", "maps.clone"], unfollowed := true, recurses := true, named := ["unicode/utf8.first", "unicode/utf8.acceptRanges"], plainKeys := false, apart := false, laid := [("unicode/utf8.acceptRanges", laid_unicode_utf8_acceptRanges), ("unicode/utf8.first", laid_unicode_utf8_first)] }
def RegsNoneSaid : Prop := regsNoneRow.holds Tryd.pinned (OpenSpec.ofChange regsNoneSpec)

/-- ITS FALSE NEIGHBOUR: 'it returns false'. Refute it at one input. -/
def regsNoneWrong : ChangeSpec := { name := "regsNone", fn := fun _ => fun
  | [d1, d2] => { results := [.lit (.bool false)], args := [d1, d2] }
  | _ => none }
def RegsNoneWrongFalsely : Prop := regsNoneRow.holds Tryd.pinned (OpenSpec.ofChange regsNoneWrong)

/-- 'estuarylaw08.RegsValues': WHATEVER THE INPUT: true; the input reads as it did. -/
def regsValuesSpec : ChangeSpec := { name := "regsValues", fn := fun _ => fun
  | [d1, d2] => { results := [.lit (.bool true)], args := [d1, d2] }
  | _ => none }
def regsValuesRow : OpenClaim := { program := "ytldlljobofnmmaadoor", sum := "d99890f13781c0e8579a120e1358a7c643216c16ef20984d84f6a6ca713fbc56", func := "estuary/estuarylaw08.RegsValues", spec := "regsValues", inPlace := ["math.Float64bits", "math.Float64frombits"], unfollowed := true, recurses := true, named := ["unicode/utf8.first", "unicode/utf8.acceptRanges"], plainKeys := false, apart := false, laid := [("unicode/utf8.acceptRanges", laid_unicode_utf8_acceptRanges), ("unicode/utf8.first", laid_unicode_utf8_first)] }
def RegsValuesSaid : Prop := regsValuesRow.holds Tryd.pinned (OpenSpec.ofChange regsValuesSpec)

/-- ITS FALSE NEIGHBOUR: 'it returns false'. Refute it at one input. -/
def regsValuesWrong : ChangeSpec := { name := "regsValues", fn := fun _ => fun
  | [d1, d2] => { results := [.lit (.bool false)], args := [d1, d2] }
  | _ => none }
def RegsValuesWrongFalsely : Prop := regsValuesRow.holds Tryd.pinned (OpenSpec.ofChange regsValuesWrong)

/- THE SECOND FORM. 'bulk': how many values and letters a reading holds, each counted each time it is reached (what is shared counts as often as it is met; a slice's spare places count too). A statement '..UptoSaid' is the law's where the arguments, and the package variables that the reading takes, are together of bulk at most 1048576: NARROWER than '..Said'. Prove '..Said' where nothing that the law and all that it calls make is longer than what came in: it says more and counts as full. Else prove '..UptoSaid'. A law counts once. -/
mutual
def uptoBulk {H : Type} : DataW H → Nat
  | .lit (.string bytes) => bytes.length + 1
  | .lit _ => 1
  | .nil => 1
  | .ptr d => uptoBulk d + 1
  | .slice elems spare => uptoBulkAll elems + uptoBulkAll spare + 1
  | .agg parts => uptoBulkAll parts + 1
  | .iface _ d => uptoBulk d + 1
  | .map entries => uptoBulkEntries entries + 1
  | .held _ => 1
def uptoBulkAll {H : Type} : List (DataW H) → Nat
  | [] => 0
  | d :: r => uptoBulk d + uptoBulkAll r
def uptoBulkEntries {H : Type} : List (Lit × DataW H) → Nat
  | [] => 0
  | x :: r => uptoBulkEntry x + uptoBulkEntries r
def uptoBulkEntry {H : Type} : Lit × DataW H → Nat
  | (.string bytes, d) => bytes.length + uptoBulk d + 1
  | (_, d) => uptoBulk d + 1
 end
def uptoSmall : (H : Type) → List (DataW H) → Bool := fun _ ds => decide (uptoBulkAll ds ≤ 1048576)
def OpenSpec.upto (s : _root_.Go.ChangeSpec) : _root_.Go.OpenSpec := { _root_.Go.OpenSpec.ofChange s with cond := some uptoSmall }

/-- 'estuarylaw08.RegsPlays', WHERE WHAT IT READS IS OF BULK AT MOST 1048576: true; the input reads as it did. -/
def regsPlaysUptoRow : OpenClaim := { program := "ytldlljobofnmmaadoor", sum := "d99890f13781c0e8579a120e1358a7c643216c16ef20984d84f6a6ca713fbc56", func := "estuary/estuarylaw08.RegsPlays", spec := "regsPlays", inPlace := ["math.Float64bits", "math.Float64frombits"], unfollowed := true, recurses := true, named := ["unicode/utf8.first", "unicode/utf8.acceptRanges"], plainKeys := false, apart := false, laid := [("unicode/utf8.acceptRanges", laid_unicode_utf8_acceptRanges), ("unicode/utf8.first", laid_unicode_utf8_first)], narrowed := true }
def RegsPlaysUptoSaid : Prop := regsPlaysUptoRow.holds Tryd.pinned (OpenSpec.upto regsPlaysSpec)

/-- 'estuarylaw08.RegsSeldom', WHERE WHAT IT READS IS OF BULK AT MOST 1048576: true; the input reads as it did. -/
def regsSeldomUptoRow : OpenClaim := { program := "ytldlljobofnmmaadoor", sum := "d99890f13781c0e8579a120e1358a7c643216c16ef20984d84f6a6ca713fbc56", func := "estuary/estuarylaw08.RegsSeldom", spec := "regsSeldom", inPlace := ["math.Float64bits", "math.Float64frombits"], unfollowed := true, recurses := true, named := ["unicode/utf8.first", "unicode/utf8.acceptRanges"], plainKeys := false, apart := false, laid := [("unicode/utf8.acceptRanges", laid_unicode_utf8_acceptRanges), ("unicode/utf8.first", laid_unicode_utf8_first)], narrowed := true }
def RegsSeldomUptoSaid : Prop := regsSeldomUptoRow.holds Tryd.pinned (OpenSpec.upto regsSeldomSpec)

/-- 'estuarylaw08.RegsFork', WHERE WHAT IT READS IS OF BULK AT MOST 1048576: true; the input reads as it did. -/
def regsForkUptoRow : OpenClaim := { program := "ytldlljobofnmmaadoor", sum := "d99890f13781c0e8579a120e1358a7c643216c16ef20984d84f6a6ca713fbc56", func := "estuary/estuarylaw08.RegsFork", spec := "regsFork", inPlace := ["math.Float64bits", "math.Float64frombits", "maps.clone"], unfollowed := true, recurses := true, named := ["unicode/utf8.first", "unicode/utf8.acceptRanges"], plainKeys := false, apart := false, laid := [("unicode/utf8.acceptRanges", laid_unicode_utf8_acceptRanges), ("unicode/utf8.first", laid_unicode_utf8_first)], narrowed := true }
def RegsForkUptoSaid : Prop := regsForkUptoRow.holds Tryd.pinned (OpenSpec.upto regsForkSpec)

/-- 'estuarylaw08.RegsNone', WHERE WHAT IT READS IS OF BULK AT MOST 1048576: true; the input reads as it did. -/
def regsNoneUptoRow : OpenClaim := { program := "ytldlljobofnmmaadoor", sum := "d99890f13781c0e8579a120e1358a7c643216c16ef20984d84f6a6ca713fbc56", func := "estuary/estuarylaw08.RegsNone", spec := "regsNone", inPlace := ["math.Float64bits", "math.Float64frombits", "maps.clone"], unfollowed := true, recurses := true, named := ["unicode/utf8.first", "unicode/utf8.acceptRanges"], plainKeys := false, apart := false, laid := [("unicode/utf8.acceptRanges", laid_unicode_utf8_acceptRanges), ("unicode/utf8.first", laid_unicode_utf8_first)], narrowed := true }
def RegsNoneUptoSaid : Prop := regsNoneUptoRow.holds Tryd.pinned (OpenSpec.upto regsNoneSpec)

/-- 'estuarylaw08.RegsValues', WHERE WHAT IT READS IS OF BULK AT MOST 1048576: true; the input reads as it did. -/
def regsValuesUptoRow : OpenClaim := { program := "ytldlljobofnmmaadoor", sum := "d99890f13781c0e8579a120e1358a7c643216c16ef20984d84f6a6ca713fbc56", func := "estuary/estuarylaw08.RegsValues", spec := "regsValues", inPlace := ["math.Float64bits", "math.Float64frombits"], unfollowed := true, recurses := true, named := ["unicode/utf8.first", "unicode/utf8.acceptRanges"], plainKeys := false, apart := false, laid := [("unicode/utf8.acceptRanges", laid_unicode_utf8_acceptRanges), ("unicode/utf8.first", laid_unicode_utf8_first)], narrowed := true }
def RegsValuesUptoSaid : Prop := regsValuesUptoRow.holds Tryd.pinned (OpenSpec.upto regsValuesSpec)

end Rows
end Go.Proofs.YtldlljobofnmmaaDoor
