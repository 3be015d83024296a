/-
  NARROWER THAN 'FOR EVERY INPUT', by the rows' own cells (each row's printed sentence says how): DigestKnown: laid · DigestSums: laid · DigestMacs: laid · DigestHashers: laid · DigestPieces: laid · DigestLinear: laid.
  DERIVED. THE GIVEN ROWS OF THIS SEAT. 6 by the template 'for every input the law returns true; each argument reads behind the call as it read before'; 0 by the template 'total and deterministic' (their statements: YtpmdlhlojifoeaaDoorTotals.lean).
  GIVEN WITH THE SEED: the statements are not yours to turn. If you find one false, say at which input.
  Laid BY PROGRAM, IN A SANDBOX (cutbox-rows.mjs): the forced cells as the released guide's own fill.sh prints them over the translation d1761b80db127b99… (all of the seat's roots in one cut). By AI agents, Wed Nov 11 2026. No macro, syntax, notation, axiom, sorry.
-/
import Derived.Test.YtpmdlhlojifoeaaDoorChecked
import GoSem.Claim
import GoSem.ClaimJoined
import GoSem.ClaimMapViews
import Derived.JoinedTies
import Derived.KernelRfl
namespace Go.Proofs.YtpmdlhlojifoeaaDoor
/- THE CELL 'sum', in the pinned program and in every row, IS THE sha256 OF THE DUMP (.gsa) THAT YtpmdlhlojifoeaaDoorProg.lean LOADS. Nothing in Lean hashes anything: it is a label: what it is worth is what the hold of that sum in a sandbox is worth. -/
noncomputable def Tryd.pinned : Pinned := { name := "ytpmdlhlojifoeaadoor", sum := "d1761b80db127b995bf2df0b99eec8494542426b34103ee8903ac19c2a6d1bf4", checked := Tryd.checked }
namespace Rows
def none {H : Type} : Left H := { results := [], args := [] }

/- WHAT THE LISTED PACKAGE-LEVEL VARIABLES READ AS WHEN THE CALL BEGINS. Each datum BY PROGRAM (the guide's laid-datum.mjs) off the statement by which the dump's own 'gosem.cut.vars' lays the variable. In a bare row this is a premise. The card (YtpmdlhlojifoeaaDoorCards.lean) ties it to the program's text. -/
def laid_estuary_digest_crcNibbles {H : Type} : DataW H := .agg [.lit (.int .u32 0), .lit (.int .u32 498536548), .lit (.int .u32 997073096), .lit (.int .u32 651767980), .lit (.int .u32 1994146192), .lit (.int .u32 1802195444), .lit (.int .u32 1303535960), .lit (.int .u32 1342533948), .lit (.int .u32 3988292384), .lit (.int .u32 4027552580), .lit (.int .u32 3604390888), .lit (.int .u32 3412177804), .lit (.int .u32 2607071920), .lit (.int .u32 2262029012), .lit (.int .u32 2685067896), .lit (.int .u32 3183342108)]
def laid_estuary_digest_firstState {H : Type} : DataW H := .agg [.lit (.int .u32 1779033703), .lit (.int .u32 3144134277), .lit (.int .u32 1013904242), .lit (.int .u32 2773480762), .lit (.int .u32 1359893119), .lit (.int .u32 2600822924), .lit (.int .u32 528734635), .lit (.int .u32 1541459225)]
def laid_estuary_digest_roundKeys {H : Type} : DataW H := .agg [.lit (.int .u32 1116352408), .lit (.int .u32 1899447441), .lit (.int .u32 3049323471), .lit (.int .u32 3921009573), .lit (.int .u32 961987163), .lit (.int .u32 1508970993), .lit (.int .u32 2453635748), .lit (.int .u32 2870763221), .lit (.int .u32 3624381080), .lit (.int .u32 310598401), .lit (.int .u32 607225278), .lit (.int .u32 1426881987), .lit (.int .u32 1925078388), .lit (.int .u32 2162078206), .lit (.int .u32 2614888103), .lit (.int .u32 3248222580), .lit (.int .u32 3835390401), .lit (.int .u32 4022224774), .lit (.int .u32 264347078), .lit (.int .u32 604807628), .lit (.int .u32 770255983), .lit (.int .u32 1249150122), .lit (.int .u32 1555081692), .lit (.int .u32 1996064986), .lit (.int .u32 2554220882), .lit (.int .u32 2821834349), .lit (.int .u32 2952996808), .lit (.int .u32 3210313671), .lit (.int .u32 3336571891), .lit (.int .u32 3584528711), .lit (.int .u32 113926993), .lit (.int .u32 338241895), .lit (.int .u32 666307205), .lit (.int .u32 773529912), .lit (.int .u32 1294757372), .lit (.int .u32 1396182291), .lit (.int .u32 1695183700), .lit (.int .u32 1986661051), .lit (.int .u32 2177026350), .lit (.int .u32 2456956037), .lit (.int .u32 2730485921), .lit (.int .u32 2820302411), .lit (.int .u32 3259730800), .lit (.int .u32 3345764771), .lit (.int .u32 3516065817), .lit (.int .u32 3600352804), .lit (.int .u32 4094571909), .lit (.int .u32 275423344), .lit (.int .u32 430227734), .lit (.int .u32 506948616), .lit (.int .u32 659060556), .lit (.int .u32 883997877), .lit (.int .u32 958139571), .lit (.int .u32 1322822218), .lit (.int .u32 1537002063), .lit (.int .u32 1747873779), .lit (.int .u32 1955562222), .lit (.int .u32 2024104815), .lit (.int .u32 2227730452), .lit (.int .u32 2361852424), .lit (.int .u32 2428436474), .lit (.int .u32 2756734187), .lit (.int .u32 3204031479), .lit (.int .u32 3329325298)]
def laid_estuary_estuaryref01_roots {H : Type} : DataW H := .agg [.lit (.int .u32 1779033703), .lit (.int .u32 3144134277), .lit (.int .u32 1013904242), .lit (.int .u32 2773480762), .lit (.int .u32 1359893119), .lit (.int .u32 2600822924), .lit (.int .u32 528734635), .lit (.int .u32 1541459225)]
def laid_estuary_estuaryref01_rounds {H : Type} : DataW H := .agg [.lit (.int .u32 1116352408), .lit (.int .u32 1899447441), .lit (.int .u32 3049323471), .lit (.int .u32 3921009573), .lit (.int .u32 961987163), .lit (.int .u32 1508970993), .lit (.int .u32 2453635748), .lit (.int .u32 2870763221), .lit (.int .u32 3624381080), .lit (.int .u32 310598401), .lit (.int .u32 607225278), .lit (.int .u32 1426881987), .lit (.int .u32 1925078388), .lit (.int .u32 2162078206), .lit (.int .u32 2614888103), .lit (.int .u32 3248222580), .lit (.int .u32 3835390401), .lit (.int .u32 4022224774), .lit (.int .u32 264347078), .lit (.int .u32 604807628), .lit (.int .u32 770255983), .lit (.int .u32 1249150122), .lit (.int .u32 1555081692), .lit (.int .u32 1996064986), .lit (.int .u32 2554220882), .lit (.int .u32 2821834349), .lit (.int .u32 2952996808), .lit (.int .u32 3210313671), .lit (.int .u32 3336571891), .lit (.int .u32 3584528711), .lit (.int .u32 113926993), .lit (.int .u32 338241895), .lit (.int .u32 666307205), .lit (.int .u32 773529912), .lit (.int .u32 1294757372), .lit (.int .u32 1396182291), .lit (.int .u32 1695183700), .lit (.int .u32 1986661051), .lit (.int .u32 2177026350), .lit (.int .u32 2456956037), .lit (.int .u32 2730485921), .lit (.int .u32 2820302411), .lit (.int .u32 3259730800), .lit (.int .u32 3345764771), .lit (.int .u32 3516065817), .lit (.int .u32 3600352804), .lit (.int .u32 4094571909), .lit (.int .u32 275423344), .lit (.int .u32 430227734), .lit (.int .u32 506948616), .lit (.int .u32 659060556), .lit (.int .u32 883997877), .lit (.int .u32 958139571), .lit (.int .u32 1322822218), .lit (.int .u32 1537002063), .lit (.int .u32 1747873779), .lit (.int .u32 1955562222), .lit (.int .u32 2024104815), .lit (.int .u32 2227730452), .lit (.int .u32 2361852424), .lit (.int .u32 2428436474), .lit (.int .u32 2756734187), .lit (.int .u32 3204031479), .lit (.int .u32 3329325298)]

/-- 'estuarylaw01.DigestKnown': WHATEVER THE INPUT: true; the input reads as it did. -/
def digestKnownSpec : ChangeSpec := { name := "digestKnown", fn := fun _ => fun
  | [] => { results := [.lit (.bool true)], args := [] }
  | _ => none }
def digestKnownRow : OpenClaim := { program := "ytpmdlhlojifoeaadoor", sum := "d1761b80db127b995bf2df0b99eec8494542426b34103ee8903ac19c2a6d1bf4", func := "estuary/estuarylaw01.DigestKnown", spec := "digestKnown", named := ["estuary/digest.firstState", "estuary/digest.roundKeys", "estuary/digest.crcNibbles"], apart := false, laid := [("estuary/digest.crcNibbles", laid_estuary_digest_crcNibbles), ("estuary/digest.firstState", laid_estuary_digest_firstState), ("estuary/digest.roundKeys", laid_estuary_digest_roundKeys)] }
def DigestKnownSaid : Prop := digestKnownRow.holds Tryd.pinned (OpenSpec.ofChange digestKnownSpec)

/-- ITS FALSE NEIGHBOUR: 'it returns false'. Refute it at one input. -/
def digestKnownWrong : ChangeSpec := { name := "digestKnown", fn := fun _ => fun
  | [] => { results := [.lit (.bool false)], args := [] }
  | _ => none }
def DigestKnownWrongFalsely : Prop := digestKnownRow.holds Tryd.pinned (OpenSpec.ofChange digestKnownWrong)

/-- 'estuarylaw01.DigestSums': WHATEVER THE INPUT: true; the input reads as it did. -/
def digestSumsSpec : ChangeSpec := { name := "digestSums", fn := fun _ => fun
  | [d] => { results := [.lit (.bool true)], args := [d] }
  | _ => none }
def digestSumsRow : OpenClaim := { program := "ytpmdlhlojifoeaadoor", sum := "d1761b80db127b995bf2df0b99eec8494542426b34103ee8903ac19c2a6d1bf4", func := "estuary/estuarylaw01.DigestSums", spec := "digestSums", named := ["estuary/digest.firstState", "estuary/digest.roundKeys", "estuary/estuaryref01.roots", "estuary/estuaryref01.rounds", "estuary/digest.crcNibbles"], apart := false, laid := [("estuary/estuaryref01.roots", laid_estuary_estuaryref01_roots), ("estuary/estuaryref01.rounds", laid_estuary_estuaryref01_rounds), ("estuary/digest.crcNibbles", laid_estuary_digest_crcNibbles), ("estuary/digest.firstState", laid_estuary_digest_firstState), ("estuary/digest.roundKeys", laid_estuary_digest_roundKeys)] }
def DigestSumsSaid : Prop := digestSumsRow.holds Tryd.pinned (OpenSpec.ofChange digestSumsSpec)

/-- ITS FALSE NEIGHBOUR: 'it returns false'. Refute it at one input. -/
def digestSumsWrong : ChangeSpec := { name := "digestSums", fn := fun _ => fun
  | [d] => { results := [.lit (.bool false)], args := [d] }
  | _ => none }
def DigestSumsWrongFalsely : Prop := digestSumsRow.holds Tryd.pinned (OpenSpec.ofChange digestSumsWrong)

/-- 'estuarylaw01.DigestMacs': WHATEVER THE INPUT: true; the input reads as it did. -/
def digestMacsSpec : ChangeSpec := { name := "digestMacs", fn := fun _ => fun
  | [d1, d2] => { results := [.lit (.bool true)], args := [d1, d2] }
  | _ => none }
def digestMacsRow : OpenClaim := { program := "ytpmdlhlojifoeaadoor", sum := "d1761b80db127b995bf2df0b99eec8494542426b34103ee8903ac19c2a6d1bf4", func := "estuary/estuarylaw01.DigestMacs", spec := "digestMacs", named := ["estuary/digest.firstState", "estuary/digest.roundKeys", "estuary/estuaryref01.roots", "estuary/estuaryref01.rounds"], apart := false, laid := [("estuary/estuaryref01.roots", laid_estuary_estuaryref01_roots), ("estuary/estuaryref01.rounds", laid_estuary_estuaryref01_rounds), ("estuary/digest.firstState", laid_estuary_digest_firstState), ("estuary/digest.roundKeys", laid_estuary_digest_roundKeys)] }
def DigestMacsSaid : Prop := digestMacsRow.holds Tryd.pinned (OpenSpec.ofChange digestMacsSpec)

/-- ITS FALSE NEIGHBOUR: 'it returns false'. Refute it at one input. -/
def digestMacsWrong : ChangeSpec := { name := "digestMacs", fn := fun _ => fun
  | [d1, d2] => { results := [.lit (.bool false)], args := [d1, d2] }
  | _ => none }
def DigestMacsWrongFalsely : Prop := digestMacsRow.holds Tryd.pinned (OpenSpec.ofChange digestMacsWrong)

/-- 'estuarylaw01.DigestHashers': WHATEVER THE INPUT: true; the input reads as it did. -/
def digestHashersSpec : ChangeSpec := { name := "digestHashers", fn := fun _ => fun
  | [d] => { results := [.lit (.bool true)], args := [d] }
  | _ => none }
def digestHashersRow : OpenClaim := { program := "ytpmdlhlojifoeaadoor", sum := "d1761b80db127b995bf2df0b99eec8494542426b34103ee8903ac19c2a6d1bf4", func := "estuary/estuarylaw01.DigestHashers", spec := "digestHashers", named := ["estuary/digest.firstState", "estuary/digest.roundKeys", "estuary/estuaryref01.roots", "estuary/estuaryref01.rounds"], apart := false, laid := [("estuary/estuaryref01.roots", laid_estuary_estuaryref01_roots), ("estuary/estuaryref01.rounds", laid_estuary_estuaryref01_rounds), ("estuary/digest.firstState", laid_estuary_digest_firstState), ("estuary/digest.roundKeys", laid_estuary_digest_roundKeys)] }
def DigestHashersSaid : Prop := digestHashersRow.holds Tryd.pinned (OpenSpec.ofChange digestHashersSpec)

/-- ITS FALSE NEIGHBOUR: 'it returns false'. Refute it at one input. -/
def digestHashersWrong : ChangeSpec := { name := "digestHashers", fn := fun _ => fun
  | [d] => { results := [.lit (.bool false)], args := [d] }
  | _ => none }
def DigestHashersWrongFalsely : Prop := digestHashersRow.holds Tryd.pinned (OpenSpec.ofChange digestHashersWrong)

/-- 'estuarylaw01.DigestPieces': WHATEVER THE INPUT: true; the input reads as it did. -/
def digestPiecesSpec : ChangeSpec := { name := "digestPieces", fn := fun _ => fun
  | [d] => { results := [.lit (.bool true)], args := [d] }
  | _ => none }
def digestPiecesRow : OpenClaim := { program := "ytpmdlhlojifoeaadoor", sum := "d1761b80db127b995bf2df0b99eec8494542426b34103ee8903ac19c2a6d1bf4", func := "estuary/estuarylaw01.DigestPieces", spec := "digestPieces", named := ["estuary/digest.firstState", "estuary/digest.roundKeys", "estuary/digest.crcNibbles"], apart := false, laid := [("estuary/digest.crcNibbles", laid_estuary_digest_crcNibbles), ("estuary/digest.firstState", laid_estuary_digest_firstState), ("estuary/digest.roundKeys", laid_estuary_digest_roundKeys)] }
def DigestPiecesSaid : Prop := digestPiecesRow.holds Tryd.pinned (OpenSpec.ofChange digestPiecesSpec)

/-- ITS FALSE NEIGHBOUR: 'it returns false'. Refute it at one input. -/
def digestPiecesWrong : ChangeSpec := { name := "digestPieces", fn := fun _ => fun
  | [d] => { results := [.lit (.bool false)], args := [d] }
  | _ => none }
def DigestPiecesWrongFalsely : Prop := digestPiecesRow.holds Tryd.pinned (OpenSpec.ofChange digestPiecesWrong)

/-- 'estuarylaw01.DigestLinear': WHATEVER THE INPUT: true; the input reads as it did. -/
def digestLinearSpec : ChangeSpec := { name := "digestLinear", fn := fun _ => fun
  | [d1, d2, d3] => { results := [.lit (.bool true)], args := [d1, d2, d3] }
  | _ => none }
def digestLinearRow : OpenClaim := { program := "ytpmdlhlojifoeaadoor", sum := "d1761b80db127b995bf2df0b99eec8494542426b34103ee8903ac19c2a6d1bf4", func := "estuary/estuarylaw01.DigestLinear", spec := "digestLinear", named := ["estuary/digest.crcNibbles"], apart := false, laid := [("estuary/digest.crcNibbles", laid_estuary_digest_crcNibbles)] }
def DigestLinearSaid : Prop := digestLinearRow.holds Tryd.pinned (OpenSpec.ofChange digestLinearSpec)

/-- ITS FALSE NEIGHBOUR: 'it returns false'. Refute it at one input. -/
def digestLinearWrong : ChangeSpec := { name := "digestLinear", fn := fun _ => fun
  | [d1, d2, d3] => { results := [.lit (.bool false)], args := [d1, d2, d3] }
  | _ => none }
def DigestLinearWrongFalsely : Prop := digestLinearRow.holds Tryd.pinned (OpenSpec.ofChange digestLinearWrong)

/- THE SECOND FORM. 'bulk': how many values and letters a reading holds, each counted each time it is reached (what is shared counts as often as it is met; a slice's spare places count too). A statement '..UptoSaid' is the law's where the arguments, and the package variables that the reading takes, are together of bulk at most 1048576: NARROWER than '..Said'. Prove '..Said' where nothing that the law and all that it calls make is longer than what came in: it says more and counts as full. Else prove '..UptoSaid'. A law counts once. -/
mutual
def uptoBulk {H : Type} : DataW H → Nat
  | .lit (.string bytes) => bytes.length + 1
  | .lit _ => 1
  | .nil => 1
  | .ptr d => uptoBulk d + 1
  | .slice elems spare => uptoBulkAll elems + uptoBulkAll spare + 1
  | .agg parts => uptoBulkAll parts + 1
  | .iface _ d => uptoBulk d + 1
  | .map entries => uptoBulkEntries entries + 1
  | .held _ => 1
def uptoBulkAll {H : Type} : List (DataW H) → Nat
  | [] => 0
  | d :: r => uptoBulk d + uptoBulkAll r
def uptoBulkEntries {H : Type} : List (Lit × DataW H) → Nat
  | [] => 0
  | x :: r => uptoBulkEntry x + uptoBulkEntries r
def uptoBulkEntry {H : Type} : Lit × DataW H → Nat
  | (.string bytes, d) => bytes.length + uptoBulk d + 1
  | (_, d) => uptoBulk d + 1
 end
def uptoSmall : (H : Type) → List (DataW H) → Bool := fun _ ds => decide (uptoBulkAll ds ≤ 1048576)
def OpenSpec.upto (s : _root_.Go.ChangeSpec) : _root_.Go.OpenSpec := { _root_.Go.OpenSpec.ofChange s with cond := some uptoSmall }

/-- 'estuarylaw01.DigestKnown', WHERE WHAT IT READS IS OF BULK AT MOST 1048576: true; the input reads as it did. -/
def digestKnownUptoRow : OpenClaim := { program := "ytpmdlhlojifoeaadoor", sum := "d1761b80db127b995bf2df0b99eec8494542426b34103ee8903ac19c2a6d1bf4", func := "estuary/estuarylaw01.DigestKnown", spec := "digestKnown", named := ["estuary/digest.firstState", "estuary/digest.roundKeys", "estuary/digest.crcNibbles"], apart := false, laid := [("estuary/digest.crcNibbles", laid_estuary_digest_crcNibbles), ("estuary/digest.firstState", laid_estuary_digest_firstState), ("estuary/digest.roundKeys", laid_estuary_digest_roundKeys)], narrowed := true }
def DigestKnownUptoSaid : Prop := digestKnownUptoRow.holds Tryd.pinned (OpenSpec.upto digestKnownSpec)

/-- 'estuarylaw01.DigestSums', WHERE WHAT IT READS IS OF BULK AT MOST 1048576: true; the input reads as it did. -/
def digestSumsUptoRow : OpenClaim := { program := "ytpmdlhlojifoeaadoor", sum := "d1761b80db127b995bf2df0b99eec8494542426b34103ee8903ac19c2a6d1bf4", func := "estuary/estuarylaw01.DigestSums", spec := "digestSums", named := ["estuary/digest.firstState", "estuary/digest.roundKeys", "estuary/estuaryref01.roots", "estuary/estuaryref01.rounds", "estuary/digest.crcNibbles"], apart := false, laid := [("estuary/estuaryref01.roots", laid_estuary_estuaryref01_roots), ("estuary/estuaryref01.rounds", laid_estuary_estuaryref01_rounds), ("estuary/digest.crcNibbles", laid_estuary_digest_crcNibbles), ("estuary/digest.firstState", laid_estuary_digest_firstState), ("estuary/digest.roundKeys", laid_estuary_digest_roundKeys)], narrowed := true }
def DigestSumsUptoSaid : Prop := digestSumsUptoRow.holds Tryd.pinned (OpenSpec.upto digestSumsSpec)

/-- 'estuarylaw01.DigestMacs', WHERE WHAT IT READS IS OF BULK AT MOST 1048576: true; the input reads as it did. -/
def digestMacsUptoRow : OpenClaim := { program := "ytpmdlhlojifoeaadoor", sum := "d1761b80db127b995bf2df0b99eec8494542426b34103ee8903ac19c2a6d1bf4", func := "estuary/estuarylaw01.DigestMacs", spec := "digestMacs", named := ["estuary/digest.firstState", "estuary/digest.roundKeys", "estuary/estuaryref01.roots", "estuary/estuaryref01.rounds"], apart := false, laid := [("estuary/estuaryref01.roots", laid_estuary_estuaryref01_roots), ("estuary/estuaryref01.rounds", laid_estuary_estuaryref01_rounds), ("estuary/digest.firstState", laid_estuary_digest_firstState), ("estuary/digest.roundKeys", laid_estuary_digest_roundKeys)], narrowed := true }
def DigestMacsUptoSaid : Prop := digestMacsUptoRow.holds Tryd.pinned (OpenSpec.upto digestMacsSpec)

/-- 'estuarylaw01.DigestHashers', WHERE WHAT IT READS IS OF BULK AT MOST 1048576: true; the input reads as it did. -/
def digestHashersUptoRow : OpenClaim := { program := "ytpmdlhlojifoeaadoor", sum := "d1761b80db127b995bf2df0b99eec8494542426b34103ee8903ac19c2a6d1bf4", func := "estuary/estuarylaw01.DigestHashers", spec := "digestHashers", named := ["estuary/digest.firstState", "estuary/digest.roundKeys", "estuary/estuaryref01.roots", "estuary/estuaryref01.rounds"], apart := false, laid := [("estuary/estuaryref01.roots", laid_estuary_estuaryref01_roots), ("estuary/estuaryref01.rounds", laid_estuary_estuaryref01_rounds), ("estuary/digest.firstState", laid_estuary_digest_firstState), ("estuary/digest.roundKeys", laid_estuary_digest_roundKeys)], narrowed := true }
def DigestHashersUptoSaid : Prop := digestHashersUptoRow.holds Tryd.pinned (OpenSpec.upto digestHashersSpec)

/-- 'estuarylaw01.DigestPieces', WHERE WHAT IT READS IS OF BULK AT MOST 1048576: true; the input reads as it did. -/
def digestPiecesUptoRow : OpenClaim := { program := "ytpmdlhlojifoeaadoor", sum := "d1761b80db127b995bf2df0b99eec8494542426b34103ee8903ac19c2a6d1bf4", func := "estuary/estuarylaw01.DigestPieces", spec := "digestPieces", named := ["estuary/digest.firstState", "estuary/digest.roundKeys", "estuary/digest.crcNibbles"], apart := false, laid := [("estuary/digest.crcNibbles", laid_estuary_digest_crcNibbles), ("estuary/digest.firstState", laid_estuary_digest_firstState), ("estuary/digest.roundKeys", laid_estuary_digest_roundKeys)], narrowed := true }
def DigestPiecesUptoSaid : Prop := digestPiecesUptoRow.holds Tryd.pinned (OpenSpec.upto digestPiecesSpec)

/-- 'estuarylaw01.DigestLinear', WHERE WHAT IT READS IS OF BULK AT MOST 1048576: true; the input reads as it did. -/
def digestLinearUptoRow : OpenClaim := { program := "ytpmdlhlojifoeaadoor", sum := "d1761b80db127b995bf2df0b99eec8494542426b34103ee8903ac19c2a6d1bf4", func := "estuary/estuarylaw01.DigestLinear", spec := "digestLinear", named := ["estuary/digest.crcNibbles"], apart := false, laid := [("estuary/digest.crcNibbles", laid_estuary_digest_crcNibbles)], narrowed := true }
def DigestLinearUptoSaid : Prop := digestLinearUptoRow.holds Tryd.pinned (OpenSpec.upto digestLinearSpec)

end Rows
end Go.Proofs.YtpmdlhlojifoeaaDoor
