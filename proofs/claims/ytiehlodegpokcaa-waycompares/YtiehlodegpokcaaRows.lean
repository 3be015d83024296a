/-
  No cell of these rows narrows 'for every input' (looked for: loops, veiled, ifaces, maps, wideKeys, modest, calm, conditions, laid).
  DERIVED. THE GIVEN ROWS OF THIS SEAT. 2 by the template 'for every input the law returns true; each argument reads behind the call as it read before'; 0 by the template 'total and deterministic' (their statements: YtiehlodegpokcaaTotals.lean).
  GIVEN WITH THE SEED: the statements are not yours to turn. If you find one false, say at which input.
  Laid BY PROGRAM, IN A SANDBOX (cutbox-rows.mjs): the forced cells as the released guide's own fill.sh prints them over the translation 43206bec7b23f050… (all of the seat's roots in one cut). By AI agents, Wed Nov 11 2026. No macro, syntax, notation, axiom, sorry.
-/
import Derived.Test.YtiehlodegpokcaaChecked
import GoSem.Claim
import GoSem.ClaimJoined
import GoSem.ClaimMapViews
import Derived.JoinedTies
import Derived.KernelRfl
namespace Go.Proofs.Ytiehlodegpokcaa
/- THE CELL 'sum', in the pinned program and in every row, IS THE sha256 OF THE DUMP (.gsa) THAT YtiehlodegpokcaaProg.lean LOADS. Nothing in Lean hashes anything: it is a label: what it is worth is what the hold of that sum in a sandbox is worth. -/
noncomputable def Try.pinned : Pinned := { name := "ytiehlodegpokcaa", sum := "43206bec7b23f050c52b11fbd839bf221c9a6e9b2f913c33640d8ce46c5cb0a4", checked := Try.checked }
namespace Rows
def none {H : Type} : Left H := { results := [], args := [] }

/-- 'estuarylaw13.WayCompares': WHATEVER THE INPUT: true; the input reads as it did. -/
def wayComparesSpec : ChangeSpec := { name := "wayCompares", fn := fun _ => fun
  | [d1, d2] => { results := [.lit (.bool true)], args := [d1, d2] }
  | _ => none }
def wayComparesRow : OpenClaim := { program := "ytiehlodegpokcaa", sum := "43206bec7b23f050c52b11fbd839bf221c9a6e9b2f913c33640d8ce46c5cb0a4", func := "estuary/estuarylaw13.WayCompares", spec := "wayCompares", inPlace := ["internal/bytealg.abigen_runtime_cmpstring"], unfollowed := true, recurses := true, apart := false }
def WayComparesSaid : Prop := wayComparesRow.holds Try.pinned (OpenSpec.ofChange wayComparesSpec)

/-- ITS FALSE NEIGHBOUR: 'it returns false'. Refute it at one input. -/
def wayComparesWrong : ChangeSpec := { name := "wayCompares", fn := fun _ => fun
  | [d1, d2] => { results := [.lit (.bool false)], args := [d1, d2] }
  | _ => none }
def WayComparesWrongFalsely : Prop := wayComparesRow.holds Try.pinned (OpenSpec.ofChange wayComparesWrong)

/-- 'estuarylaw13.WayOrder': WHATEVER THE INPUT: true; the input reads as it did. -/
def wayOrderSpec : ChangeSpec := { name := "wayOrder", fn := fun _ => fun
  | [d1, d2, d3] => { results := [.lit (.bool true)], args := [d1, d2, d3] }
  | _ => none }
def wayOrderRow : OpenClaim := { program := "ytiehlodegpokcaa", sum := "43206bec7b23f050c52b11fbd839bf221c9a6e9b2f913c33640d8ce46c5cb0a4", func := "estuary/estuarylaw13.WayOrder", spec := "wayOrder", inPlace := ["internal/bytealg.abigen_runtime_cmpstring"], unfollowed := true, recurses := true, apart := false }
def WayOrderSaid : Prop := wayOrderRow.holds Try.pinned (OpenSpec.ofChange wayOrderSpec)

/-- ITS FALSE NEIGHBOUR: 'it returns false'. Refute it at one input. -/
def wayOrderWrong : ChangeSpec := { name := "wayOrder", fn := fun _ => fun
  | [d1, d2, d3] => { results := [.lit (.bool false)], args := [d1, d2, d3] }
  | _ => none }
def WayOrderWrongFalsely : Prop := wayOrderRow.holds Try.pinned (OpenSpec.ofChange wayOrderWrong)

/- THE SECOND FORM. 'bulk': how many values and letters a reading holds, each counted each time it is reached (what is shared counts as often as it is met; a slice's spare places count too). A statement '..UptoSaid' is the law's where the arguments, and the package variables that the reading takes, are together of bulk at most 1048576: NARROWER than '..Said'. Prove '..Said' where nothing that the law and all that it calls make is longer than what came in: it says more and counts as full. Else prove '..UptoSaid'. A law counts once. -/
mutual
def uptoBulk {H : Type} : DataW H → Nat
  | .lit (.string bytes) => bytes.length + 1
  | .lit _ => 1
  | .nil => 1
  | .ptr d => uptoBulk d + 1
  | .slice elems spare => uptoBulkAll elems + uptoBulkAll spare + 1
  | .agg parts => uptoBulkAll parts + 1
  | .iface _ d => uptoBulk d + 1
  | .map entries => uptoBulkEntries entries + 1
  | .held _ => 1
def uptoBulkAll {H : Type} : List (DataW H) → Nat
  | [] => 0
  | d :: r => uptoBulk d + uptoBulkAll r
def uptoBulkEntries {H : Type} : List (Lit × DataW H) → Nat
  | [] => 0
  | x :: r => uptoBulkEntry x + uptoBulkEntries r
def uptoBulkEntry {H : Type} : Lit × DataW H → Nat
  | (.string bytes, d) => bytes.length + uptoBulk d + 1
  | (_, d) => uptoBulk d + 1
 end
def uptoSmall : (H : Type) → List (DataW H) → Bool := fun _ ds => decide (uptoBulkAll ds ≤ 1048576)
def OpenSpec.upto (s : _root_.Go.ChangeSpec) : _root_.Go.OpenSpec := { _root_.Go.OpenSpec.ofChange s with cond := some uptoSmall }

/-- 'estuarylaw13.WayCompares', WHERE WHAT IT READS IS OF BULK AT MOST 1048576: true; the input reads as it did. -/
def wayComparesUptoRow : OpenClaim := { program := "ytiehlodegpokcaa", sum := "43206bec7b23f050c52b11fbd839bf221c9a6e9b2f913c33640d8ce46c5cb0a4", func := "estuary/estuarylaw13.WayCompares", spec := "wayCompares", inPlace := ["internal/bytealg.abigen_runtime_cmpstring"], unfollowed := true, recurses := true, apart := false, narrowed := true }
def WayComparesUptoSaid : Prop := wayComparesUptoRow.holds Try.pinned (OpenSpec.upto wayComparesSpec)

/-- 'estuarylaw13.WayOrder', WHERE WHAT IT READS IS OF BULK AT MOST 1048576: true; the input reads as it did. -/
def wayOrderUptoRow : OpenClaim := { program := "ytiehlodegpokcaa", sum := "43206bec7b23f050c52b11fbd839bf221c9a6e9b2f913c33640d8ce46c5cb0a4", func := "estuary/estuarylaw13.WayOrder", spec := "wayOrder", inPlace := ["internal/bytealg.abigen_runtime_cmpstring"], unfollowed := true, recurses := true, apart := false, narrowed := true }
def WayOrderUptoSaid : Prop := wayOrderUptoRow.holds Try.pinned (OpenSpec.upto wayOrderSpec)

end Rows
end Go.Proofs.Ytiehlodegpokcaa
