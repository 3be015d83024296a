import Derived.Test.YtcpkdaebeopmaaaDoorRs
import Derived.Test.YtcpkdaebeopmaaaDoorOpen
import Derived.Deep.QuietTactic
import Derived.BigQuiet
namespace Go.Proofs.YtcpkdaebeopmaaaDoor
open Go.RowKit
set_option linter.unusedVariables false
set_option linter.unusedSimpArgs false

/-- The reference's Reader over a row of its own. -/
def RRAt (w : World) (q base : Nat) (l : List UInt8) (k : Nat) : Prop := ∃ v, w.heap[q]? = some (.cells #[v, .int .i64 (k : Int), .int .i64 0, .int .i64 0] 162 (0, 0)) ∧ OwnB w base v l ∧ v.ownBlock ≠ some q ∧ base ≤ q

set_option maxRecDepth 100000 in
set_option maxHeartbeats 1000000 in
theorem rnew_any (a : Option Addr) (l : List UInt8) (n cap : Nat) (w : World) (hl : l.length = n) (hb : Byt w a l) (hn : n ≤ 140737488355328) :
    Calls Tryd.prog 56 #[.slice a n cap] w fun e w' => ∃ q, e = .returned (.pointer (some ⟨q, 0, none⟩)) ∧ RRAt w' q w.heap.size l 0 ∧ Below w.heap.size w w' := by
  have be0 : Below w.heap.size w (w.alloc (.cells #[] 5)) := (Below.refl _ _).alloc (Nat.le_refl _) _
  have O0 : Hid (OwnB (w.alloc (.cells #[] 5)) w.heap.size (.slice (some ⟨w.heap.size, 0, none⟩) 0 0) []) := ⟨rfl, .inr ⟨w.heap.size, 0, #[], rfl, Nat.le_refl _, heap_alloc_new _ _, by simp, by simp [maxLen], rfl, rfl⟩⟩
  have B0 : Hid (Byt (w.alloc (.cells #[] 5)) a l) := byt_below hb be0
  have S0 : Hid (([] : List UInt8).length + l.length ≤ 140737488355328) := by show _ ≤ _; simp; omega
  have Z0 : Hid (w.heap.size ≤ (w.alloc (.cells #[] 5)).heap.size) := by show _ ≤ _; simp
  clear hb hn
  go_enter Tryd.func56, Tryd.ntmps56
  go_wp2_with (first | (at_builtin; refine wpList_app2 rfl (.tmp 3) (.tmp 4) rfl w.heap.size (.slice (some ⟨w.heap.size, 0, none⟩) 0 0) [] rfl O0.out a n cap l rfl hl B0.out S0.out Z0.out ?_) | fail)
  intro v' w1 own1 gr1 hblk
  have own1' : OwnB w1 w.heap.size v' l := by simpa using own1
  have b1 : Below w.heap.size w w1 := be0.grown gr1 Z0.out (fun k hk => (World.ownsRow.lt O0.out k hk).1)
  have z1 : w.heap.size < w1.heap.size := by
    have := gr1.size
    simp at this
    omega
  have hlt : ∀ k, v'.ownBlock = some k → k < w1.heap.size := fun k hk => (World.ownsRow.lt own1' k hk).2
  obtain ⟨av, cv, rfl, _⟩ := own1'.open
  clear own1 gr1 hblk O0 B0 S0 Z0
  have own2 : Hid (OwnB w1 w.heap.size (.slice av l.length cv) l) := own1'
  rw [hl] at own2 hlt ⊢
  go_wp2
  go_ret
  have bA : Below w1.heap.size w1 (w1.alloc (.cells #[.slice av n cv, .int .i64 0, .int .i64 0, .int .i64 0] 162)) := (Below.refl _ _).alloc (Nat.le_refl _) _
  exact ⟨_, rfl, ⟨.slice av n cv, heap_alloc_new _ _, own2.out.below bA, fun h => by have := hlt _ h; omega, by omega⟩, b1.trans (bA.mono (by omega))⟩

set_option maxRecDepth 100000 in
set_option maxHeartbeats 1000000 in
theorem rends_any (q base : Nat) (l : List UInt8) (k j : Nat) (w : World) (hw : RRAt w q base l k) (hj : k + j ≤ l.length) (hl : l.length ≤ 140737488355328) :
    Calls Tryd.prog 77 #[.pointer (some ⟨q, 0, none⟩), .int .i64 (j : Int)] w fun e w' => e = .returned (.bool false) ∧ ∃ m, w' = w.drewN m := by
  obtain ⟨v, hq, own, hne, hbq⟩ := hw
  obtain ⟨av, cv, rfl, hcv, byv, hav⟩ := own.open
  have c0 := (cell_of_row w q 0 _ _ _ hq).trans (show (#[.slice av l.length cv, .int .i64 (k : Int), .int .i64 0, .int .i64 0] : Array Value)[0]? = some (.slice av l.length cv) from rfl)
  have c1 := (cell_of_row w q 1 _ _ _ hq).trans (show (#[.slice av l.length cv, .int .i64 (k : Int), .int .i64 0, .int .i64 0] : Array Value)[1]? = some (.int .i64 (k : Int)) from rfl)
  have c2 := (cell_of_row w q 2 _ _ _ hq).trans (show (#[.slice av l.length cv, .int .i64 (k : Int), .int .i64 0, .int .i64 0] : Array Value)[2]? = some (.int .i64 0) from rfl)
  have hn : ¬ ((l.length : Int) - (k : Int) < (j : Int)) := by omega
  have hn2 : IntKind.i64.wrap ((l.length : Int) - (k : Int)) = (l.length : Int) - (k : Int) := by rw [IntKind.wrap_i64]; omega
  clear own byv hq
  go_enter Tryd.func77, Tryd.ntmps77
  go_wp2
  go_quiet (fail)
  go_wp2
  go_ret
  exact ⟨rfl, _, rfl⟩
end Go.Proofs.YtcpkdaebeopmaaaDoor
