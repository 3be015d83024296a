import Derived.Test.YtcpkdaebeopmaaaDoorRr
import Derived.Deep.Cut
namespace Go.Proofs.YtcpkdaebeopmaaaDoor
open Go.RowKit
set_option linter.unusedVariables false
set_option linter.unusedSimpArgs false

set_option maxRecDepth 100000 in
set_option maxHeartbeats 1000000 in
theorem rrbyte_any (q base : Nat) (l : List UInt8) (k : Nat) (w : World) (hw : RRAt w q base l k) (hj : k + 1 ≤ l.length) (hl : l.length ≤ 140737488355328) :
    Calls Tryd.prog 57 #[.pointer (some ⟨q, 0, none⟩)] w fun e w' => e = .returned (.int .u8 (at8 l k)) ∧ RRAt w' q base l (k + 1) ∧ Below base w w' := by
  have RE : Hid (Calls Tryd.prog 77 #[.pointer (some ⟨q, 0, none⟩), .int .i64 1] w fun e w' => e = .returned (.bool false) ∧ ∃ m, w' = w.drewN m) := rends_any q base l k 1 w hw hj hl
  have hW : Hid (RRAt w q base l k) := hw
  clear hw
  go_enter Tryd.func57, Tryd.ntmps57
  go_wp2_with fail
  refine RE.out.mono ?_
  rintro e w1 ⟨rfl, m, rfl⟩
  clear RE
  have b1 : Below base w (w.drewN m) := below_drewN (Below.refl _ _) m
  have hw1 : RRAt (w.drewN m) q base l k := by
    obtain ⟨v, h1, h2, h3⟩ := hW.out
    exact ⟨v, h1, h2.below (below_drewN (Below.refl _ _) m), h3⟩
  generalize w.drewN m = W at *
  clear hW
  obtain ⟨v, hq, own, hne, hbq⟩ := hw1
  have f1 := frozen_of_row W q 1 _ _ hq
  have e1 := (cell_of_row W q 1 _ _ _ hq).trans (show (#[v, .int .i64 (k : Int), .int .i64 0, .int .i64 0] : Array Value)[1]? = some (.int .i64 (k : Int)) from rfl)
  have hk1 : IntKind.i64.wrap ((k : Int) + 1) = (k : Int) + 1 := by rw [IntKind.wrap_i64]; omega
  have N1 : Hid ((W.setCell ⟨q, 1, none⟩ (.int .i64 ((k : Int) + 1))).heap[q]? = some (.cells #[v, .int .i64 ((k : Int) + 1), .int .i64 0, .int .i64 0] 162 (0, 0))) := by show _ = _; rw [heap_setCell_same W q 1 _ 162 _ hq]; rfl
  have N2 : Hid (OwnB (W.setCell ⟨q, 1, none⟩ (.int .i64 ((k : Int) + 1))) base v l) := own_setCell own hne
  have N3 : Hid (Below base w (W.setCell ⟨q, 1, none⟩ (.int .i64 ((k : Int) + 1)))) := b1.setCell hbq _
  clear hq own b1
  go_upto_region 4 with fail
  generalize (W.setCell ⟨q, 1, none⟩ (.int .i64 ((k : Int) + 1))) = X at *
  obtain ⟨av, cv, rfl, hcv, byv, hav⟩ := N2.out.open
  rcases byv with rfl | ⟨b, off, rfl, hc⟩
  · simp at hj
  have c0 := (cell_of_row X q 0 _ _ _ N1.out).trans (show (#[.slice (some ⟨b, off, none⟩) l.length cv, .int .i64 ((k : Int) + 1), .int .i64 0, .int .i64 0] : Array Value)[0]? = some (.slice (some ⟨b, off, none⟩) l.length cv) from rfl)
  have c1 := (cell_of_row X q 1 _ _ _ N1.out).trans (show (#[.slice (some ⟨b, off, none⟩) l.length cv, .int .i64 ((k : Int) + 1), .int .i64 0, .int .i64 0] : Array Value)[1]? = some (.int .i64 ((k : Int) + 1)) from rfl)
  have cx := hc k (by omega)
  have hk2 : IntKind.i64.wrap ((k : Int) + 1 - 1) = (k : Int) := by rw [IntKind.wrap_i64]; omega
  clear e1 f1 hc hk1
  go_quiet (fail)
  go_wp2
  go_ret
  refine ⟨rfl, ⟨_, N1.out, N2.out.below (below_drewN (Below.refl _ _) _), hne, hbq⟩, below_drewN N3.out _⟩
end Go.Proofs.YtcpkdaebeopmaaaDoor
