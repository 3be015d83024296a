import Derived.Test.YtgnichmemkglkaaDoorYe
import Derived.Deep.QuietTactic
import Derived.BigQuiet
namespace Go.Proofs.YtgnichmemkglkaaDoor
open Go.RowKit
set_option linter.unusedVariables false
set_option linter.unusedSimpArgs false

theorem Sts.take {W : World} {a : Option Addr} {l : List St} (h : Sts W a l) (k : Nat) : Sts W a (l.take k) := by
  rcases h with rfl | ⟨b, off, rfl, h⟩
  · exact .inl (by simp)
  · refine .inr ⟨b, off, rfl, fun i p e => h i p ?_⟩
    rw [List.getElem?_take] at e
    split at e
    · exact e
    · cases e
set_option maxRecDepth 100000 in
set_option maxHeartbeats 1000000 in
theorem same_any (a b : Option Addr) (l m : List St) (c d : Nat) (w : World) (ha : Sts w a l) (hb : Sts w b m) (hl : l.length ≤ 140737488355328) (hm : m.length ≤ 140737488355328) :
    Calls Tryd.prog 13 #[.slice a l.length c, .slice b m.length d] w fun e w' => e = .returned (.bool (decide (cL l m = 0))) ∧ Below w.heap.size w w' := by
  have H := Hid.mk' (rcompare_any a b l m c d w ha hb hl hm)
  clear ha hb
  generalize l.length = n at *
  generalize m.length = q at *
  generalize cL l m = C at *
  by_cases hC : C = 0
  · subst hC
    go_enter Tryd.func13, Tryd.ntmps13
    go_wp2_with fail
    refine H.out.mono ?_
    rintro e w1 ⟨rfl, b1⟩
    go_wp2
    go_ret
    exact ⟨rfl, b1⟩
  · rw [decide_eq_false hC]
    go_enter Tryd.func13, Tryd.ntmps13
    go_wp2_with fail
    refine H.out.mono ?_
    rintro e w1 ⟨rfl, b1⟩
    go_wp2
    go_ret
    exact ⟨by simp [hC], b1⟩
/-- Whether a way starts with another. -/
def stB (l m : List St) : Bool := decide (m.length ≤ l.length) && decide (cL (l.take m.length) m = 0)
end Go.Proofs.YtgnichmemkglkaaDoor
