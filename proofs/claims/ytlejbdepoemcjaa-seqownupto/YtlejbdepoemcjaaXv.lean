import Derived.Test.YtlejbdepoemcjaaXw
import Derived.Test.YtlejbdepoemcjaaXea
import Derived.RangeFuncNested
import Derived.RangeFuncBound
import Derived.RangeFuncCalls
import Derived.RangeFuncLeaves
import Derived.RangeFuncFrom
import Derived.OwnWalkIn
import Derived.TacticsInMore
namespace Go.Proofs.Ytlejbdepoemcjaa
open Go.RowKit Sq
set_option linter.unusedVariables false
set_option linter.unusedSimpArgs false

/- Steps of a list of operations inside a fence that lets all by. -/
section
variable {F : Fence} {n : Nat} {P : Program} {ops : Array Oper} {rest : List Oper} {o : Oper} {a : Act} {w w2 : World} {Q : Exit → Act → World → Prop}
theorem qkI {v : Value} {d : Nat} (hw : Region.wanted o (yielded ops a.tmps) = true) (hr : (execOp a.eval o).run P w = .ok (.value v) w2) (h : ∀ a', a' = a.put (some d) v → wpListIn F n P ops Q rest a' w2) (hd : o.dst = some d := by rfl) (hF : ∀ f, F.fn f := by exact fun _ => trivial) (hn : ∀ c, o.op ≠ .defer c := by intro c h; cases h) : wpListIn F n P ops Q (o :: rest) a w :=
  wpListIn_step fun K hK => by
    rw [if_pos hw]
    refine ⟨fun f _ => hF f, ?_⟩
    rw [Oper.semAt_plain F _ _ hn, hr, Oper.uponIn_value]
    exact hK _ _ (by rw [hd]; exact h _ rfl)
theorem qvI {v : Value} {d : Nat} (hw : Region.wanted o (yielded ops a.tmps) = true) (hr : (execOp a.eval o).run P w = .ok (.value v) w) (h : ∀ a', a' = a.put (some d) v → wpListIn F n P ops Q rest a' w) (hd : o.dst = some d := by rfl) (hF : ∀ f, F.fn f := by exact fun _ => trivial) (hn : ∀ c, o.op ≠ .defer c := by intro c h; cases h) : wpListIn F n P ops Q (o :: rest) a w := qkI hw hr h hd hF hn
theorem qsI (hw : Region.wanted o (yielded ops a.tmps) = true) (hr : (execOp a.eval o).run P w = .ok .skip w2) (h : wpListIn F n P ops Q rest a w2) (hd : o.dst = none := by rfl) (hF : ∀ f, F.fn f := by exact fun _ => trivial) (hn : ∀ c, o.op ≠ .defer c := by intro c h; cases h) : wpListIn F n P ops Q (o :: rest) a w :=
  wpListIn_step fun K hK => by
    rw [if_pos hw]
    refine ⟨fun f _ => hF f, ?_⟩
    rw [Oper.semAt_plain F _ _ hn, hr, Oper.uponIn_skip]
    exact hK _ _ (by rw [hd]; exact h)
theorem qnI {d : Nat} (hw : Region.wanted o (yielded ops a.tmps) = false) (h : ∀ a', a' = a.put (some d) undef → wpListIn F n P ops Q rest a' w) (hd : o.dst = some d := by rfl) (hF : ∀ f, F.fn f := by exact fun _ => trivial) : wpListIn F n P ops Q (o :: rest) a w :=
  wpListIn_step fun K hK => by
    rw [if_neg (by rw [hw]; decide), hd]
    exact ⟨fun f _ => hF f, hK _ _ (h _ rfl)⟩
/-- A call, in the widest fence. -/
theorem qcI {f : Nat} {vs : Array Value} {R : Ending → World → Prop} {d : Nat} (hw : Region.wanted o (yielded ops a.tmps) = true) (hr : (execOp a.eval o).run P w = .ok (.enter f vs) w) (hC : Calls P f vs w R) (h : ∀ e w', R e w' → ∃ v, e = .returned v ∧ ∀ a', a' = a.put (some d) v → wpListIn Fence.wide n P ops Q rest a' w') (hd : o.dst = some d := by rfl) (hn : ∀ c, o.op ≠ .defer c := by intro c h; cases h) : wpListIn Fence.wide n P ops Q (o :: rest) a w :=
  wpListIn_step fun K hK => by
    rw [if_pos hw]
    refine ⟨fun f _ => trivial, ?_⟩
    rw [Oper.semAt_plain Fence.wide _ _ hn, hr, Oper.uponIn_enter]
    refine ⟨fun h => by simp [Fence.wide] at h, callsIn_wide.2 (hC.mono ?_)⟩
    intro e w' hp
    obtain ⟨v, rfl, hh⟩ := h e w' hp
    exact hK _ _ (by rw [hd]; exact hh _ rfl)
/-- A call of yield, in the widest fence. -/
theorem qyI {l : Nat} {vs : Array Value} {R : Ending → World → Prop} {d : Nat} (hw : Region.wanted o (yielded ops a.tmps) = true) (hr : (execOp a.eval o).run P w = (Instr.yield l vs).run P w) (hC : YieldAt Fence.wide (n - 1) P l vs w R) (h : ∀ e w', R e w' → ∃ v, e = .returned v ∧ ∀ a', a' = a.put (some d) v → wpListIn Fence.wide n P ops Q rest a' w') (hd : o.dst = some d := by rfl) (hn : ∀ c, o.op ≠ .defer c := by intro c h; cases h) : wpListIn Fence.wide n P ops Q (o :: rest) a w :=
  wpListIn_step fun K hK => by
    rw [if_pos hw]
    refine ⟨fun f _ => trivial, ?_⟩
    obtain ⟨fn, tmps, assign, body, hy, hR⟩ := hC
    rw [Oper.semAt_plain Fence.wide _ _ hn, hr, hy, Oper.uponIn_round]
    refine ⟨fun h => by simp [Fence.wide] at h, hR.mono ?_⟩
    intro e w' hp
    obtain ⟨v, rfl, hh⟩ := h e w' hp
    exact hK _ _ (by rw [hd]; exact hh _ rfl)
end
end Go.Proofs.Ytlejbdepoemcjaa
