import Derived.Test.YtgnichmemkglkaaDoorYh
import Derived.Lib.BufferMore
namespace Go.Proofs.YtgnichmemkglkaaDoor
open Go.RowKit
set_option linter.unusedVariables false
set_option linter.unusedSimpArgs false

theorem wpList_wanted {P : Program} {ops : Array Oper} {rest : List Oper} {o : Oper} {a : Act} {w : World} {Q : Exit → Act → World → Prop} (hw : Region.wanted o (yielded ops a.tmps) = true)
    (h : ∀ K : Act → World → Prop, (∀ a w, wpList P ops Q rest a w → K a w) → o.wp P a w K Q) : wpList P ops Q (o :: rest) a w :=
  wpList_step fun K hK => by rw [if_pos hw]; exact h K hK
theorem wpList_bs1G {ops : Array Oper} {rest : List Oper} {o : Oper} {a : Act} {w : World} {Q : Exit → Act → World → Prop} (hw : Region.wanted o (yielded ops a.tmps) = true) (x : Operand) (ho : o.op = .buildSlice 22 1 #[(0, x)])
    (C : Array Value) (hx : a.eval x = .agg C) (hC : C.size = 3)
    (h : wpList Tryd.prog ops Q rest (a.put o.dst (.slice (some ⟨w.heap.size, 0, none⟩) 1 1)) (w.alloc (.cells C 35))) : wpList Tryd.prog ops Q (o :: rest) a w := by
  obtain ⟨ie, hi, hz, hs, hby⟩ := infoS
  refine wpList_wanted hw fun _ hK => wp_buildSlice 22 35 1 #[(0, x)] ho C ie _ Tryd.underlying22 hi hz (by rw [hs]; decide) (by rw [hs]; decide) ?_ (hK _ _ h)
  rw [hs]
  have := Go.Great.fill_whole (s := 3) (by decide) [.agg C] ((Array.range (1 * 3)).map ((Value.agg zSt.c).cells[· % (Value.agg zSt.c).cells.size]!)) (by intro v hv; simp at hv; subst hv; exact hC) (by simp)
  simp only [List.map_toArray, List.map_cons, List.map_nil, hx]
  simpa [Value.cells] using this
theorem Sts.front {W : World} {a : Option Addr} {L M : List St} (h : Sts W a (L ++ M)) : Sts W a L := by
  have := h.take L.length
  simpa using this
set_option maxRecDepth 100000 in
set_option maxHeartbeats 2000000 in
theorem kept_any (g : Nat) (a : Option Addr) (L : List St) (c cap : Nat) (w : World) (ho : Sts w (some ⟨g, 0, none⟩) (L ++ [mSt])) (hl : Sts w a L) (hc : L.length + 1 ≤ c) (hn : L.length ≤ 4398046510976) :
    Calls Tryd.prog 10 #[.slice (some ⟨g, 0, none⟩) L.length c, .slice a L.length cap] w fun e w' => e = .returned (.bool true) ∧ Below w.heap.size w w' := by
  have H := Hid.mk' (same_any (some ⟨g, 0, none⟩) a L L c cap w ho.front hl (by omega) (by omega))
  rw [decide_eq_true (cL_zero.2 rfl)] at H
  have HO := Hid.mk' (fun w' (h : Below w.heap.size w w') => ho.below h)
  have he : ∀ wx, (Op.equalIn 10000 35 (.agg #[.int .u8 77, .string ⟨#[]⟩, .int .i64 0]) (.agg #[.int .u8 77, .string ⟨#[]⟩, .int .i64 0])).run Tryd.prog wx = .ok true wx := fun wx => by
    have := eqSt mSt mSt wx
    rw [decide_eq_true (cSt_zero.2 rfl)] at this
    exact this
  have HM : Hid (∀ w', Below w.heap.size w w' → w'.cell? ⟨g, 3 * L.length, none⟩ = some (.int .u8 77) ∧ w'.cell? ⟨g, 3 * L.length + 1, none⟩ = some (.string ⟨#[]⟩) ∧ w'.cell? ⟨g, 3 * L.length + 2, none⟩ = some (.int .i64 0)) := fun w' h => by
    obtain ⟨b, off, p, e, hp, c0, c1, c2⟩ := (HO.out w' h).at (i := L.length) (by simp)
    cases e
    have : p = mSt := by simpa using hp.symm
    subst this
    rw [Nat.zero_add] at c0 c1 c2
    exact ⟨c0, c1, c2⟩
  have ix := fun wx => indexS g 0 (L.length + 1) c L.length wx (by omega)
  rw [Nat.zero_add] at ix
  generalize L.length = n at *
  have hc' : ((n : Int) + 1) ≤ (c : Int) := by omega
  clear ho hl HO
  go_enter Tryd.func10, Tryd.ntmps10
  go_wp2_with fail
  refine H.out.mono ?_
  rintro e w1 ⟨rfl, b1⟩
  obtain ⟨c0, c1, c2⟩ := HM.out w1 b1
  clear H HM
  go_wp2
  go_ret
  exact ⟨rfl, b1⟩
end Go.Proofs.YtgnichmemkglkaaDoor
