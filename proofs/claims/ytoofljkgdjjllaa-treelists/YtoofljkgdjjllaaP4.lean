import Derived.Test.YtoofljkgdjjllaaP2
import Derived.Test.YtoofljkgdjjllaaP3
import Derived.Test.YtoofljkgdjjllaaP0
import Derived.Test.YtoofljkgdjjllaaRows
import Derived.WalkKit
import Derived.WalkSpells
import Derived.WalkLawsBesides
import Derived.Maps.AppendAt
import Derived.Laws.OwnMore
import Derived.Below
import Derived.OwnWalk
import Derived.Deep.MidRow
import Derived.Test.YtoofljkgdjjllaaRg
namespace Go.Proofs.Ytoofljkgdjjllaa
open Go.RowKit
set_option linter.unusedVariables false
set_option linter.unusedSimpArgs false

theorem infoBk : (Try.prog.info? 45).map (fun i => (i.zero, i.size, i.bytes)) = some (some (.pointer none), 1, 8) := by kernel_rfl
theorem infoIn : (Try.prog.info? 3).map (fun i => (i.zero, i.size, i.bytes)) = some (some (.int .i64 0), 1, 8) := by kernel_rfl
theorem run_bs1 (T e y : TypeId) (z : Value) (ht : Try.prog.underlying T = some (.slice e)) (hi : (Try.prog.info? e).map (fun i => (i.zero, i.size, i.bytes)) = some (some z, 1, y)) (hz : z.cells.size = 1) (v : Value) (hc : v.cells = #[v]) (w : World) : (Instr.buildSlice T 1 #[(0, v)]).run Try.prog w = .ok (.slice (some ⟨w.heap.size, 0, none⟩) 1 1) (w.alloc (.cells #[v] e)) := by
  obtain ⟨ie, hi, hz0, hs, hby⟩ := info_parts hi
  refine run_buildSlice w T e 1 _ #[v] ie _ ht hi hz0 (by rw [hs]; decide) (by rw [hs]; decide) ?_
  rw [hs]
  have := Go.Great.fill_whole (s := 1) (by decide) [v] ((Array.range (1 * 1)).map (z.cells[· % z.cells.size]!)) (by intro u hu; simp at hu; subst hu; rw [hc]; rfl) (by simp)
  simpa [hc] using this
theorem bkV_cells (b : Option Nat) : (bkV b).cells = #[bkV b] := by cases b <;> rfl
theorem bkV_one (b : Option Nat) : (bkV b).oneCell' = true := by cases b <;> rfl
theorem load_bs {w : World} {b o : Nat} {v : Value} (h : w.cell? ⟨b, o, none⟩ = some v) : (Instr.loadAt 29 (.pointer (some ⟨b, o, none⟩))).run Try.prog w = .ok v w := by go_simp
theorem load_is {w : World} {b o : Nat} {v : Value} (h : w.cell? ⟨b, o, none⟩ = some v) : (Instr.loadAt 30 (.pointer (some ⟨b, o, none⟩))).run Try.prog w = .ok v w := by go_simp
theorem load_tp {w : World} {b o : Nat} {v : Value} (h : w.cell? ⟨b, o, none⟩ = some v) : (Instr.loadAt 25 (.pointer (some ⟨b, o, none⟩))).run Try.prog w = .ok v w := by go_simp
theorem load_dp {w : World} {b o : Nat} {v : Value} (h : w.cell? ⟨b, o, none⟩ = some v) : (Instr.loadAt 27 (.pointer (some ⟨b, o, none⟩))).run Try.prog w = .ok v w := by go_simp
theorem load_bk {w : World} {b o : Nat} {v : Value} (h : w.cell? ⟨b, o, none⟩ = some v) : (Instr.loadAt 45 (.pointer (some ⟨b, o, none⟩))).run Try.prog w = .ok v w := by go_simp
theorem load_in {w : World} {b o : Nat} {v : Value} (h : w.cell? ⟨b, o, none⟩ = some v) : (Instr.loadAt 3 (.pointer (some ⟨b, o, none⟩))).run Try.prog w = .ok v w := by go_simp
section
variable {w : World} {x : Nat} {v0 v1 v2 v3 : Value} (h : w.heap[x]? = some (.cells #[v0, v1, v2, v3] 32 (0, 0)))
include h
theorem cell_p0 : w.cell? ⟨x, 0, none⟩ = some v0 := by rw [cell_of_row _ _ 0 _ _ _ h]; rfl
theorem cell_p1 : w.cell? ⟨x, 1, none⟩ = some v1 := by rw [cell_of_row _ _ 1 _ _ _ h]; rfl
theorem cell_p2 : w.cell? ⟨x, 2, none⟩ = some v2 := by rw [cell_of_row _ _ 2 _ _ _ h]; rfl
theorem cell_p3 : w.cell? ⟨x, 3, none⟩ = some v3 := by rw [cell_of_row _ _ 3 _ _ _ h]; rfl
theorem store_p2 (a : Option Addr) (n c : Nat) : (Instr.storeAt 29 (.pointer (some ⟨x, 2, none⟩)) (.slice a n c)).run Try.prog w = .ok () (w.setCell ⟨x, 2, none⟩ (.slice a n c)) := by
  have hc := cell_p2 h
  have hf := frozen_of_row w x 2 _ _ h
  go_simp
theorem store_p3 (a : Option Addr) (n c : Nat) : (Instr.storeAt 30 (.pointer (some ⟨x, 3, none⟩)) (.slice a n c)).run Try.prog w = .ok () (w.setCell ⟨x, 3, none⟩ (.slice a n c)) := by
  have hc := cell_p3 h
  have hf := frozen_of_row w x 3 _ _ h
  go_simp
theorem set_p2 (u : Value) : (w.setCell ⟨x, 2, none⟩ u).heap[x]? = some (.cells #[v0, v1, u, v3] 32 (0, 0)) := by
  obtain ⟨hl, hv⟩ := Array.getElem?_eq_some_iff.1 h
  simp [World.setCell, hl, Array.getElem_modify_self, hv]
theorem set_p3 (u : Value) : (w.setCell ⟨x, 3, none⟩ u).heap[x]? = some (.cells #[v0, v1, v2, u] 32 (0, 0)) := by
  obtain ⟨hl, hv⟩ := Array.getElem?_eq_some_iff.1 h
  simp [World.setCell, hl, Array.getElem_modify_self, hv]
theorem row_not {B : Nat} {e : TypeId} {v : Value} {X : List Value} (ho : OwnV w B e v X) (he : e ≠ 32) : v.ownBlock ≠ some x := by
  intro q
  obtain ⟨_, c, hc⟩ := ho.ge x q
  rw [h] at hc
  simp at hc
  exact he hc.2.symm
end
theorem rows_apart {B : Nat} {w : World} {e e' : TypeId} {v v' : Value} {X X' : List Value} (h : OwnV w B e v X) (h' : OwnV w B e' v' X') (he : e ≠ e') {j : Nat} (q : v.ownBlock = some j) : v'.ownBlock ≠ some j := by
  intro q'
  obtain ⟨_, c, hc⟩ := h.ge j q
  obtain ⟨_, c', hc'⟩ := h'.ge j q'
  rw [hc] at hc'
  simp at hc'
  exact he hc'.2
section
variable {B : Nat} {g : Nat → Nat} {w : World} {p : Pl}
theorem backs_runs (h : PS B g w p) (hB : B ≤ w.heap.size) (hn : p.BL.length ≤ 1300000000000) (b : Option Nat) (hb : ∀ c, b = some c → g c = 2 ∧ ∃ q, w.heap[c]? = some (.cells q 103 (0, 0))) :
    ∃ (lv qv : Value) (w1 w2 w3 : World), (Instr.buildSlice 29 1 #[(0, bkV b)]).run Try.prog w = .ok lv w1 ∧ (Builtin.append_ #[29, 29] 29 #[p.bv, lv]).run Try.prog w1 = .ok qv w2 ∧ (Instr.storeAt 29 (.pointer (some ⟨p.x, 2, none⟩)) qv).run Try.prog w2 = .ok () w3 ∧
      ∃ g', Ext w g g' ∧ Tch (Mut g) w w3 ∧ PS B g' w3 { p with bv := qv, BL := p.BL ++ [b] } := by
  have e1 := run_bs1 29 45 8 _ Try.underlying29 infoBk rfl (bkV b) (bkV_cells b) w
  have b1 : Below w.heap.size w (w.alloc (.cells #[bkV b] 45)) := (Below.refl _ _).alloc (Nat.le_refl _) _
  have v1 : Vals (w.alloc (.cells #[bkV b] 45)) (some ⟨w.heap.size, 0, none⟩) [bkV b] := Or.inr ⟨_, _, rfl, fun j u hj => by
    rw [Nat.zero_add, cell_of_row _ _ _ _ _ _ (heap_alloc_new _ _)]
    simpa using hj⟩
  generalize w.alloc (.cells #[bkV b] 45) = w1 at *
  have z1 := b1.size
  obtain ⟨qv, w2, e2, own2, g2, o2⟩ := run_appV 29 45 8 _ Try.underlying29 infoBk (Or.inl rfl) rfl w1 B 29 p.bv _ _ [bkV b] 1 (h.backs.below b1) v1 (by intro u hu; simp at hu; subst hu; exact bkV_one b) (by simp; omega) (by omega)
  have t2 : Tch (fun j => p.bv.ownBlock = some j) w w2 := Tch.trans ⟨b1.os, b1.tape, b1.output, b1.size, fun j hj _ => b1.block j hj⟩ ⟨g2.os, g2.tape, g2.output, g2.size, fun j hj hO => g2.block j hj (fun q => hO q.symm)⟩
  have lx := (Array.getElem?_eq_some_iff.1 h.cell).1
  have hx2 := (t2.block _ lx (row_not h.cell h.backs (by decide))).trans h.cell
  obtain ⟨a2, c2, eqv, _⟩ := own2.open
  have es := store_p2 hx2 a2 (p.BL.map bkV ++ [bkV b]).length c2
  rw [← eqv] at es
  have ts := set_tch w2 p.x 2 qv
  have t3 : Tch (fun j => j = p.x ∨ p.bv.ownBlock = some j ∨ p.sv.ownBlock = some j) w (w2.setCell ⟨p.x, 2, none⟩ qv) := (t2.mono fun k _ q => Or.inr (Or.inl q)).trans (ts.mono fun k _ q => Or.inl q)
  have hc3 := set_p2 hx2 qv
  have own3 : OwnV (w2.setCell ⟨p.x, 2, none⟩ qv) B 45 qv ((p.BL ++ [b]).map bkV) := by
    rw [List.map_append]
    exact own2.keep fun j hj => ts.block j (by obtain ⟨_, c, q⟩ := own2.ge j hj; exact (Array.getElem?_eq_some_iff.1 q).1) (fun e => row_not hx2 own2 (by decide) (by rw [← e]; exact hj))
  have st3 : OwnV (w2.setCell ⟨p.x, 2, none⟩ qv) B 3 p.sv (p.SL.map inV) := h.steps.keep fun j hj => by
    have lj : j < w.heap.size := by obtain ⟨_, c, q⟩ := h.steps.ge j hj; exact (Array.getElem?_eq_some_iff.1 q).1
    refine (ts.block j (Nat.lt_of_lt_of_le lj t2.size) fun e => ?_).trans (t2.block j lj fun q => rows_apart h.backs h.steps (by decide) q hj)
    rw [e] at hj
    exact row_not h.cell h.steps (by decide) hj
  obtain ⟨g', x1, x2, x3⟩ := h.lists hB (bv' := qv) (BL' := p.BL ++ [b]) (sv' := p.sv) (SL' := p.SL) t3 hc3 own3 st3 (fun j hj => by
    rcases o2 with q | q
    · exact Or.inl (Or.inr (Or.inl (by rw [← q]; exact hj)))
    · rw [q] at hj; simp at hj; exact Or.inr (by omega)) (fun j hj => Or.inl (Or.inr (Or.inr hj))) (fun c hc => by
    rcases List.mem_append.1 hc with q | q
    · exact Or.inl q
    · simp at q; exact Or.inr (hb c q.symm))
  exact ⟨_, qv, w1, w2, _, e1, e2, es, g', x1, x2, x3⟩
theorem steps_runs (h : PS B g w p) (hB : B ≤ w.heap.size) (hn : p.SL.length ≤ 1300000000000) (z : Int) :
    ∃ (lv qv : Value) (w1 w2 w3 : World), (Instr.buildSlice 30 1 #[(0, .int .i64 z)]).run Try.prog w = .ok lv w1 ∧ (Builtin.append_ #[30, 30] 30 #[p.sv, lv]).run Try.prog w1 = .ok qv w2 ∧ (Instr.storeAt 30 (.pointer (some ⟨p.x, 3, none⟩)) qv).run Try.prog w2 = .ok () w3 ∧
      ∃ g', Ext w g g' ∧ Tch (Mut g) w w3 ∧ PS B g' w3 { p with sv := qv, SL := p.SL ++ [z] } := by
  have e1 := run_bs1 30 3 8 _ Try.underlying30 infoIn rfl (.int .i64 z) rfl w
  have b1 : Below w.heap.size w (w.alloc (.cells #[.int .i64 z] 3)) := (Below.refl _ _).alloc (Nat.le_refl _) _
  have v1 : Vals (w.alloc (.cells #[.int .i64 z] 3)) (some ⟨w.heap.size, 0, none⟩) [.int .i64 z] := Or.inr ⟨_, _, rfl, fun j u hj => by
    rw [Nat.zero_add, cell_of_row _ _ _ _ _ _ (heap_alloc_new _ _)]
    simpa using hj⟩
  generalize w.alloc (.cells #[.int .i64 z] 3) = w1 at *
  have z1 := b1.size
  obtain ⟨qv, w2, e2, own2, g2, o2⟩ := run_appV 30 3 8 _ Try.underlying30 infoIn (Or.inl rfl) rfl w1 B 30 p.sv _ _ [.int .i64 z] 1 (h.steps.below b1) v1 (by intro u hu; simp at hu; subst hu; rfl) (by simp; omega) (by omega)
  have t2 : Tch (fun j => p.sv.ownBlock = some j) w w2 := Tch.trans ⟨b1.os, b1.tape, b1.output, b1.size, fun j hj _ => b1.block j hj⟩ ⟨g2.os, g2.tape, g2.output, g2.size, fun j hj hO => g2.block j hj (fun q => hO q.symm)⟩
  have lx := (Array.getElem?_eq_some_iff.1 h.cell).1
  have hx2 := (t2.block _ lx (row_not h.cell h.steps (by decide))).trans h.cell
  obtain ⟨a2, c2, eqv, _⟩ := own2.open
  have es := store_p3 hx2 a2 (p.SL.map inV ++ [Value.int .i64 z]).length c2
  rw [← eqv] at es
  have ts := set_tch w2 p.x 3 qv
  have t3 : Tch (fun j => j = p.x ∨ p.bv.ownBlock = some j ∨ p.sv.ownBlock = some j) w (w2.setCell ⟨p.x, 3, none⟩ qv) := (t2.mono fun k _ q => Or.inr (Or.inr q)).trans (ts.mono fun k _ q => Or.inl q)
  have hc3 := set_p3 hx2 qv
  have own3 : OwnV (w2.setCell ⟨p.x, 3, none⟩ qv) B 3 qv ((p.SL ++ [z]).map inV) := by
    rw [List.map_append]
    exact own2.keep fun j hj => ts.block j (by obtain ⟨_, c, q⟩ := own2.ge j hj; exact (Array.getElem?_eq_some_iff.1 q).1) (fun e => row_not hx2 own2 (by decide) (by rw [← e]; exact hj))
  have bt3 : OwnV (w2.setCell ⟨p.x, 3, none⟩ qv) B 45 p.bv (p.BL.map bkV) := h.backs.keep fun j hj => by
    have lj : j < w.heap.size := by obtain ⟨_, c, q⟩ := h.backs.ge j hj; exact (Array.getElem?_eq_some_iff.1 q).1
    refine (ts.block j (Nat.lt_of_lt_of_le lj t2.size) fun e => ?_).trans (t2.block j lj fun q => rows_apart h.steps h.backs (by decide) q hj)
    rw [e] at hj
    exact row_not h.cell h.backs (by decide) hj
  obtain ⟨g', x1, x2, x3⟩ := h.lists hB (bv' := p.bv) (BL' := p.BL) (sv' := qv) (SL' := p.SL ++ [z]) t3 hc3 bt3 own3 (fun j hj => Or.inl (Or.inr (Or.inl hj))) (fun j hj => by
    rcases o2 with q | q
    · exact Or.inl (Or.inr (Or.inr (by rw [← q]; exact hj)))
    · rw [q] at hj; simp at hj; exact Or.inr (by omega)) (fun c hc => Or.inl hc)
  exact ⟨_, qv, w1, w2, _, e1, e2, es, g', x1, x2, x3⟩
theorem steps_set (h : PS B g w p) (hB : B ≤ w.heap.size) {i : Nat} (hi : i < p.SL.length) (z : Int) :
    ∃ gb c, p.sv = .slice (some ⟨gb, 0, none⟩) p.SL.length c ∧ (Instr.storeAt 3 (.pointer (some ⟨gb, i, none⟩)) (.int .i64 z)).run Try.prog w = .ok () (w.setCell ⟨gb, i, none⟩ (.int .i64 z)) ∧
      ∃ g', Ext w g g' ∧ Tch (Mut g) w (w.setCell ⟨gb, i, none⟩ (.int .i64 z)) ∧ PS B g' (w.setCell ⟨gb, i, none⟩ (.int .i64 z)) { p with SL := p.SL.set i z } := by
  rcases h.steps.2 with ⟨_, hn⟩ | ⟨gb, cap, cur, ev, hbg, hg, hnc, hcm, hcs, htake⟩
  · rw [List.length_map] at hn; omega
  · rw [List.length_map, Nat.mul_one] at htake
    rw [List.length_map] at ev hnc
    have hl : i < cur.size := by rw [hcs]; omega
    have lg := (Array.getElem?_eq_some_iff.1 hg).1
    have hcell : w.cell? ⟨gb, i, none⟩ = some cur[i] := by rw [cell_of_row w gb i cur 3 (0, 0) hg]; exact Array.getElem?_eq_getElem hl
    have hval : ∃ z0, cur[i] = .int .i64 z0 := by
      have h1 : (cur.toList.take p.SL.length)[i]? = some cur[i] := by
        rw [List.getElem?_take, if_pos hi, Array.getElem?_toList]; exact Array.getElem?_eq_getElem hl
      rw [htake, List.getElem?_map, List.getElem?_eq_getElem hi] at h1
      simp only [Option.map_some, Option.some.injEq, inV] at h1
      exact ⟨_, h1.symm⟩
    obtain ⟨z0, hz0⟩ := hval
    rw [hz0] at hcell
    have hf := frozen_of_row w gb i _ _ hg
    have es : (Instr.storeAt 3 (.pointer (some ⟨gb, i, none⟩)) (.int .i64 z)).run Try.prog w = .ok () (w.setCell ⟨gb, i, none⟩ (.int .i64 z)) := by go_simp
    have ts := set_tch w gb i (.int .i64 z)
    have hsv : p.sv.ownBlock = some gb := by rw [ev]; rfl
    have hnx : gb ≠ p.x := fun e => row_not h.cell h.steps (by decide) (by rw [← e]; exact hsv)
    have hblk : (w.setCell ⟨gb, i, none⟩ (.int .i64 z)).heap[gb]? = some (.cells (cur.set! i (.int .i64 z)) 3 (0, 0)) := by
      obtain ⟨hl2, hv⟩ := Array.getElem?_eq_some_iff.1 hg
      simp [World.setCell, hl2, Array.getElem_modify_self, hv]
    have own3 : OwnV (w.setCell ⟨gb, i, none⟩ (.int .i64 z)) B 3 p.sv ((p.SL.set i z).map inV) := by
      refine ⟨by simp, Or.inr ⟨gb, cap, cur.set! i (.int .i64 z), by rw [List.length_map, List.length_set]; exact ev, hbg, hblk, by rw [List.length_map, List.length_set]; exact hnc, hcm, by simp [hcs], ?_⟩⟩
      rw [List.length_map, List.length_set, Nat.mul_one, List.map_set, ← htake]
      simp [Array.set!, List.take_set]
      rfl
    obtain ⟨g', x1, x2, x3⟩ := h.lists hB (bv' := p.bv) (BL' := p.BL) (sv' := p.sv) (SL' := p.SL.set i z) (ts.mono fun k _ q => Or.inr (Or.inr (by rw [q]; exact hsv))) ((ts.block _ (Array.getElem?_eq_some_iff.1 h.cell).1 (fun e => hnx e.symm)).trans h.cell)
      (h.backs.keep fun j hj => ts.block j (by obtain ⟨_, c, q⟩ := h.backs.ge j hj; exact (Array.getElem?_eq_some_iff.1 q).1) (fun e => rows_apart h.backs h.steps (by decide) hj (by rw [e]; exact hsv))) own3 (fun j hj => Or.inl (Or.inr (Or.inl hj))) (fun j hj => Or.inl (Or.inr (Or.inr hj))) (fun c hc => Or.inl hc)
    exact ⟨gb, cap, ev, es, g', x1, x2, x3⟩
end
end Go.Proofs.Ytoofljkgdjjllaa

namespace Go.Proofs.Ytoofljkgdjjllaa
open Go.RowKit
set_option linter.unusedVariables false
set_option linter.unusedSimpArgs false

structure PX (B x t d m : Nat) (p : Pl) (g : Nat → Nat) (w : World) : Prop where
  x : p.x = x
  t : p.s.t = t
  d : p.d = d
  ps : PS B g w p
  ln : Link p
  mb : p.BL.length ≤ m
  mn : p.NL.length ≤ m
  mp : p.PL.length ≤ m
  mq : ∀ P ∈ p.PL, P.length ≤ m
theorem PX.below {B x t d m : Nat} {p : Pl} {g : Nat → Nat} {w w' : World} (h : PX B x t d m p g w) (b : Below w.heap.size w w') : PX B x t d m p g w' := ⟨h.x, h.t, h.d, h.ps.below b, h.ln, h.mb, h.mn, h.mp, h.mq⟩
theorem PX.keep {B x t d m : Nat} {p : Pl} {g : Nat → Nat} {w w' : World} {Q : Nat → Prop} (h : PX B x t d m p g w) (b : Tch Q w w') (hQ : ∀ j, g j ≠ 0 → ¬ Q j) : PX B x t d m p g w' := ⟨h.x, h.t, h.d, h.ps.keep b hQ, h.ln, h.mb, h.mn, h.mp, h.mq⟩
theorem PX.mono {B x t d m m' : Nat} {p : Pl} {g : Nat → Nat} {w : World} (h : PX B x t d m p g w) (hm : m ≤ m') : PX B x t d m' p g w := ⟨h.x, h.t, h.d, h.ps, h.ln, Nat.le_trans h.mb hm, Nat.le_trans h.mn hm, Nat.le_trans h.mp hm, fun P hP => Nat.le_trans (h.mq P hP) hm⟩
theorem tch_below {g : Nat → Nat} {w w' : World} (b : Below w.heap.size w w') : Tch (Mut g) w w' := ⟨b.os, b.tape, b.output, b.size, fun j hj _ => b.block j hj⟩
theorem OwnV.form {w : World} {B : Nat} {e : TypeId} {v : Value} {X : List Value} (h : OwnV w B e v X) {i : Nat} (hi : i < X.length) : ∃ bb c, v = .slice (some ⟨bb, 0, none⟩) X.length c := by
  rcases h.2 with ⟨_, hn⟩ | ⟨g, cap, cur, rfl, _⟩
  · omega
  · exact ⟨g, cap, rfl⟩
theorem OwnV.hit {w : World} {B : Nat} {e : TypeId} {v : Value} {X : List Value} (h : OwnV w B e v X) {bb n c : Nat} (ev : v = .slice (some ⟨bb, 0, none⟩) n c) {i : Nat} {u : Value} (hu : X[i]? = some u) : w.cell? ⟨bb, i, none⟩ = some u := by
  obtain ⟨a, cap, e1, _, hv, _⟩ := h.open
  rw [ev] at e1
  injection e1 with e1 _ _
  rcases hv with rfl | ⟨b, off, e2, hc⟩
  · simp at hu
  · rw [e2] at e1
    injection e1 with e1
    injection e1 with e1 e3
    subst e1 e3
    have := hc i u hu
    rwa [Nat.zero_add] at this
theorem ix_bk {b n c i : Nat} (h : i < n) (hn : n ≤ 9223372036854775807) (w : World) : (Instr.indexAt 29 (.slice (some ⟨b, 0, none⟩) n c) (.int .i64 (i : Int))).run Try.prog w = .ok (.pointer (some ⟨b, i, none⟩)) w := by go_simp
theorem ix_in {b n c i : Nat} (h : i < n) (hn : n ≤ 9223372036854775807) (w : World) : (Instr.indexAt 30 (.slice (some ⟨b, 0, none⟩) n c) (.int .i64 (i : Int))).run Try.prog w = .ok (.pointer (some ⟨b, i, none⟩)) w := by go_simp
def LastIs (p : Pl) (z : Int) : Prop := (z = -1 ∧ p.H = []) ∨ ∃ i : Nat, z = (i : Int) ∧ i < p.BL.length ∧ p.SL[i]? = some ((p.PL.length : Nat) : Int) ∧ 0 < p.PL.length
set_option maxRecDepth 100000 in
set_option maxHeartbeats 4000000 in
theorem last_any {B x t d m : Nat} {p : Pl} {g : Nat → Nat} {w : World} (h : PX B x t d m p g w) (hm : m ≤ 1300000000000) :
    Calls Try.prog 26 #[.pointer (some ⟨x, 0, none⟩)] w fun e w' => ∃ z, e = .returned (.int .i64 z) ∧ LastIs p z ∧ Below w.heap.size w w' := by
  have hmb := h.mb
  have hlen := h.ln.len
  obtain ⟨a, c, esv, hle, hv, _⟩ := h.ps.steps.open
  rw [List.length_map] at esv hle
  obtain ⟨n, hnn⟩ : ∃ n, p.SL.length = n := ⟨_, rfl⟩
  have HN := hidMk hnn
  have HLEN := hidMk hlen
  have hnb : n ≤ 1300000000000 := by omega
  rw [hnn] at esv
  have HE := hidMk esv
  have C3 : w.cell? ⟨x, 3, none⟩ = some (.slice a n c) := by rw [← esv, ← h.x]; exact cell_p3 h.ps.cell
  have C1 : w.cell? ⟨x, 1, none⟩ = some (.pointer (some ⟨d, 0, none⟩)) := by rw [← h.d, ← h.x]; exact cell_p1 h.ps.cell
  have lx : x < w.heap.size := by rw [← h.x]; exact (Array.getElem?_eq_some_iff.1 h.ps.cell).1
  have HC3 := hidMk (fun (W : World) (b : Below w.heap.size w W) => (b.cell (p := ⟨x, 3, none⟩) lx).trans C3)
  have HC1 := hidMk (fun (W : World) (b : Below w.heap.size w W) => (b.cell (p := ⟨x, 1, none⟩) lx).trans C1)
  have HS := hidMk (fun (W : World) (b : Below w.heap.size w W) => rsteps_any ((h.ps.below b).ref))
  rw [h.d] at HS
  have HV := hidMk (fun (W : World) (b : Below w.heap.size w W) (i : Nat) (z : Int) (hz : p.SL[i]? = some z) => show ∃ bb o, a = some ⟨bb, o, none⟩ ∧ W.cell? ⟨bb, o + i, none⟩ = some (.int .i64 z) by
    rcases hv.below b with e | ⟨bb, o, e, hc⟩
    · have q1 := congrArg List.length e; rw [List.length_map, List.length_nil] at q1; have q2 := (List.getElem?_eq_some_iff.1 hz).1; omega
    · exact ⟨bb, o, e, hc i _ (by rw [List.getElem?_map, hz]; rfl)⟩)
  have HK := hidMk h.ln
  clear hv esv hle hnn hlen hmb C3 C1 h hm
  go_enter Try.func26, Try.ntmps26
  go_wp2
  go_loopw [3] (fun v3 wr => ∃ i : Nat, v3 = .int .i64 (i : Int) ∧ i ≤ n ∧ (∀ j, j < i → p.SL[j]? ≠ some ((p.PL.length : Nat) : Int) ∨ p.PL.length = 0) ∧ Below w.heap.size w wr) (fun v3 wr => n - (match v3 with | .int _ i => i.toNat | _ => 0))
  case atStart => exact ⟨0, rfl, Nat.zero_le _, fun j hj => (by omega), Below.refl _ _⟩
  case round =>
    obtain ⟨i, rfl, hin, hbf, bel⟩ := hrel
    have HBF := hidMk hbf
    clear hbf
    have c3 := HC3.out wr bel
    by_cases hi : i < n
    · obtain ⟨z, hz⟩ : ∃ z, p.SL[i]? = some z := ⟨_, List.getElem?_eq_getElem (by have := HN.out; omega)⟩
      obtain ⟨bb, o, rfl, hcz⟩ := HV.out wr bel i z hz
      have HZ := hidMk hz
      clear hz hcz
      go_upto_region 4 with fail
      clear c3
      have beld : Below w.heap.size w wr.drew := bel.drew
      have ix : ∀ W, (Instr.indexAt 30 (.slice (some ⟨bb, o, none⟩) n c) (.int .i64 (i : Int))).run Try.prog W = .ok (.pointer (some ⟨bb, o + i, none⟩)) W := fun W => by go_simp
      have lz : ∀ W, Below w.heap.size w W → (Instr.loadAt 3 (.pointer (some ⟨bb, o + i, none⟩))).run Try.prog W = .ok (.int .i64 z) W := fun W b => by
        obtain ⟨b2, o2, e2, h2⟩ := HV.out W b i z HZ.out
        injection e2 with e2
        injection e2 with e2 e3
        subst e2 e3
        exact load_in h2
      by_cases hz : 0 < z
      · refine last4t (fun W => Below w.heap.size w W) x bb (o + i) (.slice (some ⟨bb, o, none⟩) n c) (.int .i64 (i : Int)) (.int .i64 z) (.pointer (some ⟨d, 0, none⟩)) (.int .i64 (p.PL.length : Int)) (decide (z = (p.PL.length : Int))) _ wr _ rfl rfl rfl beld ?_ ?_ ix lz ?_ ?_ ?_ ?_ ?_ ?_
        · intro W hW
          refine (HS.out W hW).mono ?_
          rintro e w' ⟨rfl, b⟩
          exact ⟨rfl, hW.trans (b.mono hW.size)⟩
        · exact fun W b => load_is (HC3.out W b)
        · exact fun W => by go_simp
        · exact fun W b => by go_simp
        · exact fun W b => load_dp (HC1.out W b)
        · exact fun W => by go_simp
        · exact fun W b => by
            go_simp
            rfl
        intro a' w' hw' ha
        subst ha
        simp only [Act.put, List.setIfInBounds_toArray, List.set_cons_zero, List.set_cons_succ]
        by_cases e : z = (p.PL.length : Int)
        · rw [decide_eq_true e]
          have hnl := HN.out
          have hz2 := HZ.out
          rw [e] at hz2
          have HQ := hidMk hz2
          have hpos : 0 < p.PL.length := by omega
          clear hz2 e hz ix lz HZ hnl
          go_wp2
          go_ret
          exact ⟨_, rfl, Or.inr ⟨i, rfl, by have := HLEN.out; have := HN.out; omega, HQ.out, hpos⟩, hw'⟩
        · rw [decide_eq_false e]
          have HE2 := hidMk e
          clear e hz ix lz
          go_wp2
          rw [show ((i : Int) + 1) = ((i + 1 : Nat) : Int) by omega]
          refine ⟨⟨i + 1, rfl, hi, fun j hj => ?_, hw'⟩, ?_⟩
          · by_cases ej : j = i
            · subst ej
              exact Or.inl (fun q => by rw [HZ.out] at q; exact HE2.out (Option.some.inj q))
            · exact HBF.out j (by omega)
          · show n - ((i + 1 : Nat) : Int).toNat < n - (i : Int).toNat
            omega
      · refine last4f (fun W => Below w.heap.size w W) x bb (o + i) (.slice (some ⟨bb, o, none⟩) n c) (.int .i64 (i : Int)) (.int .i64 z) _ wr _ rfl rfl rfl beld ?_ ix lz ?_ ?_ ?_
        · exact fun W b => load_is (HC3.out W b)
        · exact fun W => by go_simp
        · exact fun W b => by
            have hzf : decide (0 < z) = false := decide_eq_false hz
            go_simp
        intro a' w' hw' ha
        subst ha
        simp only [Act.put, List.setIfInBounds_toArray, List.set_cons_zero, List.set_cons_succ]
        have HZ2 := hidMk hz
        clear hz ix lz
        go_wp2
        rw [show ((i : Int) + 1) = ((i + 1 : Nat) : Int) by omega]
        refine ⟨⟨i + 1, rfl, hi, fun j hj => ?_, hw'⟩, ?_⟩
        · by_cases ej : j = i
          · subst ej
            by_cases e0 : p.PL.length = 0
            · exact Or.inr e0
            · exact Or.inl (fun q => by rw [HZ.out] at q; have q := Option.some.inj q; have := HZ2.out; omega)
          · exact HBF.out j (by omega)
        · show n - ((i + 1 : Nat) : Int).toNat < n - (i : Int).toNat
          omega
    · obtain rfl : i = n := by omega
      clear hi hin
      go_wp2
      go_ret
      refine ⟨_, rfl, Or.inl ⟨rfl, ?_⟩, bel⟩
      have hl := HK.out.len2
      cases hH : p.H with
      | nil => rfl
      | cons r t =>
        obtain ⟨j, hj⟩ := HK.out.all p.H.length (by rw [hH]; simp) (Nat.le_refl _)
        rw [hl] at hj
        rcases HBF.out j (by rw [← HN.out]; exact (List.getElem?_eq_some_iff.1 hj).1) with q | q
        · exact absurd hj q
        · rw [← hl, hH] at q; simp at q
end Go.Proofs.Ytoofljkgdjjllaa

namespace Go.Proofs.Ytoofljkgdjjllaa
open Go.RowKit
set_option linter.unusedVariables false
set_option linter.unusedSimpArgs false
set_option linter.unusedSectionVars false

def UPost (B x t d m : Nat) (p : Pl) (g : Nat → Nat) (w : World) (z : Int) (e : Ending) (w' : World) : Prop := e = .returned (.bool true) ∧ ∃ g' p', Ext w g g' ∧ Tch (Mut g) w w' ∧ PX B x t d m p' g' w' ∧ (z = -1 → p'.H.length = p.H.length - 1)
theorem UPost.same {B x t d m : Nat} {p : Pl} {g : Nat → Nat} {w w' : World} {z : Int} (h : PX B x t d m p g w) (b : Below w.heap.size w w') (hz : z = -1 → p.H = []) : UPost B x t d m p g w z (.returned (.bool true)) w' :=
  ⟨rfl, g, p, Ext.refl _ _, tch_below b, h.below b, fun e => by rw [hz e]; rfl⟩
theorem Tch.dr {O : Nat → Prop} {w w' : World} (h : Tch O w.drew w') : Tch O w w' := ((Tch.refl O w).drew).trans h
section
variable {B x t d m : Nat} {p : Pl} {g : Nat → Nat} {w : World}
theorem ps_rundo {q : Pl} (h : PS B g w q) (hB : B ≤ w.heap.size) {P : List (List RN)} {L : List RN} (hd : q.d = d) (hP : q.PL = P ++ [L]) (hn : P.length ≤ 1300000000000) :
    Calls Try.prog 72 #[.pointer (some ⟨d, 0, none⟩), .int .i64 ((q.PL.length : Nat) : Int)] w fun e w' => e = .returned (.int .i64 0) ∧ ∃ g' u vp' us0, Ext w g g' ∧ Tch (Mut g) w w' ∧ PS B g' w' { q with NL := L, PL := P, vn := u, vp := vp', us := us0 } := by
  have hr := h.ref
  rw [hP] at hr
  rw [← hd]
  have hl : q.PL.length = P.length + 1 := by rw [hP]; simp
  rw [hl]
  refine (rundo_ok hr hn).mono ?_
  rintro e w' ⟨rfl, u, vp', us0, hus, hr', t, hvp⟩
  obtain ⟨g', x1, x2, x3⟩ := h.refd hB hr' (t.mono fun j _ e => Or.inl e) (fun j hj => by
    rcases hj with q1 | q1 | q1 | ⟨i, v, hv, q1⟩
    · exact Or.inl (Or.inl q1)
    · exact Or.inl (Or.inr (Or.inr (Or.inr ⟨us0.length, u, by rw [hus]; simp, q1⟩)))
    · exact Or.inl (Or.inr (Or.inr (Or.inl (by rw [← hvp]; exact q1))))
    · exact Or.inl (Or.inr (Or.inr (Or.inr ⟨i, v, by rw [hus, List.getElem?_append_left (List.getElem?_eq_some_iff.1 hv).1]; exact hv, q1⟩))))
  exact ⟨rfl, g', u, vp', us0, x1, x2, x3⟩
end
set_option maxRecDepth 100000 in
set_option maxHeartbeats 4000000 in
theorem undo_out {B x t d m : Nat} {p : Pl} {g : Nat → Nat} {w : World} (h : PX B x t d m p g w) (hB : B ≤ w.heap.size) (hm : m ≤ 1300000000000) {z : Int} (hz1 : z ≠ -1) (hz : z < 0 ∨ (p.BL.length : Int) ≤ z) : Calls Try.prog 27 #[.pointer (some ⟨x, 0, none⟩), .int .i64 z] w (UPost B x t d m p g w z) := by
  obtain ⟨a, c, ebv, hle, _, _⟩ := h.ps.backs.open
  rw [List.length_map] at ebv hle
  obtain ⟨n, hnn⟩ : ∃ n, p.BL.length = n := ⟨_, rfl⟩
  have HN := hidMk hnn
  have hnb : n ≤ 1300000000000 := by have := h.mb; omega
  rw [hnn] at ebv
  have HBV := hidMk ebv
  clear ebv hle hnn hm hB
  have b1 : Below w.heap.size w w := Below.refl _ _
  have h1 := h
  have hz2 : z < 0 ∨ (n : Int) ≤ z := by have := HN.out; omega
  have HZ1 := hidMk hz1
  clear hz
  go_enter Try.func27, Try.ntmps27
  by_cases hneg : z < 0
  · clear hz2
    have c0 : w.cell? ⟨x, 0, none⟩ = some (.pointer (some ⟨t, 0, none⟩)) := by rw [← h1.t, ← h1.x]; exact cell_p0 h1.ps.cell
    have c2 : w.cell? ⟨x, 2, none⟩ = some (.slice a n c) := by rw [← HBV.out, ← h1.x]; exact cell_p2 h1.ps.cell
    have HU := hidMk (undo_none p.s p.H w h1.ps.own.tree)
    rw [h1.t] at HU
    go_wp2_with (first
      | (go_at_call 18; refine HU.out.mono ?_; rintro e w2 ⟨rfl, b2⟩; clear HU)
      | fail)
    go_ret
    exact UPost.same h (b1.trans (b2.mono b1.size)) (fun e => absurd e HZ1.out)
  · have hge : (n : Int) ≤ z := by omega
    clear hz2
    have c0 : w.cell? ⟨x, 0, none⟩ = some (.pointer (some ⟨t, 0, none⟩)) := by rw [← h1.t, ← h1.x]; exact cell_p0 h1.ps.cell
    have c2 : w.cell? ⟨x, 2, none⟩ = some (.slice a n c) := by rw [← HBV.out, ← h1.x]; exact cell_p2 h1.ps.cell
    have HU := hidMk (undo_none p.s p.H w h1.ps.own.tree)
    rw [h1.t] at HU
    go_wp2_with (first
      | (go_at_call 18; refine HU.out.mono ?_; rintro e w2 ⟨rfl, b2⟩; clear HU)
      | fail)
    go_ret
    exact UPost.same h (b1.trans (b2.mono b1.size)) (fun e => absurd e HZ1.out)
set_option maxRecDepth 100000 in
set_option maxHeartbeats 4000000 in
theorem undo_last_none {B x t d m : Nat} {p : Pl} {g : Nat → Nat} {w : World} (h : PX B x t d m p g w) (hB : B ≤ w.heap.size) (hm : m ≤ 1300000000000) (hH : p.H = []) : Calls Try.prog 27 #[.pointer (some ⟨x, 0, none⟩), .int .i64 (-1)] w (UPost B x t d m p g w (-1)) := by
  have HL := hidMk (last_any h hm)
  obtain ⟨a, c, ebv, hle, _, _⟩ := h.ps.backs.open
  rw [List.length_map] at ebv hle
  obtain ⟨n, hnn⟩ : ∃ n, p.BL.length = n := ⟨_, rfl⟩
  have HN := hidMk hnn
  have hnb : n ≤ 1300000000000 := by have := h.mb; omega
  rw [hnn] at ebv
  have HBV := hidMk ebv
  clear ebv hle hnn hm hB
  have HH := hidMk hH
  clear hH
  go_enter Try.func27, Try.ntmps27
  go_upto_region 3 with (first
    | (go_at_call 26; refine HL.out.mono ?_; rintro e w1 ⟨z, rfl, hz, b1⟩)
    | fail)
  have h1 := h.below b1
  rcases hz with ⟨rfl, _⟩ | ⟨i, rfl, _, hi, hpos⟩
  · clear HL
    have c0 : w1.cell? ⟨x, 0, none⟩ = some (.pointer (some ⟨t, 0, none⟩)) := by rw [← h1.t, ← h1.x]; exact cell_p0 h1.ps.cell
    have c2 : w1.cell? ⟨x, 2, none⟩ = some (.slice a n c) := by rw [← HBV.out, ← h1.x]; exact cell_p2 h1.ps.cell
    have HU := hidMk (undo_none p.s p.H w1 h1.ps.own.tree)
    rw [h1.t] at HU
    go_wp2_with (first
      | (go_at_call 18; refine HU.out.mono ?_; rintro e w2 ⟨rfl, b2⟩; clear HU)
      | fail)
    go_ret
    exact UPost.same h (b1.trans (b2.mono b1.size)) (fun _ => HH.out)
  · have := h.ln.len2
    rw [HH.out] at this
    simp at this
    omega
set_option maxRecDepth 100000 in
set_option maxHeartbeats 4000000 in
theorem undo_miss {B x t d m : Nat} {p : Pl} {g : Nat → Nat} {w : World} (h : PX B x t d m p g w) (hB : B ≤ w.heap.size) (hm : m ≤ 1300000000000) {i : Nat} (hi : i < p.BL.length) {b : Option Nat} {z : Int} (hb : p.BL[i]? = some b) (hz : p.SL[i]? = some z) (H1 : ∀ W, Below w.heap.size w W → Calls Try.prog 18 #[.pointer (some ⟨t, 0, none⟩), bkV b] W fun e w' => e = .returned (.int .i64 2) ∧ Below W.heap.size W w') (H2 : z < 1 ∨ z ≠ (p.PL.length : Int)) : Calls Try.prog 27 #[.pointer (some ⟨x, 0, none⟩), .int .i64 (i : Int)] w (UPost B x t d m p g w (i : Int)) := by
  have hmb := h.mb
  have hln := h.ln.len
  obtain ⟨bb, c, ebv⟩ := h.ps.backs.form (i := i) (by rw [List.length_map]; exact hi)
  obtain ⟨sb, sc, esv⟩ := h.ps.steps.form (i := i) (by rw [List.length_map]; omega)
  rw [List.length_map] at ebv esv
  obtain ⟨n, hnn⟩ : ∃ n, p.BL.length = n := ⟨_, rfl⟩
  have HN := hidMk hnn
  have hnb : n ≤ 1300000000000 := by omega
  have hin : i < n := by omega
  have hns : p.SL.length = n := by omega
  rw [hnn] at ebv
  rw [hns] at esv
  have HBV := hidMk ebv
  have HSV := hidMk esv
  have HC0 := hidMk (fun (W : World) (b : Below w.heap.size w W) => show W.cell? ⟨x, 0, none⟩ = some (.pointer (some ⟨t, 0, none⟩)) by rw [← h.t, ← h.x]; exact cell_p0 (h.ps.below b).cell)
  have HC1 := hidMk (fun (W : World) (b : Below w.heap.size w W) => show W.cell? ⟨x, 1, none⟩ = some (.pointer (some ⟨d, 0, none⟩)) by rw [← h.d, ← h.x]; exact cell_p1 (h.ps.below b).cell)
  have HC2 := hidMk (fun (W : World) (b : Below w.heap.size w W) => show W.cell? ⟨x, 2, none⟩ = some (.slice (some ⟨bb, 0, none⟩) n c) by rw [← ebv, ← h.x]; exact cell_p2 (h.ps.below b).cell)
  have HC3 := hidMk (fun (W : World) (b : Below w.heap.size w W) => show W.cell? ⟨x, 3, none⟩ = some (.slice (some ⟨sb, 0, none⟩) n sc) by rw [← esv, ← h.x]; exact cell_p3 (h.ps.below b).cell)
  have HCB := hidMk (fun (W : World) (bl : Below w.heap.size w W) => show W.cell? ⟨bb, i, none⟩ = some (bkV b) from (h.ps.below bl).backs.hit ebv (by rw [List.getElem?_map, hb]; rfl))
  have HCS := hidMk (fun (W : World) (bl : Below w.heap.size w W) => show W.cell? ⟨sb, i, none⟩ = some (.int .i64 z) from (h.ps.below bl).steps.hit esv (by rw [List.getElem?_map, hz]; rfl))
  have HU := hidMk H1
  have HR := hidMk (fun (W : World) (bl : Below w.heap.size w W) => rundo_no (h.ps.below bl).ref z H2)
  rw [h.d] at HR
  clear H1 H2 hb hz ebv esv hnn hns hln hmb hi hm hB
  have h1 := h
  have b1 : Below w.heap.size w w := Below.refl _ _
  have c2 : w.cell? ⟨x, 2, none⟩ = some (.slice (some ⟨bb, 0, none⟩) n c) := by rw [← HBV.out, ← h1.x]; exact cell_p2 h1.ps.cell
  go_enter Try.func27, Try.ntmps27
  go_upto_region 5 with fail
  clear c2
  have bd : Below w.heap.size w w.drew := (Below.refl _ _).drew
  refine undo5 (fun W => Below w.heap.size w W) (fun v W => v = .int .i64 2 ∧ Below w.heap.size w W) x bb i (.pointer (some ⟨t, 0, none⟩)) (.slice (some ⟨bb, 0, none⟩) n c) (.int .i64 (i : Int)) (bkV b) _ w _ rfl rfl rfl bd ?_ ?_ ?_ ?_ ?_ ?_
  · refine (HU.out _ bd).mono ?_
    rintro e w2 ⟨rfl, b2⟩
    exact ⟨_, rfl, bd.trans (b2.mono bd.size), rfl, bd.trans (b2.mono bd.size)⟩
  · exact fun W hW => load_tp (HC0.out W hW)
  · exact fun W hW => load_bs (HC2.out W hW)
  · exact fun W => ix_bk hin (by omega) W
  · exact fun W hW => load_bk (HCB.out W hW)
  rintro v a' w2 ⟨rfl, b2⟩ ha
  subst ha
  simp only [Act.put, List.setIfInBounds_toArray, List.set_cons_zero, List.set_cons_succ]
  go_upto_region 6 with fail
  have bd2 : Below w.heap.size w w2.drew := b2.drew
  refine undo6 (fun W => Below w.heap.size w W) (fun v W => v = .int .i64 2 ∧ Below w.heap.size w W) x sb i (.pointer (some ⟨d, 0, none⟩)) (.slice (some ⟨sb, 0, none⟩) n sc) (.int .i64 (i : Int)) (.int .i64 z) _ w2 _ rfl rfl rfl bd2 ?_ ?_ ?_ ?_ ?_ ?_
  · refine (HR.out _ bd2).mono ?_
    rintro e w3 ⟨rfl, b3⟩
    exact ⟨_, rfl, bd2.trans (b3.mono bd2.size), rfl, bd2.trans (b3.mono bd2.size)⟩
  · exact fun W hW => load_dp (HC1.out W hW)
  · exact fun W hW => load_is (HC3.out W hW)
  · exact fun W => ix_in hin (by omega) W
  · exact fun W hW => load_in (HCS.out W hW)
  rintro v a' w3 ⟨rfl, b3⟩ ha
  subst ha
  simp only [Act.put, List.setIfInBounds_toArray, List.set_cons_zero, List.set_cons_succ]
  go_wp2
  go_ret
  exact UPost.same h b3 (fun e => by omega)
section
variable {B x t d m : Nat} {p : Pl} {g : Nat → Nat} {w : World}
theorem hit_one (h : PX B x t d m p g w) (hB : B ≤ w.heap.size) {i : Nat} {r : Rec} {H' : List Rec} {P : List (List RN)} {L : List RN} (hH : p.H = r :: H') (hP : p.PL = P ++ [L]) (hz : p.SL[i]? = some ((p.PL.length : Nat) : Int)) :
    Calls Try.prog 18 #[.pointer (some ⟨t, 0, none⟩), bkV (some r.bk)] w fun e w' => e = .returned (.int .i64 0) ∧ ∃ g' s', s'.t = t ∧ Ext w g g' ∧ Tch (Mut g) w w' ∧ PS B g' w' { p with s := s', H := H', f := upd p.f r.k r.o } := by
  have ho := h.ps.own
  rw [hH] at ho
  obtain ⟨_, hF, _⟩ := h.ln.undone hH hP hz p.s p.vn p.vp p.us p.sv
  have := undo_all ho hB hF
  rw [h.t] at this
  refine this.mono ?_
  intro e w' hu
  obtain ⟨e1, g', s', e2, e3, e4, e5⟩ := h.ps.undone hB hH hu
  exact ⟨e1, g', s', by rw [e2, h.t], e3, e4, e5⟩
theorem hit_fin (h : PX B x t d m p g w) {i : Nat} {r : Rec} {H' : List Rec} {P : List (List RN)} {L : List RN} (hH : p.H = r :: H') (hP : p.PL = P ++ [L]) (hz : p.SL[i]? = some ((p.PL.length : Nat) : Int)) {s' : Tr} (ht : s'.t = t) {vn vp : Value} {us : List Value} {g' : Nat → Nat} {w' : World}
    (ps : PS B g' w' { p with s := s', H := H', f := upd p.f r.k r.o, NL := L, PL := P, vn := vn, vp := vp, us := us, SL := p.SL.set i 0 }) : PX B x t d m { p with s := s', H := H', f := upd p.f r.k r.o, NL := L, PL := P, vn := vn, vp := vp, us := us, SL := p.SL.set i 0 } g' w' := by
  have hl : p.PL.length = P.length + 1 := by rw [hP]; simp
  have hmp := h.mp
  exact ⟨h.x, ht, h.d, ps, (h.ln.undone hH hP hz s' vn vp us p.sv).1, h.mb, h.mq L (by rw [hP]; simp), by show P.length ≤ m; omega, fun Q hQ => h.mq Q (by rw [hP]; simp [show Q ∈ P from hQ])⟩
end
set_option maxRecDepth 100000 in
set_option maxHeartbeats 4000000 in
theorem undo_hit {B x t d m : Nat} {p : Pl} {g : Nat → Nat} {w : World} (h : PX B x t d m p g w) (hB : B ≤ w.heap.size) (hm : m ≤ 1300000000000) {i : Nat} (hi : i < p.BL.length) {r : Rec} {H' : List Rec} {P : List (List RN)} {L : List RN} (hH : p.H = r :: H') (hP : p.PL = P ++ [L]) (hz : p.SL[i]? = some ((p.PL.length : Nat) : Int)) : Calls Try.prog 27 #[.pointer (some ⟨x, 0, none⟩), .int .i64 (i : Int)] w (UPost B x t d m p g w (i : Int)) := by
  have hmb := h.mb
  have hln := h.ln.len
  obtain ⟨bb, c, ebv⟩ := h.ps.backs.form (i := i) (by rw [List.length_map]; exact hi)
  obtain ⟨sb, sc, esv⟩ := h.ps.steps.form (i := i) (by rw [List.length_map]; omega)
  rw [List.length_map] at ebv esv
  obtain ⟨n, hnn⟩ : ∃ n, p.BL.length = n := ⟨_, rfl⟩
  have HN := hidMk hnn
  have hnb : n ≤ 1300000000000 := by omega
  have hin : i < n := by omega
  have hns : p.SL.length = n := by omega
  rw [hnn] at ebv
  rw [hns] at esv
  have HBV := hidMk ebv
  have HSV := hidMk esv
  have HB0 := hidMk hB
  have HH := hidMk hH
  have HP := hidMk hP
  have HSI := hidMk hz
  have HBI := hidMk (h.ln.undone hH hP hz p.s p.vn p.vp p.us p.sv).2.2
  have HPn := hidMk (show P.length ≤ 1300000000000 by have := h.mp; rw [hP] at this; simp at this; omega)
  have HNS := hidMk hns
  clear hH hP hz hnn hns ebv esv hmb hln hi hB
  have h1 := h
  have b1 : Below w.heap.size w w := Below.refl _ _
  go_enter Try.func27, Try.ntmps27
  have c2 : w.cell? ⟨x, 2, none⟩ = some (.slice (some ⟨bb, 0, none⟩) n c) := by rw [← HBV.out, ← h1.x]; exact cell_p2 h1.ps.cell
  have HB1 := hidMk (show B ≤ w.heap.size from Nat.le_trans HB0.out b1.size)
  go_upto_region 5 with fail
  clear c2
  have hd1 := h1.below (Below.refl w.heap.size w).drew
  have hS : ∀ (g2 : Nat → Nat) (W : World) (q : Pl), PS B g2 W q → q.x = x → q.s.t = t → q.d = d → q.bv = p.bv → q.BL = p.BL → q.sv = p.sv → q.SL = p.SL → W.heap[x]? = some (.cells #[.pointer (some ⟨t, 0, none⟩), .pointer (some ⟨d, 0, none⟩), .slice (some ⟨bb, 0, none⟩) n c, .slice (some ⟨sb, 0, none⟩) n sc] 32 (0, 0)) ∧ W.cell? ⟨bb, i, none⟩ = some (bkV (some r.bk)) ∧ W.cell? ⟨sb, i, none⟩ = some (.int .i64 ((p.PL.length : Nat) : Int)) := by
    intro g2 W q hq q1 q2 q3 q4 q5 q6 q7
    refine ⟨?_, hq.backs.hit (by rw [q4]; exact HBV.out) (by rw [q5, List.getElem?_map, HBI.out]; rfl), hq.steps.hit (by rw [q6]; exact HSV.out) (by rw [q7, List.getElem?_map, HSI.out]; rfl)⟩
    rw [← q1, ← q2, ← q3, ← HBV.out, ← HSV.out, ← q4, ← q6]
    exact hq.cell
  refine undo5 (fun W => W.heap[x]? = some (.cells #[.pointer (some ⟨t, 0, none⟩), .pointer (some ⟨d, 0, none⟩), .slice (some ⟨bb, 0, none⟩) n c, .slice (some ⟨sb, 0, none⟩) n sc] 32 (0, 0)) ∧ W.cell? ⟨bb, i, none⟩ = some (bkV (some r.bk)) ∧ W.cell? ⟨sb, i, none⟩ = some (.int .i64 ((p.PL.length : Nat) : Int)))
    (fun v W => v = .int .i64 0 ∧ ∃ g' s', s'.t = t ∧ Ext w g g' ∧ Tch (Mut g) w W ∧ PS B g' W { p with s := s', H := H', f := upd p.f r.k r.o }) x bb i (.pointer (some ⟨t, 0, none⟩)) (.slice (some ⟨bb, 0, none⟩) n c) (.int .i64 (i : Int)) (bkV (some r.bk)) _ w _ rfl rfl rfl (hS _ _ _ hd1.ps hd1.x hd1.t hd1.d rfl rfl rfl rfl) ?_ ?_ ?_ ?_ ?_ ?_
  · refine (hit_one hd1 HB1.out HH.out HP.out HSI.out).mono ?_
    rintro e w2 ⟨rfl, g2, s', e2, e3, e4, e5⟩
    exact ⟨_, rfl, hS _ _ _ e5 hd1.x e2 hd1.d rfl rfl rfl rfl, rfl, g2, s', e2, e3, e4.dr, e5⟩
  · exact fun W hW => load_tp (cell_p0 hW.1)
  · exact fun W hW => load_bs (cell_p2 hW.1)
  · exact fun W => ix_bk hin (by omega) W
  · exact fun W hW => load_bk hW.2.1
  rintro v a' w2 ⟨rfl, g2, s', e2, e3, e4, e5⟩ ha
  subst ha
  simp only [Act.put, List.setIfInBounds_toArray, List.set_cons_zero, List.set_cons_succ]
  go_upto_region 6 with fail
  have hd2 : PS B g2 w2.drew { p with s := s', H := H', f := upd p.f r.k r.o } := e5.below (Below.refl w2.heap.size w2).drew
  refine undo6 (fun W => W.heap[x]? = some (.cells #[.pointer (some ⟨t, 0, none⟩), .pointer (some ⟨d, 0, none⟩), .slice (some ⟨bb, 0, none⟩) n c, .slice (some ⟨sb, 0, none⟩) n sc] 32 (0, 0)) ∧ W.cell? ⟨bb, i, none⟩ = some (bkV (some r.bk)) ∧ W.cell? ⟨sb, i, none⟩ = some (.int .i64 ((p.PL.length : Nat) : Int)))
    (fun v W => v = .int .i64 0 ∧ ∃ g' u vp' us0, Ext w2 g2 g' ∧ Tch (Mut g2) w2 W ∧ PS B g' W { p with s := s', H := H', f := upd p.f r.k r.o, NL := L, PL := P, vn := u, vp := vp', us := us0 }) x sb i (.pointer (some ⟨d, 0, none⟩)) (.slice (some ⟨sb, 0, none⟩) n sc) (.int .i64 (i : Int)) (.int .i64 ((p.PL.length : Nat) : Int)) _ w2 _ rfl rfl rfl (hS _ _ _ hd2 hd1.x e2 hd1.d rfl rfl rfl rfl) ?_ ?_ ?_ ?_ ?_ ?_
  · have hru := ps_rundo hd2 (show B ≤ w2.drew.heap.size from Nat.le_trans HB1.out e4.size) (P := P) (L := L) hd1.d HP.out HPn.out
    refine hru.mono ?_
    rintro e w3 ⟨rfl, g3, u, vp', us0, f1, f2, f3⟩
    exact ⟨_, rfl, hS _ _ _ f3 hd1.x e2 hd1.d rfl rfl rfl rfl, rfl, g3, u, vp', us0, f1, f2.dr, f3⟩
  · exact fun W hW => load_dp (cell_p1 hW.1)
  · exact fun W hW => load_is (cell_p3 hW.1)
  · exact fun W => ix_in hin (by omega) W
  · exact fun W hW => load_in hW.2.2
  rintro v a' w3 ⟨rfl, g3, u, vp', us0, f1, f2, f3⟩ ha
  subst ha
  simp only [Act.put, List.setIfInBounds_toArray, List.set_cons_zero, List.set_cons_succ]
  obtain ⟨gb, cc, q1, q2, g4, x1, x2, x3⟩ := steps_set f3 (Nat.le_trans HB1.out (Nat.le_trans e4.size f2.size)) (i := i) (by show i < p.SL.length; have := HNS.out; omega) 0
  have q1' : p.sv = .slice (some ⟨gb, 0, none⟩) p.SL.length cc := q1
  rw [HSV.out] at q1'
  injection q1' with q1' qa qb
  clear qa qb
  injection q1' with q1'
  injection q1' with q1'
  subst q1'
  have HST := hidMk q2
  have HL3 := hidMk (load_is (cell_p3 (hS _ _ _ f3 hd1.x e2 hd1.d rfl rfl rfl rfl).1))
  have HIX := hidMk (fun W => ix_in (b := sb) (c := sc) hin (show n ≤ 9223372036854775807 by omega) W)
  have T2 := hidMk (Tch.trans' (O' := Mut g2) e4 f2 (fun j hj q => by unfold Mut at q ⊢; rwa [e3 j hj] at q))
  have z2 := e4.size
  have z3 := f2.size
  have T3 := hidMk (Tch.trans' (O' := Mut g3) T2.out x2 (fun j hj q => by unfold Mut at q ⊢; rwa [f1 j (by omega), e3 j hj] at q))
  have EX := hidMk ((e3.trans f1 z2).trans x1 (by omega))
  have FIN := hidMk (hit_fin h1 HH.out HP.out HSI.out e2 x3)
  have CC1 := hidMk b1
  clear q1 q2 x1 x2 x3 f1 f2 f3 e3 e4 e5 hS hd1 hd2 z2 z3 b1
  go_wp2_with (first
    | (refine wpList_val rfl (exec_load (t := 30) (u := .pointer (some ⟨x, 3, none⟩)) rfl rfl HL3.out) ?_)
    | (refine wpList_val rfl (exec_indexAt (t := 30) (xv := .slice (some ⟨sb, 0, none⟩) n sc) rfl rfl rfl (HIX.out _)) ?_)
    | (refine wpList_skip rfl rfl (exec_store (t := 3) (xv := .pointer (some ⟨sb, i, none⟩)) (yv := .int .i64 0) rfl rfl rfl HST.out) ?_)
    | fail)
  go_ret
  refine ⟨rfl, g4, _, fun j hj => EX.out j (Nat.lt_of_lt_of_le hj CC1.out.size), Tch.trans (tch_below CC1.out) T3.out, FIN.out, ?_⟩
  intro e; omega
set_option maxRecDepth 100000 in
set_option maxHeartbeats 4000000 in
theorem undo_last {B x t d m : Nat} {p : Pl} {g : Nat → Nat} {w : World} (h : PX B x t d m p g w) (hB : B ≤ w.heap.size) (hm : m ≤ 1300000000000) {r : Rec} {H' : List Rec} {P : List (List RN)} {L : List RN} (hH : p.H = r :: H') (hP : p.PL = P ++ [L]) : Calls Try.prog 27 #[.pointer (some ⟨x, 0, none⟩), .int .i64 (-1)] w (UPost B x t d m p g w (-1)) := by
  have HL := hidMk (last_any h hm)
  have HHP := hidMk (And.intro hH hP)
  have HB00 := hidMk hB
  have HMM := hidMk hm
  clear hH hP hB hm
  go_enter Try.func27, Try.ntmps27
  go_upto_region 3 with (first
    | (go_at_call 26; refine HL.out.mono ?_; rintro e w1 ⟨z, rfl, hz, b1⟩)
    | fail)
  have h1 := h.below b1
  rcases hz with ⟨rfl, q⟩ | ⟨i, rfl, hi, hz, hpos⟩
  · rw [HHP.out.1] at q; cases q
  have hH := HHP.out.1
  have hP := HHP.out.2
  have hB := HB00.out
  have hm := HMM.out
  clear hpos HL
  have hmb := h.mb
  have hln := h.ln.len
  obtain ⟨bb, c, ebv⟩ := h.ps.backs.form (i := i) (by rw [List.length_map]; exact hi)
  obtain ⟨sb, sc, esv⟩ := h.ps.steps.form (i := i) (by rw [List.length_map]; omega)
  rw [List.length_map] at ebv esv
  obtain ⟨n, hnn⟩ : ∃ n, p.BL.length = n := ⟨_, rfl⟩
  have HN := hidMk hnn
  have hnb : n ≤ 1300000000000 := by omega
  have hin : i < n := by omega
  have hns : p.SL.length = n := by omega
  rw [hnn] at ebv
  rw [hns] at esv
  have HBV := hidMk ebv
  have HSV := hidMk esv
  have HB0 := hidMk hB
  have HH := hidMk hH
  have HP := hidMk hP
  have HSI := hidMk hz
  have HBI := hidMk (h.ln.undone hH hP hz p.s p.vn p.vp p.us p.sv).2.2
  have HPn := hidMk (show P.length ≤ 1300000000000 by have := h.mp; rw [hP] at this; simp at this; omega)
  have HNS := hidMk hns
  clear hH hP hz hnn hns ebv esv hmb hln hi hB
  have c2 : w1.cell? ⟨x, 2, none⟩ = some (.slice (some ⟨bb, 0, none⟩) n c) := by rw [← HBV.out, ← h1.x]; exact cell_p2 h1.ps.cell
  have HB1 := hidMk (show B ≤ w1.heap.size from Nat.le_trans HB0.out b1.size)
  go_upto_region 5 with fail
  clear c2
  have hd1 := h1.below (Below.refl w1.heap.size w1).drew
  have hS : ∀ (g2 : Nat → Nat) (W : World) (q : Pl), PS B g2 W q → q.x = x → q.s.t = t → q.d = d → q.bv = p.bv → q.BL = p.BL → q.sv = p.sv → q.SL = p.SL → W.heap[x]? = some (.cells #[.pointer (some ⟨t, 0, none⟩), .pointer (some ⟨d, 0, none⟩), .slice (some ⟨bb, 0, none⟩) n c, .slice (some ⟨sb, 0, none⟩) n sc] 32 (0, 0)) ∧ W.cell? ⟨bb, i, none⟩ = some (bkV (some r.bk)) ∧ W.cell? ⟨sb, i, none⟩ = some (.int .i64 ((p.PL.length : Nat) : Int)) := by
    intro g2 W q hq q1 q2 q3 q4 q5 q6 q7
    refine ⟨?_, hq.backs.hit (by rw [q4]; exact HBV.out) (by rw [q5, List.getElem?_map, HBI.out]; rfl), hq.steps.hit (by rw [q6]; exact HSV.out) (by rw [q7, List.getElem?_map, HSI.out]; rfl)⟩
    rw [← q1, ← q2, ← q3, ← HBV.out, ← HSV.out, ← q4, ← q6]
    exact hq.cell
  refine undo5 (fun W => W.heap[x]? = some (.cells #[.pointer (some ⟨t, 0, none⟩), .pointer (some ⟨d, 0, none⟩), .slice (some ⟨bb, 0, none⟩) n c, .slice (some ⟨sb, 0, none⟩) n sc] 32 (0, 0)) ∧ W.cell? ⟨bb, i, none⟩ = some (bkV (some r.bk)) ∧ W.cell? ⟨sb, i, none⟩ = some (.int .i64 ((p.PL.length : Nat) : Int)))
    (fun v W => v = .int .i64 0 ∧ ∃ g' s', s'.t = t ∧ Ext w1 g g' ∧ Tch (Mut g) w1 W ∧ PS B g' W { p with s := s', H := H', f := upd p.f r.k r.o }) x bb i (.pointer (some ⟨t, 0, none⟩)) (.slice (some ⟨bb, 0, none⟩) n c) (.int .i64 (i : Int)) (bkV (some r.bk)) _ w1 _ rfl rfl rfl (hS _ _ _ hd1.ps hd1.x hd1.t hd1.d rfl rfl rfl rfl) ?_ ?_ ?_ ?_ ?_ ?_
  · refine (hit_one hd1 HB1.out HH.out HP.out HSI.out).mono ?_
    rintro e w2 ⟨rfl, g2, s', e2, e3, e4, e5⟩
    exact ⟨_, rfl, hS _ _ _ e5 hd1.x e2 hd1.d rfl rfl rfl rfl, rfl, g2, s', e2, e3, e4.dr, e5⟩
  · exact fun W hW => load_tp (cell_p0 hW.1)
  · exact fun W hW => load_bs (cell_p2 hW.1)
  · exact fun W => ix_bk hin (by omega) W
  · exact fun W hW => load_bk hW.2.1
  rintro v a' w2 ⟨rfl, g2, s', e2, e3, e4, e5⟩ ha
  subst ha
  simp only [Act.put, List.setIfInBounds_toArray, List.set_cons_zero, List.set_cons_succ]
  go_upto_region 6 with fail
  have hd2 : PS B g2 w2.drew { p with s := s', H := H', f := upd p.f r.k r.o } := e5.below (Below.refl w2.heap.size w2).drew
  refine undo6 (fun W => W.heap[x]? = some (.cells #[.pointer (some ⟨t, 0, none⟩), .pointer (some ⟨d, 0, none⟩), .slice (some ⟨bb, 0, none⟩) n c, .slice (some ⟨sb, 0, none⟩) n sc] 32 (0, 0)) ∧ W.cell? ⟨bb, i, none⟩ = some (bkV (some r.bk)) ∧ W.cell? ⟨sb, i, none⟩ = some (.int .i64 ((p.PL.length : Nat) : Int)))
    (fun v W => v = .int .i64 0 ∧ ∃ g' u vp' us0, Ext w2 g2 g' ∧ Tch (Mut g2) w2 W ∧ PS B g' W { p with s := s', H := H', f := upd p.f r.k r.o, NL := L, PL := P, vn := u, vp := vp', us := us0 }) x sb i (.pointer (some ⟨d, 0, none⟩)) (.slice (some ⟨sb, 0, none⟩) n sc) (.int .i64 (i : Int)) (.int .i64 ((p.PL.length : Nat) : Int)) _ w2 _ rfl rfl rfl (hS _ _ _ hd2 hd1.x e2 hd1.d rfl rfl rfl rfl) ?_ ?_ ?_ ?_ ?_ ?_
  · have hru := ps_rundo hd2 (show B ≤ w2.drew.heap.size from Nat.le_trans HB1.out e4.size) (P := P) (L := L) hd1.d HP.out HPn.out
    refine hru.mono ?_
    rintro e w3 ⟨rfl, g3, u, vp', us0, f1, f2, f3⟩
    exact ⟨_, rfl, hS _ _ _ f3 hd1.x e2 hd1.d rfl rfl rfl rfl, rfl, g3, u, vp', us0, f1, f2.dr, f3⟩
  · exact fun W hW => load_dp (cell_p1 hW.1)
  · exact fun W hW => load_is (cell_p3 hW.1)
  · exact fun W => ix_in hin (by omega) W
  · exact fun W hW => load_in hW.2.2
  rintro v a' w3 ⟨rfl, g3, u, vp', us0, f1, f2, f3⟩ ha
  subst ha
  simp only [Act.put, List.setIfInBounds_toArray, List.set_cons_zero, List.set_cons_succ]
  obtain ⟨gb, cc, q1, q2, g4, x1, x2, x3⟩ := steps_set f3 (Nat.le_trans HB1.out (Nat.le_trans e4.size f2.size)) (i := i) (by show i < p.SL.length; have := HNS.out; omega) 0
  have q1' : p.sv = .slice (some ⟨gb, 0, none⟩) p.SL.length cc := q1
  rw [HSV.out] at q1'
  injection q1' with q1' qa qb
  clear qa qb
  injection q1' with q1'
  injection q1' with q1'
  subst q1'
  have HST := hidMk q2
  have HL3 := hidMk (load_is (cell_p3 (hS _ _ _ f3 hd1.x e2 hd1.d rfl rfl rfl rfl).1))
  have HIX := hidMk (fun W => ix_in (b := sb) (c := sc) hin (show n ≤ 9223372036854775807 by omega) W)
  have T2 := hidMk (Tch.trans' (O' := Mut g2) e4 f2 (fun j hj q => by unfold Mut at q ⊢; rwa [e3 j hj] at q))
  have z2 := e4.size
  have z3 := f2.size
  have T3 := hidMk (Tch.trans' (O' := Mut g3) T2.out x2 (fun j hj q => by unfold Mut at q ⊢; rwa [f1 j (by omega), e3 j hj] at q))
  have EX := hidMk ((e3.trans f1 z2).trans x1 (by omega))
  have FIN := hidMk (hit_fin h1 HH.out HP.out HSI.out e2 x3)
  have CC1 := hidMk b1
  clear q1 q2 x1 x2 x3 f1 f2 f3 e3 e4 e5 hS hd1 hd2 z2 z3 b1
  go_wp2_with (first
    | (refine wpList_val rfl (exec_load (t := 30) (u := .pointer (some ⟨x, 3, none⟩)) rfl rfl HL3.out) ?_)
    | (refine wpList_val rfl (exec_indexAt (t := 30) (xv := .slice (some ⟨sb, 0, none⟩) n sc) rfl rfl rfl (HIX.out _)) ?_)
    | (refine wpList_skip rfl rfl (exec_store (t := 3) (xv := .pointer (some ⟨sb, i, none⟩)) (yv := .int .i64 0) rfl rfl rfl HST.out) ?_)
    | fail)
  go_ret
  refine ⟨rfl, g4, _, fun j hj => EX.out j (Nat.lt_of_lt_of_le hj CC1.out.size), Tch.trans (tch_below CC1.out) T3.out, FIN.out, ?_⟩
  intro _; rw [HH.out]; rfl
theorem undo_any {B x t d m : Nat} {p : Pl} {g : Nat → Nat} {w : World} (h : PX B x t d m p g w) (hB : B ≤ w.heap.size) (hm : m ≤ 1300000000000) (z : Int) : Calls Try.prog 27 #[.pointer (some ⟨x, 0, none⟩), .int .i64 z] w (UPost B x t d m p g w z) := by
  by_cases hz : z = -1
  · subst hz
    cases hH : p.H with
    | nil => exact undo_last_none h hB hm hH
    | cons r H' =>
      have hh := h.ln.hm
      rw [hH] at hh
      obtain ⟨P, L, e, _⟩ := hh.front
      exact undo_last h hB hm hH e
  · by_cases ho : z < 0 ∨ (p.BL.length : Int) ≤ z
    · exact undo_out h hB hm hz ho
    · obtain ⟨i, rfl⟩ : ∃ i : Nat, z = (i : Int) := ⟨z.toNat, by omega⟩
      have hi : i < p.BL.length := by omega
      rcases h.ln.meets hi with ⟨h1, h2⟩ | ⟨b, z, h1, h2, h3, h4⟩ | ⟨r, H', P, L, h1, h2, h3, h4⟩
      · refine undo_miss h hB hm hi h2 h1 (fun W b => ?_) (Or.inl (by decide))
        rw [← h.t]
        exact undo_none p.s p.H W (h.below b).ps.own.tree
      · refine undo_miss h hB hm hi h2 h1 (fun W bl => ?_) h4
        rw [← h.t]
        obtain ⟨_, c, hc⟩ := (h.below bl).ps.bk b (List.mem_of_getElem? h2)
        exact undo_no p.s p.H b c W (h.below bl).ps.own.tree hc h3
      · exact undo_hit h hB hm hi h1 h2 h3
end Go.Proofs.Ytoofljkgdjjllaa

namespace Go.Proofs.Ytoofljkgdjjllaa
open Go.RowKit
set_option linter.unusedVariables false
set_option linter.unusedSimpArgs false
set_option linter.unusedSectionVars false

def SPost (B x t d m : Nat) (g : Nat → Nat) (w : World) (e : Ending) (w' : World) : Prop := e = .returned (.bool true) ∧ ∃ g' p', Ext w g g' ∧ Tch (Mut g) w w' ∧ PX B x t d (m + 1) p' g' w'
section
variable {B x t d m : Nat} {p : Pl} {g : Nat → Nat} {w : World}
theorem ps_tree_no (h : PX B x t d m p g w) {k : IdK} {n : NodeV} {c : Int} (hc : c ≠ 0) {F : Nat} {args : Array Value} (hC : Calls Try.prog F args w (StepP B w p.s p.H p.f k n c)) :
    Calls Try.prog F args w fun e w' => e = .returned (.tuple #[.pointer none, .int .i64 c]) ∧ Below w.heap.size w w' := by
  refine hC.mono ?_
  rintro e w' (⟨_, h1, h2⟩ | ⟨h1, _⟩)
  · exact ⟨h1, h2⟩
  · exact absurd h1 hc
theorem ps_ref_no {NL : List RN} {PL : List (List RN)} {vn vp : Value} {us : List Value} {k : IdK} {n : NodeV} {c : Int} (hc : c ≠ 0) {F : Nat} {args : Array Value} (hC : Calls Try.prog F args w (RStep B w d NL PL vn vp us k n c)) :
    Calls Try.prog F args w fun e w' => e = .returned (.int .i64 c) ∧ Below w.heap.size w w' := by
  refine hC.mono ?_
  rintro e w' (⟨_, h1, h2⟩ | ⟨h1, _⟩)
  · exact ⟨h1, h2⟩
  · exact absurd h1 hc
theorem ps_tree_ok (h : PX B x t d m p g w) (hB : B ≤ w.heap.size) {k : IdK} {n : NodeV} {c : Int} (hc : c = 0) {F : Nat} {args : Array Value} (hC : Calls Try.prog F args w (StepP B w p.s p.H p.f k n c)) :
    Calls Try.prog F args w fun e w' => ∃ g' s' r, e = .returned (.tuple #[.pointer (some ⟨r.bk, 0, none⟩), .int .i64 0]) ∧ s'.t = t ∧ r.k = k ∧ r.o = p.f k ∧ w.heap.size ≤ r.bk ∧ Ext w g g' ∧ Tch (Mut g) w w' ∧ PS B g' w' { p with s := s', H := r :: p.H, f := upd p.f k (some n) } := by
  refine hC.mono ?_
  rintro e w' (⟨h1, _⟩ | ⟨_, s', r, hd⟩)
  · exact absurd hc h1
  · obtain ⟨g', h1, h2, h3, h4⟩ := h.ps.done hB hd
    exact ⟨g', s', r, hd.ret, by rw [hd.t, h.t], hd.rk, hd.ro, h4, h1, h2, h3⟩
theorem ps_ref_ok {q : Pl} (h : PS B g w q) (hB : B ≤ w.heap.size) {k : IdK} {n : NodeV} {c : Int} (hc : c = 0) {F : Nat} {args : Array Value} (hC : Calls Try.prog F args w (RStep B w q.d q.NL q.PL q.vn q.vp q.us k n c)) :
    Calls Try.prog F args w fun e w' => e = .returned (.int .i64 0) ∧ ∃ g' vn vp us, Ext w g g' ∧ Tch (Mut g) w w' ∧ PS B g' w' { q with NL := M.put q.NL k n, PL := q.PL ++ [q.NL], vn := vn, vp := vp, us := us } := by
  refine hC.mono ?_
  rintro e w' (⟨h1, _⟩ | ⟨_, he, vn, vp, us, h1, h2, h3⟩)
  · exact absurd hc h1
  · obtain ⟨g', x1, x2, x3⟩ := h.refd hB h1 h2 h3
    exact ⟨he, g', vn, vp, us, x1, x2, x3⟩
theorem lists_no (h : PX B x t d m p g w) (hB : B ≤ w.heap.size) (hm : m + 1 ≤ 1300000000000) :
    ∃ (lv qv lv2 qv2 : Value) (w1 w2 w3 w4 w5 w6 : World), (Instr.buildSlice 29 1 #[(0, .pointer none)]).run Try.prog w = .ok lv w1 ∧ (Builtin.append_ #[29, 29] 29 #[p.bv, lv]).run Try.prog w1 = .ok qv w2 ∧ (Instr.storeAt 29 (.pointer (some ⟨x, 2, none⟩)) qv).run Try.prog w2 = .ok () w3 ∧
      (Instr.loadAt 30 (.pointer (some ⟨x, 3, none⟩))).run Try.prog w3 = .ok p.sv w3 ∧ (Instr.buildSlice 30 1 #[(0, .int .i64 0)]).run Try.prog w3 = .ok lv2 w4 ∧ (Builtin.append_ #[30, 30] 30 #[p.sv, lv2]).run Try.prog w4 = .ok qv2 w5 ∧ (Instr.storeAt 30 (.pointer (some ⟨x, 3, none⟩)) qv2).run Try.prog w5 = .ok () w6 ∧ SPost B x t d m g w (.returned (.bool true)) w6 := by
  have hmb := h.mb
  have hln := h.ln.len
  obtain ⟨lv, qv, w1, w2, w3, e1, e2, e3, g1, x1, x2, x3⟩ := backs_runs h.ps hB (by omega) none (fun c hc => by cases hc)
  have hB3 : B ≤ w3.heap.size := Nat.le_trans hB x2.size
  obtain ⟨lv2, qv2, w4, w5, w6, e4, e5, e6, g2, y1, y2, y3⟩ := steps_runs x3 hB3 (by show p.SL.length ≤ _; omega) 0
  have hld := load_is (cell_p3 x3.cell)
  have hpx := h.x
  simp only at e6 hld e5
  rw [hpx] at e3 e6 hld
  refine ⟨lv, qv, lv2, qv2, w1, w2, w3, w4, w5, w6, e1, e2, e3, hld, e4, e5, e6, rfl, g2, { p with bv := qv, BL := p.BL ++ [none], sv := qv2, SL := p.SL ++ [0] }, x1.trans y1 x2.size, mut_ext x1 x2 y2, h.x, h.t, h.d, y3, h.ln.refused qv qv2, by simp; omega, Nat.le_succ_of_le h.mn, Nat.le_succ_of_le h.mp, fun P hP => Nat.le_succ_of_le (h.mq P hP)⟩
theorem put_len_le (NL : List RN) (k : IdK) (n : NodeV) : (M.put NL k n).length ≤ NL.length + 1 := by
  rw [M.put_len]; split <;> omega
theorem lists_ok {w0 : World} {g0 : Nat → Nat} (h : PX B x t d m p g0 w0) (hB : B ≤ w.heap.size) (hm : m + 1 ≤ 1300000000000) {s' : Tr} {r : Rec} {k : IdK} {n : NodeV} {vn vp : Value} {us : List Value} (ht : s'.t = t) (rk : r.k = k) (ro : r.o = p.f k) (hrb : w0.heap.size ≤ r.bk) (ex : Ext w0 g0 g) (tc : Tch (Mut g0) w0 w)
    (ps : PS B g w { p with s := s', H := r :: p.H, f := upd p.f k (some n), NL := M.put p.NL k n, PL := p.PL ++ [p.NL], vn := vn, vp := vp, us := us }) :
    ∃ (lv qv lv2 qv2 : Value) (w1 w2 w3 w4 w5 w6 : World), (Instr.buildSlice 29 1 #[(0, .pointer (some ⟨r.bk, 0, none⟩))]).run Try.prog w = .ok lv w1 ∧ (Builtin.append_ #[29, 29] 29 #[p.bv, lv]).run Try.prog w1 = .ok qv w2 ∧ (Instr.storeAt 29 (.pointer (some ⟨x, 2, none⟩)) qv).run Try.prog w2 = .ok () w3 ∧
      (Instr.loadAt 30 (.pointer (some ⟨x, 3, none⟩))).run Try.prog w3 = .ok p.sv w3 ∧ (Instr.buildSlice 30 1 #[(0, .int .i64 ((p.PL.length + 1 : Nat) : Int))]).run Try.prog w3 = .ok lv2 w4 ∧ (Builtin.append_ #[30, 30] 30 #[p.sv, lv2]).run Try.prog w4 = .ok qv2 w5 ∧ (Instr.storeAt 30 (.pointer (some ⟨x, 3, none⟩)) qv2).run Try.prog w5 = .ok () w6 ∧ SPost B x t d m g0 w0 (.returned (.bool true)) w6 := by
  have hmb := h.mb
  have hmn := h.mn
  have hmp := h.mp
  have hln := h.ln.len
  have hpl := put_len_le p.NL k n
  have hbk : ∃ q, w.heap[r.bk]? = some (.cells q 103 (0, 0)) := Hist.back ps.own.tree.hist.1
  obtain ⟨lv, qv, w1, w2, w3, e1, e2, e3, g1, x1, x2, x3⟩ := backs_runs ps hB (by show p.BL.length ≤ _; omega) (some r.bk) (fun c hc => by
    cases hc
    exact ⟨ps.g2 r (List.mem_cons_self ..) r.bk (by simp [Rec.bl]), hbk⟩)
  have hB3 : B ≤ w3.heap.size := Nat.le_trans hB x2.size
  obtain ⟨lv2, qv2, w4, w5, w6, e4, e5, e6, g2, y1, y2, y3⟩ := steps_runs x3 hB3 (by show p.SL.length ≤ _; omega) ((p.PL.length + 1 : Nat) : Int)
  have hld := load_is (cell_p3 x3.cell)
  have hpx := h.x
  simp only at e6 hld e5 e3 e2
  rw [hpx] at e3 e6 hld
  have old : ∀ q ∈ p.H, q.bk ≠ r.bk := fun q hq e => by
    have := h.ps.own.tree.hist.lt q hq q.bk (by simp [Rec.bl])
    omega
  have old2 : ∀ b, some b ∈ p.BL → b ≠ r.bk := fun b hb e => by
    obtain ⟨_, c, hc⟩ := h.ps.bk b hb
    have := (Array.getElem?_eq_some_iff.1 hc).1
    omega
  have hL := h.ln.done h.ps.own.ft (n := n) (s' := s') rk ro h.ps.ref.nd old old2 vn vp us qv qv2
  refine ⟨lv, qv, lv2, qv2, w1, w2, w3, w4, w5, w6, e1, e2, e3, hld, e4, e5, e6, rfl, g2, { p with s := s', H := r :: p.H, f := upd p.f k (some n), NL := M.put p.NL k n, PL := p.PL ++ [p.NL], vn := vn, vp := vp, us := us, bv := qv, BL := p.BL ++ [some r.bk], sv := qv2, SL := p.SL ++ [((p.PL.length + 1 : Nat) : Int)] }, (ex.trans x1 tc.size).trans y1 (Nat.le_trans tc.size x2.size), mut_ext ex tc (mut_ext x1 x2 y2), h.x, ht, h.d, y3, hL, by simp; omega, by show (M.put p.NL k n).length ≤ m + 1; omega, by simp; omega, fun P hP => ?_⟩
  rcases List.mem_append.1 hP with q | q
  · exact Nat.le_succ_of_le (h.mq P q)
  · simp at q; subst q; omega
end
theorem op_box (w : World) (o : OpV) : (w.alloc (.cells o.c.toArray 39)).heap[w.heap.size]? = some (.cells o.c.toArray 39 (0, 0)) ∧ Below w.heap.size w (w.alloc (.cells o.c.toArray 39)) ∧ (w.alloc (.cells o.c.toArray 39)).heap.size = w.heap.size + 1 := ⟨heap_alloc_new _ _, (Below.refl _ _).alloc (Nat.le_refl _) _, by simp⟩
theorem op_range {w : World} {b : Nat} {o : OpV} (h : w.heap[b]? = some (.cells o.c.toArray 39 (0, 0))) : w.rangeAt b 0 o.c := cells_range h
set_option maxRecDepth 100000 in
set_option maxHeartbeats 4000000 in
theorem step_grow_no {B x t d m : Nat} {p : Pl} {g : Nat → Nat} {w : World} (h : PX B x t d m p g w) (hB : B ≤ w.heap.size) (hm : m + 1 ≤ 1300000000000) (o : OpV) (ok : o.ok) (hk : o.kind = 0) (hc : gC p.f o.id o.under ≠ 0) : Calls Try.prog 12 #[.pointer (some ⟨x, 0, none⟩), .agg o.c.toArray] w (SPost B x t d m g w) := by
  have HE := hidMk h.ln.eq
  have HNL := hidMk (show p.NL.length ≤ 1300000000000 by have := h.mn; omega)
  have HPL := hidMk (show p.PL.length ≤ 1300000000000 by have := h.mp; omega)
  have HB0 := hidMk hB
  have HM := hidMk hm
  have HC := hidMk hc
  obtain ⟨c, hcc⟩ : ∃ c, gC p.f o.id o.under = c := ⟨_, rfl⟩
  have HCC := hidMk hcc
  have hc0 : ¬ c = 0 := by rw [← hcc]; exact hc
  clear hcc hc hB hm
  go_enter Try.func12, Try.ntmps12
  go_upto_region 3 with fail
  obtain ⟨hbo, bx, zx⟩ := op_box w o
  generalize w.alloc (.cells o.c.toArray 39) = W at *
  have lbo : w.heap.size < W.heap.size := by omega
  have ck : W.cell? ⟨w.heap.size, 0, none⟩ = some (.int .i64 o.kind) := op_range hbo 0 _ rfl
  clear zx
  obtain ⟨bo, hbb⟩ : ∃ bo, w.heap.size = bo := ⟨_, rfl⟩
  have HBB := hidMk hbb
  rw [hbb] at hbo ck lbo ⊢
  clear hbb
  rw [hk] at ck
  have hW := h.below bx
  have HB1 := hidMk (show B ≤ W.heap.size from Nat.le_trans HB0.out bx.size)
  clear hk
  go_upto_region 6 with fail
  clear ck
  have bd : Below W.heap.size W W.drew := (Below.refl _ _).drew
  have hS : ∀ V, Below W.heap.size W V → (fun V => V.heap[x]? = some (.cells #[.pointer (some ⟨t, 0, none⟩), .pointer (some ⟨d, 0, none⟩), p.bv, p.sv] 32 (0, 0)) ∧ V.heap[bo]? = some (.cells o.c.toArray 39 (0, 0))) V := fun V b => ⟨by rw [← h.x, ← h.t, ← h.d]; exact (hW.below b).ps.cell, (b.block _ lbo).trans hbo⟩
  refine step6 (fun V => V.heap[x]? = some (.cells #[.pointer (some ⟨t, 0, none⟩), .pointer (some ⟨d, 0, none⟩), p.bv, p.sv] 32 (0, 0)) ∧ V.heap[bo]? = some (.cells o.c.toArray 39 (0, 0))) (fun tv v V => tv = .pointer none ∧ v = .int .i64 c ∧ Below W.heap.size W V) x bo (.pointer (some ⟨t, 0, none⟩)) o.id.v o.under.v (.string o.key) _ W _ rfl rfl rfl (hS _ bd) ?_ ?_ ?_ ?_ ?_ ?_
  · have hcall := ps_tree_no (hW.below bd) HC.out (grow_all (hW.below bd).ps.own HB1.out o.id o.under o.key ok.id ok.under)
    rw [h.t, HCC.out] at hcall
    refine hcall.mono ?_
    rintro e w2 ⟨rfl, b2⟩
    exact ⟨_, _, rfl, hS _ (bd.trans (b2.mono bd.size)), rfl, rfl, bd.trans (b2.mono bd.size)⟩
  · exact fun V hV => load_tp (cell_p0 hV.1)
  · exact fun V hV => op_id ok (op_range hV.2)
  · exact fun V hV => op_under ok (op_range hV.2)
  · exact fun V hV => op_key ok (op_range hV.2)
  rintro tv v a' w2 ⟨rfl, rfl, b2⟩ ha
  subst ha
  simp only [Act.put, List.setIfInBounds_toArray, List.set_cons_zero, List.set_cons_succ]
  go_upto_region 7 with fail
  have bd2 : Below W.heap.size W w2.drew := b2.drew
  refine step7 (fun V => V.heap[x]? = some (.cells #[.pointer (some ⟨t, 0, none⟩), .pointer (some ⟨d, 0, none⟩), p.bv, p.sv] 32 (0, 0)) ∧ V.heap[bo]? = some (.cells o.c.toArray 39 (0, 0))) (fun v V => v = .int .i64 c ∧ Below W.heap.size W V) x bo (.pointer (some ⟨d, 0, none⟩)) o.id.v o.under.v (.string o.key) _ w2 _ rfl rfl rfl (hS _ bd2) ?_ ?_ ?_ ?_ ?_ ?_
  · have hr := (hW.below bd2).ps.ref
    have hcall := ps_ref_no (c := gC (lookN p.NL) o.id o.under) (by rw [HE.out]; exact HC.out) (rgrow_all hr (Nat.le_trans HB1.out bd2.size) HNL.out HPL.out o.id ok.id o.under o.key ok.under)
    rw [h.d, HE.out, HCC.out] at hcall
    refine hcall.mono ?_
    rintro e w3 ⟨rfl, b3⟩
    exact ⟨_, rfl, hS _ (bd2.trans (b3.mono bd2.size)), rfl, bd2.trans (b3.mono bd2.size)⟩
  · exact fun V hV => load_dp (cell_p1 hV.1)
  · exact fun V hV => op_id ok (op_range hV.2)
  · exact fun V hV => op_under ok (op_range hV.2)
  · exact fun V hV => op_key ok (op_range hV.2)
  rintro v a' w3 ⟨rfl, b3⟩ ha
  subst ha
  simp only [Act.put, List.setIfInBounds_toArray, List.set_cons_zero, List.set_cons_succ]
  have b03 := bx.trans (b3.mono bx.size)
  obtain ⟨lv, qv, lv2, qv2, w4, w5, w6, w7, w8, w9, e1, e2, e3, e4, e5, e6, e7, fin⟩ := lists_no (h.below b03) (Nat.le_trans HB0.out b03.size) HM.out
  have E0 := hidMk (load_bs (cell_p2 (hS _ b3).1))
  have E1 := hidMk e1
  have E2 := hidMk e2
  have E3 := hidMk e3
  have E4 := hidMk e4
  have E5 := hidMk e5
  have E6 := hidMk e6
  have E7 := hidMk e7
  have FIN := hidMk fin
  have B03 := hidMk b03
  clear e1 e2 e3 e4 e5 e6 e7 fin b03 hS b3 b2 bd bd2
  generalize p.bv = bv at *
  generalize p.sv = sv at *
  go_wp2_with (first
    | (refine wpList_val rfl (exec_load (t := 29) (u := .pointer (some ⟨x, 2, none⟩)) rfl rfl E0.out) ?_)
    | (refine wpList_run rfl (exec_buildSlice (t := 29) (n := 1) (xv := .pointer none) (v := lv) rfl rfl E1.out) ?_)
    | (refine wpList_run rfl (exec_append (ts := #[29, 29]) (xv := bv) (yv := lv) (v := qv) rfl rfl rfl E2.out) ?_)
    | (refine wpList_skip rfl rfl (exec_store (t := 29) (xv := .pointer (some ⟨x, 2, none⟩)) (yv := qv) rfl rfl rfl E3.out) ?_)
    | (refine wpList_val rfl (exec_load (t := 30) (u := .pointer (some ⟨x, 3, none⟩)) rfl rfl E4.out) ?_)
    | (refine wpList_run rfl (exec_buildSlice (t := 30) (n := 1) (xv := .int .i64 0) (v := lv2) rfl rfl E5.out) ?_)
    | (refine wpList_run rfl (exec_append (ts := #[30, 30]) (xv := sv) (yv := lv2) (v := qv2) rfl rfl rfl E6.out) ?_)
    | (refine wpList_skip rfl rfl (exec_store (t := 30) (xv := .pointer (some ⟨x, 3, none⟩)) (yv := qv2) rfl rfl rfl E7.out) ?_)
    | fail)
  go_ret
  obtain ⟨_, g', p', f1, f2, f3⟩ := FIN.out
  exact ⟨rfl, g', p', fun j hj => f1 j (Nat.lt_of_lt_of_le hj B03.out.size), Tch.trans (tch_below B03.out) f2, f3⟩
set_option maxRecDepth 100000 in
set_option maxHeartbeats 4000000 in
theorem step_grow_ok {B x t d m : Nat} {p : Pl} {g : Nat → Nat} {w : World} (h : PX B x t d m p g w) (hB : B ≤ w.heap.size) (hm : m + 1 ≤ 1300000000000) (o : OpV) (ok : o.ok) (hk : o.kind = 0) (hc : gC p.f o.id o.under = 0) : Calls Try.prog 12 #[.pointer (some ⟨x, 0, none⟩), .agg o.c.toArray] w (SPost B x t d m g w) := by
  obtain rfl := h.d
  have HE := hidMk h.ln.eq
  have HNL := hidMk (show p.NL.length ≤ 1300000000000 by have := h.mn; omega)
  have HPL := hidMk (show p.PL.length ≤ 1300000000000 by have := h.mp; omega)
  have HB0 := hidMk hB
  have HM := hidMk hm
  have HC := hidMk hc
  clear hc hB hm
  go_enter Try.func12, Try.ntmps12
  go_upto_region 3 with fail
  obtain ⟨hbo, bx, zx⟩ := op_box w o
  generalize w.alloc (.cells o.c.toArray 39) = W at *
  have lbo : w.heap.size < W.heap.size := by omega
  have ck : W.cell? ⟨w.heap.size, 0, none⟩ = some (.int .i64 o.kind) := op_range hbo 0 _ rfl
  clear zx
  obtain ⟨bo, hbb⟩ : ∃ bo, w.heap.size = bo := ⟨_, rfl⟩
  have HBB := hidMk hbb
  rw [hbb] at hbo ck lbo ⊢
  clear hbb
  rw [hk] at ck
  have hW := h.below bx
  have HB1 := hidMk (show B ≤ W.heap.size from Nat.le_trans HB0.out bx.size)
  clear hk
  go_upto_region 6 with fail
  clear ck
  have bd : Below W.heap.size W W.drew := (Below.refl _ _).drew
  have hd1 := hW.below bd
  have hS0 : (fun V => V.heap[x]? = some (.cells #[.pointer (some ⟨t, 0, none⟩), .pointer (some ⟨p.d, 0, none⟩), p.bv, p.sv] 32 (0, 0)) ∧ V.heap[bo]? = some (.cells o.c.toArray 39 (0, 0))) W.drew := ⟨by rw [← h.x, ← h.t]; exact hd1.ps.cell, hbo⟩
  have gbo : g bo = 0 := by rw [← HBB.out]; exact h.ps.gz _ (Nat.le_refl _)
  have nbo : ¬ Mut g bo := by unfold Mut; rw [gbo]; decide
  have hpx := h.x
  refine step6 (fun V => V.heap[x]? = some (.cells #[.pointer (some ⟨t, 0, none⟩), .pointer (some ⟨p.d, 0, none⟩), p.bv, p.sv] 32 (0, 0)) ∧ V.heap[bo]? = some (.cells o.c.toArray 39 (0, 0))) (fun tv v V => ∃ g' s' r, tv = .pointer (some ⟨r.bk, 0, none⟩) ∧ v = .int .i64 0 ∧ s'.t = t ∧ r.k = o.id ∧ r.o = p.f o.id ∧ W.heap.size ≤ r.bk ∧ Ext W g g' ∧ Tch (Mut g) W V ∧ PS B g' V { p with s := s', H := r :: p.H, f := upd p.f o.id (some ⟨o.under, o.key, false⟩) }) x bo (.pointer (some ⟨t, 0, none⟩)) o.id.v o.under.v (.string o.key) _ W _ rfl rfl rfl hS0 ?_ ?_ ?_ ?_ ?_ ?_
  · have hcall := ps_tree_ok hd1 HB1.out HC.out (grow_all (hd1).ps.own HB1.out o.id o.under o.key ok.id ok.under)
    rw [h.t] at hcall
    refine hcall.mono ?_
    rintro e w2 ⟨g', s', r, rfl, q1, q2, q3, q4, q5, q6, q7⟩
    refine ⟨_, _, rfl, ⟨?_, (q6.block bo (show bo < W.drew.heap.size from lbo) nbo).trans hbo⟩, g', s', r, rfl, rfl, q1, q2, q3, q4, q5, q6.dr, q7⟩
    have := q7.cell
    simp only at this
    rwa [hpx, q1] at this
  · exact fun V hV => load_tp (cell_p0 hV.1)
  · exact fun V hV => op_id ok (op_range hV.2)
  · exact fun V hV => op_under ok (op_range hV.2)
  · exact fun V hV => op_key ok (op_range hV.2)
  rintro tv v a' w2 ⟨g2, s', r, rfl, rfl, q1, q2, q3, q4, q5, q6, q7⟩ ha
  subst ha
  simp only [Act.put, List.setIfInBounds_toArray, List.set_cons_zero, List.set_cons_succ]
  go_upto_region 7 with fail
  have hd2 : PS B g2 w2.drew { p with s := s', H := r :: p.H, f := upd p.f o.id (some ⟨o.under, o.key, false⟩) } := q7.below (Below.refl w2.heap.size w2).drew
  have hbo2 : w2.heap[bo]? = some (.cells o.c.toArray 39 (0, 0)) := (q6.block bo lbo nbo).trans hbo
  have lbo2 : bo < w2.heap.size := Nat.lt_of_lt_of_le lbo q6.size
  have nbo2 : ¬ Mut g2 bo := by unfold Mut; rw [q5 bo lbo, gbo]; decide
  have HB2 := hidMk (show B ≤ w2.heap.size from Nat.le_trans HB1.out q6.size)
  have cell2 : w2.drew.heap[x]? = some (.cells #[.pointer (some ⟨t, 0, none⟩), .pointer (some ⟨p.d, 0, none⟩), p.bv, p.sv] 32 (0, 0)) := by
    have := hd2.cell
    simp only at this
    rwa [hpx, q1] at this
  refine step7 (fun V => V.heap[x]? = some (.cells #[.pointer (some ⟨t, 0, none⟩), .pointer (some ⟨p.d, 0, none⟩), p.bv, p.sv] 32 (0, 0)) ∧ V.heap[bo]? = some (.cells o.c.toArray 39 (0, 0))) (fun v V => v = .int .i64 0 ∧ ∃ g' vn vp us, Ext w2 g2 g' ∧ Tch (Mut g2) w2 V ∧ PS B g' V { p with s := s', H := r :: p.H, f := upd p.f o.id (some ⟨o.under, o.key, false⟩), NL := M.put p.NL o.id ⟨o.under, o.key, false⟩, PL := p.PL ++ [p.NL], vn := vn, vp := vp, us := us }) x bo (.pointer (some ⟨p.d, 0, none⟩)) o.id.v o.under.v (.string o.key) _ w2 _ rfl rfl rfl ⟨cell2, hbo2⟩ ?_ ?_ ?_ ?_ ?_ ?_
  · have hr := hd2.ref
    have hcall := ps_ref_ok hd2 HB2.out (c := gC (lookN p.NL) o.id o.under) (by rw [HE.out]; exact HC.out) (rgrow_all hr (HB2.out) HNL.out HPL.out o.id ok.id o.under o.key ok.under)
    refine hcall.mono ?_
    rintro e w3 ⟨rfl, g3, vn, vp, us, f1, f2, f3⟩
    refine ⟨_, rfl, ⟨?_, (f2.block bo lbo2 nbo2).trans hbo2⟩, rfl, g3, vn, vp, us, f1, f2.dr, f3⟩
    have := f3.cell
    simp only at this
    rwa [hpx, q1] at this
  · exact fun V hV => load_dp (cell_p1 hV.1)
  · exact fun V hV => op_id ok (op_range hV.2)
  · exact fun V hV => op_under ok (op_range hV.2)
  · exact fun V hV => op_key ok (op_range hV.2)
  rintro v a' w3 ⟨rfl, g3, vn, vp, us, f1, f2, f3⟩ ha
  subst ha
  simp only [Act.put, List.setIfInBounds_toArray, List.set_cons_zero, List.set_cons_succ]
  have cell3 : w3.heap[x]? = some (.cells #[.pointer (some ⟨t, 0, none⟩), .pointer (some ⟨p.d, 0, none⟩), p.bv, p.sv] 32 (0, 0)) := by
    have := f3.cell
    simp only at this
    rwa [hpx, q1] at this
  have HS := hidMk (rsteps_any f3.ref)
  simp only [List.length_append, List.length_cons, List.length_nil, Nat.zero_add] at HS
  obtain ⟨N1, hN1⟩ : ∃ N1 : Int, ((p.PL.length + 1 : Nat) : Int) = N1 := ⟨_, rfl⟩
  rw [hN1] at HS
  have HN1 := hidMk hN1
  clear hN1
  have HFIN := hidMk (fun (W4 : World) (b4 : Below w3.heap.size w3 W4) => lists_ok hW (Nat.le_trans HB2.out (Nat.le_trans f2.size b4.size)) HM.out q1 q2 q3 q4 (q5.trans f1 q6.size) (Tch.trans (mut_ext q5 q6 f2) (tch_below b4)) (f3.below b4))
  have HC3 := hidMk (fun (V : World) (b : Below w3.heap.size w3 V) => (b.block x (Array.getElem?_eq_some_iff.1 cell3).1).trans cell3)
  have HL1 := hidMk (load_dp (cell_p1 cell3))
  have HBX := hidMk bx
  clear cell3 cell2 f1 f2 f3 hd2 hbo2 lbo2 nbo2 nbo gbo q2 q3 q4 q5 q6 q7 hd1 hS0 bd hbo lbo hpx bx
  go_upto_region 19 with (first
    | (refine wpList_val rfl (exec_load (t := 27) (u := .pointer (some ⟨x, 1, none⟩)) rfl rfl HL1.out) ?_)
    | (go_at_call 33; refine HS.out.mono ?_; rintro e w4 ⟨rfl, b4⟩; clear HS)
    | fail)
  obtain ⟨lv, qv, lv2, qv2, w5, w6, w7, w8, w9, w10, e1, e2, e3, e4, e5, e6, e7, fin⟩ := HFIN.out w4 b4
  rw [HN1.out] at e5
  have E0 := hidMk (load_bs (cell_p2 (HC3.out _ b4)))
  have E1 := hidMk e1
  have E2 := hidMk e2
  have E3 := hidMk e3
  have E4 := hidMk e4
  have E5 := hidMk e5
  have E6 := hidMk e6
  have E7 := hidMk e7
  have FIN := hidMk fin
  clear e1 e2 e3 e4 e5 e6 e7 fin HFIN HL1 b4
  generalize p.bv = bv at *
  generalize p.sv = sv at *
  go_wp2_with (first
    | (refine wpList_val rfl (exec_load (t := 29) (u := .pointer (some ⟨x, 2, none⟩)) rfl rfl E0.out) ?_)
    | (refine wpList_run rfl (exec_buildSlice (t := 29) (n := 1) (xv := .pointer (some ⟨r.bk, 0, none⟩)) (v := lv) rfl rfl E1.out) ?_)
    | (refine wpList_run rfl (exec_append (ts := #[29, 29]) (xv := bv) (yv := lv) (v := qv) rfl rfl rfl E2.out) ?_)
    | (refine wpList_skip rfl rfl (exec_store (t := 29) (xv := .pointer (some ⟨x, 2, none⟩)) (yv := qv) rfl rfl rfl E3.out) ?_)
    | (refine wpList_val rfl (exec_load (t := 30) (u := .pointer (some ⟨x, 3, none⟩)) rfl rfl E4.out) ?_)
    | (refine wpList_run rfl (exec_buildSlice (t := 30) (n := 1) (xv := .int .i64 N1) (v := lv2) rfl rfl E5.out) ?_)
    | (refine wpList_run rfl (exec_append (ts := #[30, 30]) (xv := sv) (yv := lv2) (v := qv2) rfl rfl rfl E6.out) ?_)
    | (refine wpList_skip rfl rfl (exec_store (t := 30) (xv := .pointer (some ⟨x, 3, none⟩)) (yv := qv2) rfl rfl rfl E7.out) ?_)
    | fail)
  go_ret
  obtain ⟨_, g', p', r1, r2, r3⟩ := FIN.out
  exact ⟨rfl, g', p', fun j hj => r1 j (Nat.lt_of_lt_of_le hj HBX.out.size), Tch.trans (tch_below HBX.out) r2, r3⟩
set_option maxRecDepth 100000 in
set_option maxHeartbeats 4000000 in
theorem step_move_no {B x t d m : Nat} {p : Pl} {g : Nat → Nat} {w : World} (h : PX B x t d m p g w) (hB : B ≤ w.heap.size) (hm : m + 1 ≤ 1300000000000) (o : OpV) (ok : o.ok) (hk : o.kind = 1) (hc : mC p.f o.id o.under ≠ 0) : Calls Try.prog 12 #[.pointer (some ⟨x, 0, none⟩), .agg o.c.toArray] w (SPost B x t d m g w) := by
  have HE := hidMk h.ln.eq
  have HNL := hidMk (show p.NL.length ≤ 1300000000000 by have := h.mn; omega)
  have HPL := hidMk (show p.PL.length ≤ 1300000000000 by have := h.mp; omega)
  have HB0 := hidMk hB
  have HM := hidMk hm
  have HC := hidMk hc
  obtain ⟨c, hcc⟩ : ∃ c, mC p.f o.id o.under = c := ⟨_, rfl⟩
  have HCC := hidMk hcc
  have hc0 : ¬ c = 0 := by rw [← hcc]; exact hc
  clear hcc hc hB hm
  go_enter Try.func12, Try.ntmps12
  go_upto_region 3 with fail
  obtain ⟨hbo, bx, zx⟩ := op_box w o
  generalize w.alloc (.cells o.c.toArray 39) = W at *
  have lbo : w.heap.size < W.heap.size := by omega
  have ck : W.cell? ⟨w.heap.size, 0, none⟩ = some (.int .i64 o.kind) := op_range hbo 0 _ rfl
  clear zx
  obtain ⟨bo, hbb⟩ : ∃ bo, w.heap.size = bo := ⟨_, rfl⟩
  have HBB := hidMk hbb
  rw [hbb] at hbo ck lbo ⊢
  clear hbb
  rw [hk] at ck
  have hW := h.below bx
  have HB1 := hidMk (show B ≤ W.heap.size from Nat.le_trans HB0.out bx.size)
  clear hk
  go_upto_region 9 with fail
  clear ck
  have bd : Below W.heap.size W W.drew := (Below.refl _ _).drew
  have hS : ∀ V, Below W.heap.size W V → (fun V => V.heap[x]? = some (.cells #[.pointer (some ⟨t, 0, none⟩), .pointer (some ⟨d, 0, none⟩), p.bv, p.sv] 32 (0, 0)) ∧ V.heap[bo]? = some (.cells o.c.toArray 39 (0, 0))) V := fun V b => ⟨by rw [← h.x, ← h.t, ← h.d]; exact (hW.below b).ps.cell, (b.block _ lbo).trans hbo⟩
  refine step9 (fun V => V.heap[x]? = some (.cells #[.pointer (some ⟨t, 0, none⟩), .pointer (some ⟨d, 0, none⟩), p.bv, p.sv] 32 (0, 0)) ∧ V.heap[bo]? = some (.cells o.c.toArray 39 (0, 0))) (fun tv v V => tv = .pointer none ∧ v = .int .i64 c ∧ Below W.heap.size W V) x bo (.pointer (some ⟨t, 0, none⟩)) o.id.v o.under.v (.string o.key) _ W _ rfl rfl rfl (hS _ bd) ?_ ?_ ?_ ?_ ?_ ?_
  · have hcall := ps_tree_no (hW.below bd) HC.out (move_all (hW.below bd).ps.own HB1.out o.id o.under o.key ok.id ok.under)
    rw [h.t, HCC.out] at hcall
    refine hcall.mono ?_
    rintro e w2 ⟨rfl, b2⟩
    exact ⟨_, _, rfl, hS _ (bd.trans (b2.mono bd.size)), rfl, rfl, bd.trans (b2.mono bd.size)⟩
  · exact fun V hV => load_tp (cell_p0 hV.1)
  · exact fun V hV => op_id ok (op_range hV.2)
  · exact fun V hV => op_under ok (op_range hV.2)
  · exact fun V hV => op_key ok (op_range hV.2)
  rintro tv v a' w2 ⟨rfl, rfl, b2⟩ ha
  subst ha
  simp only [Act.put, List.setIfInBounds_toArray, List.set_cons_zero, List.set_cons_succ]
  go_upto_region 10 with fail
  have bd2 : Below W.heap.size W w2.drew := b2.drew
  refine step10 (fun V => V.heap[x]? = some (.cells #[.pointer (some ⟨t, 0, none⟩), .pointer (some ⟨d, 0, none⟩), p.bv, p.sv] 32 (0, 0)) ∧ V.heap[bo]? = some (.cells o.c.toArray 39 (0, 0))) (fun v V => v = .int .i64 c ∧ Below W.heap.size W V) x bo (.pointer (some ⟨d, 0, none⟩)) o.id.v o.under.v (.string o.key) _ w2 _ rfl rfl rfl (hS _ bd2) ?_ ?_ ?_ ?_ ?_ ?_
  · have hr := (hW.below bd2).ps.ref
    have hcall := ps_ref_no (c := mC (lookN p.NL) o.id o.under) (by rw [HE.out]; exact HC.out) (rmove_all hr (Nat.le_trans HB1.out bd2.size) HNL.out HPL.out o.id ok.id o.under o.key ok.under (by rw [HE.out]; exact h.ps.own.ft))
    rw [h.d, HE.out, HCC.out] at hcall
    refine hcall.mono ?_
    rintro e w3 ⟨rfl, b3⟩
    exact ⟨_, rfl, hS _ (bd2.trans (b3.mono bd2.size)), rfl, bd2.trans (b3.mono bd2.size)⟩
  · exact fun V hV => load_dp (cell_p1 hV.1)
  · exact fun V hV => op_id ok (op_range hV.2)
  · exact fun V hV => op_under ok (op_range hV.2)
  · exact fun V hV => op_key ok (op_range hV.2)
  rintro v a' w3 ⟨rfl, b3⟩ ha
  subst ha
  simp only [Act.put, List.setIfInBounds_toArray, List.set_cons_zero, List.set_cons_succ]
  have b03 := bx.trans (b3.mono bx.size)
  obtain ⟨lv, qv, lv2, qv2, w4, w5, w6, w7, w8, w9, e1, e2, e3, e4, e5, e6, e7, fin⟩ := lists_no (h.below b03) (Nat.le_trans HB0.out b03.size) HM.out
  have E0 := hidMk (load_bs (cell_p2 (hS _ b3).1))
  have E1 := hidMk e1
  have E2 := hidMk e2
  have E3 := hidMk e3
  have E4 := hidMk e4
  have E5 := hidMk e5
  have E6 := hidMk e6
  have E7 := hidMk e7
  have FIN := hidMk fin
  have B03 := hidMk b03
  clear e1 e2 e3 e4 e5 e6 e7 fin b03 hS b3 b2 bd bd2
  generalize p.bv = bv at *
  generalize p.sv = sv at *
  go_wp2_with (first
    | (refine wpList_val rfl (exec_load (t := 29) (u := .pointer (some ⟨x, 2, none⟩)) rfl rfl E0.out) ?_)
    | (refine wpList_run rfl (exec_buildSlice (t := 29) (n := 1) (xv := .pointer none) (v := lv) rfl rfl E1.out) ?_)
    | (refine wpList_run rfl (exec_append (ts := #[29, 29]) (xv := bv) (yv := lv) (v := qv) rfl rfl rfl E2.out) ?_)
    | (refine wpList_skip rfl rfl (exec_store (t := 29) (xv := .pointer (some ⟨x, 2, none⟩)) (yv := qv) rfl rfl rfl E3.out) ?_)
    | (refine wpList_val rfl (exec_load (t := 30) (u := .pointer (some ⟨x, 3, none⟩)) rfl rfl E4.out) ?_)
    | (refine wpList_run rfl (exec_buildSlice (t := 30) (n := 1) (xv := .int .i64 0) (v := lv2) rfl rfl E5.out) ?_)
    | (refine wpList_run rfl (exec_append (ts := #[30, 30]) (xv := sv) (yv := lv2) (v := qv2) rfl rfl rfl E6.out) ?_)
    | (refine wpList_skip rfl rfl (exec_store (t := 30) (xv := .pointer (some ⟨x, 3, none⟩)) (yv := qv2) rfl rfl rfl E7.out) ?_)
    | fail)
  go_ret
  obtain ⟨_, g', p', f1, f2, f3⟩ := FIN.out
  exact ⟨rfl, g', p', fun j hj => f1 j (Nat.lt_of_lt_of_le hj B03.out.size), Tch.trans (tch_below B03.out) f2, f3⟩
set_option maxRecDepth 100000 in
set_option maxHeartbeats 4000000 in
theorem step_move_ok {B x t d m : Nat} {p : Pl} {g : Nat → Nat} {w : World} (h : PX B x t d m p g w) (hB : B ≤ w.heap.size) (hm : m + 1 ≤ 1300000000000) (o : OpV) (ok : o.ok) (hk : o.kind = 1) (hc : mC p.f o.id o.under = 0) : Calls Try.prog 12 #[.pointer (some ⟨x, 0, none⟩), .agg o.c.toArray] w (SPost B x t d m g w) := by
  obtain rfl := h.d
  have HE := hidMk h.ln.eq
  have HNL := hidMk (show p.NL.length ≤ 1300000000000 by have := h.mn; omega)
  have HPL := hidMk (show p.PL.length ≤ 1300000000000 by have := h.mp; omega)
  have HB0 := hidMk hB
  have HM := hidMk hm
  have HC := hidMk hc
  clear hc hB hm
  go_enter Try.func12, Try.ntmps12
  go_upto_region 3 with fail
  obtain ⟨hbo, bx, zx⟩ := op_box w o
  generalize w.alloc (.cells o.c.toArray 39) = W at *
  have lbo : w.heap.size < W.heap.size := by omega
  have ck : W.cell? ⟨w.heap.size, 0, none⟩ = some (.int .i64 o.kind) := op_range hbo 0 _ rfl
  clear zx
  obtain ⟨bo, hbb⟩ : ∃ bo, w.heap.size = bo := ⟨_, rfl⟩
  have HBB := hidMk hbb
  rw [hbb] at hbo ck lbo ⊢
  clear hbb
  rw [hk] at ck
  have hW := h.below bx
  have HB1 := hidMk (show B ≤ W.heap.size from Nat.le_trans HB0.out bx.size)
  clear hk
  go_upto_region 9 with fail
  clear ck
  have bd : Below W.heap.size W W.drew := (Below.refl _ _).drew
  have hd1 := hW.below bd
  have hS0 : (fun V => V.heap[x]? = some (.cells #[.pointer (some ⟨t, 0, none⟩), .pointer (some ⟨p.d, 0, none⟩), p.bv, p.sv] 32 (0, 0)) ∧ V.heap[bo]? = some (.cells o.c.toArray 39 (0, 0))) W.drew := ⟨by rw [← h.x, ← h.t]; exact hd1.ps.cell, hbo⟩
  have gbo : g bo = 0 := by rw [← HBB.out]; exact h.ps.gz _ (Nat.le_refl _)
  have nbo : ¬ Mut g bo := by unfold Mut; rw [gbo]; decide
  have hpx := h.x
  refine step9 (fun V => V.heap[x]? = some (.cells #[.pointer (some ⟨t, 0, none⟩), .pointer (some ⟨p.d, 0, none⟩), p.bv, p.sv] 32 (0, 0)) ∧ V.heap[bo]? = some (.cells o.c.toArray 39 (0, 0))) (fun tv v V => ∃ g' s' r, tv = .pointer (some ⟨r.bk, 0, none⟩) ∧ v = .int .i64 0 ∧ s'.t = t ∧ r.k = o.id ∧ r.o = p.f o.id ∧ W.heap.size ≤ r.bk ∧ Ext W g g' ∧ Tch (Mut g) W V ∧ PS B g' V { p with s := s', H := r :: p.H, f := upd p.f o.id (some ⟨o.under, o.key, false⟩) }) x bo (.pointer (some ⟨t, 0, none⟩)) o.id.v o.under.v (.string o.key) _ W _ rfl rfl rfl hS0 ?_ ?_ ?_ ?_ ?_ ?_
  · have hcall := ps_tree_ok hd1 HB1.out HC.out (move_all (hd1).ps.own HB1.out o.id o.under o.key ok.id ok.under)
    rw [h.t] at hcall
    refine hcall.mono ?_
    rintro e w2 ⟨g', s', r, rfl, q1, q2, q3, q4, q5, q6, q7⟩
    refine ⟨_, _, rfl, ⟨?_, (q6.block bo (show bo < W.drew.heap.size from lbo) nbo).trans hbo⟩, g', s', r, rfl, rfl, q1, q2, q3, q4, q5, q6.dr, q7⟩
    have := q7.cell
    simp only at this
    rwa [hpx, q1] at this
  · exact fun V hV => load_tp (cell_p0 hV.1)
  · exact fun V hV => op_id ok (op_range hV.2)
  · exact fun V hV => op_under ok (op_range hV.2)
  · exact fun V hV => op_key ok (op_range hV.2)
  rintro tv v a' w2 ⟨g2, s', r, rfl, rfl, q1, q2, q3, q4, q5, q6, q7⟩ ha
  subst ha
  simp only [Act.put, List.setIfInBounds_toArray, List.set_cons_zero, List.set_cons_succ]
  go_upto_region 10 with fail
  have hd2 : PS B g2 w2.drew { p with s := s', H := r :: p.H, f := upd p.f o.id (some ⟨o.under, o.key, false⟩) } := q7.below (Below.refl w2.heap.size w2).drew
  have hbo2 : w2.heap[bo]? = some (.cells o.c.toArray 39 (0, 0)) := (q6.block bo lbo nbo).trans hbo
  have lbo2 : bo < w2.heap.size := Nat.lt_of_lt_of_le lbo q6.size
  have nbo2 : ¬ Mut g2 bo := by unfold Mut; rw [q5 bo lbo, gbo]; decide
  have HB2 := hidMk (show B ≤ w2.heap.size from Nat.le_trans HB1.out q6.size)
  have cell2 : w2.drew.heap[x]? = some (.cells #[.pointer (some ⟨t, 0, none⟩), .pointer (some ⟨p.d, 0, none⟩), p.bv, p.sv] 32 (0, 0)) := by
    have := hd2.cell
    simp only at this
    rwa [hpx, q1] at this
  refine step10 (fun V => V.heap[x]? = some (.cells #[.pointer (some ⟨t, 0, none⟩), .pointer (some ⟨p.d, 0, none⟩), p.bv, p.sv] 32 (0, 0)) ∧ V.heap[bo]? = some (.cells o.c.toArray 39 (0, 0))) (fun v V => v = .int .i64 0 ∧ ∃ g' vn vp us, Ext w2 g2 g' ∧ Tch (Mut g2) w2 V ∧ PS B g' V { p with s := s', H := r :: p.H, f := upd p.f o.id (some ⟨o.under, o.key, false⟩), NL := M.put p.NL o.id ⟨o.under, o.key, false⟩, PL := p.PL ++ [p.NL], vn := vn, vp := vp, us := us }) x bo (.pointer (some ⟨p.d, 0, none⟩)) o.id.v o.under.v (.string o.key) _ w2 _ rfl rfl rfl ⟨cell2, hbo2⟩ ?_ ?_ ?_ ?_ ?_ ?_
  · have hr := hd2.ref
    have hcall := ps_ref_ok hd2 HB2.out (c := mC (lookN p.NL) o.id o.under) (by rw [HE.out]; exact HC.out) (rmove_all hr (HB2.out) HNL.out HPL.out o.id ok.id o.under o.key ok.under (by show Forest (lookN p.NL); rw [HE.out]; exact h.ps.own.ft))
    refine hcall.mono ?_
    rintro e w3 ⟨rfl, g3, vn, vp, us, f1, f2, f3⟩
    refine ⟨_, rfl, ⟨?_, (f2.block bo lbo2 nbo2).trans hbo2⟩, rfl, g3, vn, vp, us, f1, f2.dr, f3⟩
    have := f3.cell
    simp only at this
    rwa [hpx, q1] at this
  · exact fun V hV => load_dp (cell_p1 hV.1)
  · exact fun V hV => op_id ok (op_range hV.2)
  · exact fun V hV => op_under ok (op_range hV.2)
  · exact fun V hV => op_key ok (op_range hV.2)
  rintro v a' w3 ⟨rfl, g3, vn, vp, us, f1, f2, f3⟩ ha
  subst ha
  simp only [Act.put, List.setIfInBounds_toArray, List.set_cons_zero, List.set_cons_succ]
  have cell3 : w3.heap[x]? = some (.cells #[.pointer (some ⟨t, 0, none⟩), .pointer (some ⟨p.d, 0, none⟩), p.bv, p.sv] 32 (0, 0)) := by
    have := f3.cell
    simp only at this
    rwa [hpx, q1] at this
  have HS := hidMk (rsteps_any f3.ref)
  simp only [List.length_append, List.length_cons, List.length_nil, Nat.zero_add] at HS
  obtain ⟨N1, hN1⟩ : ∃ N1 : Int, ((p.PL.length + 1 : Nat) : Int) = N1 := ⟨_, rfl⟩
  rw [hN1] at HS
  have HN1 := hidMk hN1
  clear hN1
  have HFIN := hidMk (fun (W4 : World) (b4 : Below w3.heap.size w3 W4) => lists_ok hW (Nat.le_trans HB2.out (Nat.le_trans f2.size b4.size)) HM.out q1 q2 q3 q4 (q5.trans f1 q6.size) (Tch.trans (mut_ext q5 q6 f2) (tch_below b4)) (f3.below b4))
  have HC3 := hidMk (fun (V : World) (b : Below w3.heap.size w3 V) => (b.block x (Array.getElem?_eq_some_iff.1 cell3).1).trans cell3)
  have HL1 := hidMk (load_dp (cell_p1 cell3))
  have HBX := hidMk bx
  clear cell3 cell2 f1 f2 f3 hd2 hbo2 lbo2 nbo2 nbo gbo q2 q3 q4 q5 q6 q7 hd1 hS0 bd hbo lbo hpx bx
  go_upto_region 19 with (first
    | (refine wpList_val rfl (exec_load (t := 27) (u := .pointer (some ⟨x, 1, none⟩)) rfl rfl HL1.out) ?_)
    | (go_at_call 33; refine HS.out.mono ?_; rintro e w4 ⟨rfl, b4⟩; clear HS)
    | fail)
  obtain ⟨lv, qv, lv2, qv2, w5, w6, w7, w8, w9, w10, e1, e2, e3, e4, e5, e6, e7, fin⟩ := HFIN.out w4 b4
  rw [HN1.out] at e5
  have E0 := hidMk (load_bs (cell_p2 (HC3.out _ b4)))
  have E1 := hidMk e1
  have E2 := hidMk e2
  have E3 := hidMk e3
  have E4 := hidMk e4
  have E5 := hidMk e5
  have E6 := hidMk e6
  have E7 := hidMk e7
  have FIN := hidMk fin
  clear e1 e2 e3 e4 e5 e6 e7 fin HFIN HL1 b4
  generalize p.bv = bv at *
  generalize p.sv = sv at *
  go_wp2_with (first
    | (refine wpList_val rfl (exec_load (t := 29) (u := .pointer (some ⟨x, 2, none⟩)) rfl rfl E0.out) ?_)
    | (refine wpList_run rfl (exec_buildSlice (t := 29) (n := 1) (xv := .pointer (some ⟨r.bk, 0, none⟩)) (v := lv) rfl rfl E1.out) ?_)
    | (refine wpList_run rfl (exec_append (ts := #[29, 29]) (xv := bv) (yv := lv) (v := qv) rfl rfl rfl E2.out) ?_)
    | (refine wpList_skip rfl rfl (exec_store (t := 29) (xv := .pointer (some ⟨x, 2, none⟩)) (yv := qv) rfl rfl rfl E3.out) ?_)
    | (refine wpList_val rfl (exec_load (t := 30) (u := .pointer (some ⟨x, 3, none⟩)) rfl rfl E4.out) ?_)
    | (refine wpList_run rfl (exec_buildSlice (t := 30) (n := 1) (xv := .int .i64 N1) (v := lv2) rfl rfl E5.out) ?_)
    | (refine wpList_run rfl (exec_append (ts := #[30, 30]) (xv := sv) (yv := lv2) (v := qv2) rfl rfl rfl E6.out) ?_)
    | (refine wpList_skip rfl rfl (exec_store (t := 30) (xv := .pointer (some ⟨x, 3, none⟩)) (yv := qv2) rfl rfl rfl E7.out) ?_)
    | fail)
  go_ret
  obtain ⟨_, g', p', r1, r2, r3⟩ := FIN.out
  exact ⟨rfl, g', p', fun j hj => r1 j (Nat.lt_of_lt_of_le hj HBX.out.size), Tch.trans (tch_below HBX.out) r2, r3⟩
set_option maxRecDepth 100000 in
set_option maxHeartbeats 4000000 in
theorem step_prune_no {B x t d m : Nat} {p : Pl} {g : Nat → Nat} {w : World} (h : PX B x t d m p g w) (hB : B ≤ w.heap.size) (hm : m + 1 ≤ 1300000000000) (o : OpV) (ok : o.ok) (hk : o.kind = 2) (hc : pC p.f o.id ≠ 0) : Calls Try.prog 12 #[.pointer (some ⟨x, 0, none⟩), .agg o.c.toArray] w (SPost B x t d m g w) := by
  have HE := hidMk h.ln.eq
  have HNL := hidMk (show p.NL.length ≤ 1300000000000 by have := h.mn; omega)
  have HPL := hidMk (show p.PL.length ≤ 1300000000000 by have := h.mp; omega)
  have HB0 := hidMk hB
  have HM := hidMk hm
  have HC := hidMk hc
  obtain ⟨c, hcc⟩ : ∃ c, pC p.f o.id = c := ⟨_, rfl⟩
  have HCC := hidMk hcc
  have hc0 : ¬ c = 0 := by rw [← hcc]; exact hc
  clear hcc hc hB hm
  go_enter Try.func12, Try.ntmps12
  go_upto_region 3 with fail
  obtain ⟨hbo, bx, zx⟩ := op_box w o
  generalize w.alloc (.cells o.c.toArray 39) = W at *
  have lbo : w.heap.size < W.heap.size := by omega
  have ck : W.cell? ⟨w.heap.size, 0, none⟩ = some (.int .i64 o.kind) := op_range hbo 0 _ rfl
  clear zx
  obtain ⟨bo, hbb⟩ : ∃ bo, w.heap.size = bo := ⟨_, rfl⟩
  have HBB := hidMk hbb
  rw [hbb] at hbo ck lbo ⊢
  clear hbb
  rw [hk] at ck
  have hW := h.below bx
  have HB1 := hidMk (show B ≤ W.heap.size from Nat.le_trans HB0.out bx.size)
  clear hk
  go_upto_region 12 with fail
  clear ck
  have bd : Below W.heap.size W W.drew := (Below.refl _ _).drew
  have hS : ∀ V, Below W.heap.size W V → (fun V => V.heap[x]? = some (.cells #[.pointer (some ⟨t, 0, none⟩), .pointer (some ⟨d, 0, none⟩), p.bv, p.sv] 32 (0, 0)) ∧ V.heap[bo]? = some (.cells o.c.toArray 39 (0, 0))) V := fun V b => ⟨by rw [← h.x, ← h.t, ← h.d]; exact (hW.below b).ps.cell, (b.block _ lbo).trans hbo⟩
  refine step12 (fun V => V.heap[x]? = some (.cells #[.pointer (some ⟨t, 0, none⟩), .pointer (some ⟨d, 0, none⟩), p.bv, p.sv] 32 (0, 0)) ∧ V.heap[bo]? = some (.cells o.c.toArray 39 (0, 0))) (fun tv v V => tv = .pointer none ∧ v = .int .i64 c ∧ Below W.heap.size W V) x bo (.pointer (some ⟨t, 0, none⟩)) o.id.v _ W _ rfl rfl rfl (hS _ bd) ?_ ?_ ?_ ?_
  · have hcall := ps_tree_no (hW.below bd) HC.out (prune_all (hW.below bd).ps.own HB1.out o.id ok.id)
    rw [h.t, HCC.out] at hcall
    refine hcall.mono ?_
    rintro e w2 ⟨rfl, b2⟩
    exact ⟨_, _, rfl, hS _ (bd.trans (b2.mono bd.size)), rfl, rfl, bd.trans (b2.mono bd.size)⟩
  · exact fun V hV => load_tp (cell_p0 hV.1)
  · exact fun V hV => op_id ok (op_range hV.2)
  rintro tv v a' w2 ⟨rfl, rfl, b2⟩ ha
  subst ha
  simp only [Act.put, List.setIfInBounds_toArray, List.set_cons_zero, List.set_cons_succ]
  go_upto_region 13 with fail
  have bd2 : Below W.heap.size W w2.drew := b2.drew
  refine step13 (fun V => V.heap[x]? = some (.cells #[.pointer (some ⟨t, 0, none⟩), .pointer (some ⟨d, 0, none⟩), p.bv, p.sv] 32 (0, 0)) ∧ V.heap[bo]? = some (.cells o.c.toArray 39 (0, 0))) (fun v V => v = .int .i64 c ∧ Below W.heap.size W V) x bo (.pointer (some ⟨d, 0, none⟩)) o.id.v _ w2 _ rfl rfl rfl (hS _ bd2) ?_ ?_ ?_ ?_
  · have hr := (hW.below bd2).ps.ref
    have hcall := ps_ref_no (c := pC (lookN p.NL) o.id) (by rw [HE.out]; exact HC.out) (rprune_all hr (Nat.le_trans HB1.out bd2.size) HNL.out HPL.out o.id ok.id)
    rw [h.d, HE.out, HCC.out] at hcall
    refine hcall.mono ?_
    rintro e w3 ⟨rfl, b3⟩
    exact ⟨_, rfl, hS _ (bd2.trans (b3.mono bd2.size)), rfl, bd2.trans (b3.mono bd2.size)⟩
  · exact fun V hV => load_dp (cell_p1 hV.1)
  · exact fun V hV => op_id ok (op_range hV.2)
  rintro v a' w3 ⟨rfl, b3⟩ ha
  subst ha
  simp only [Act.put, List.setIfInBounds_toArray, List.set_cons_zero, List.set_cons_succ]
  have b03 := bx.trans (b3.mono bx.size)
  obtain ⟨lv, qv, lv2, qv2, w4, w5, w6, w7, w8, w9, e1, e2, e3, e4, e5, e6, e7, fin⟩ := lists_no (h.below b03) (Nat.le_trans HB0.out b03.size) HM.out
  have E0 := hidMk (load_bs (cell_p2 (hS _ b3).1))
  have E1 := hidMk e1
  have E2 := hidMk e2
  have E3 := hidMk e3
  have E4 := hidMk e4
  have E5 := hidMk e5
  have E6 := hidMk e6
  have E7 := hidMk e7
  have FIN := hidMk fin
  have B03 := hidMk b03
  clear e1 e2 e3 e4 e5 e6 e7 fin b03 hS b3 b2 bd bd2
  generalize p.bv = bv at *
  generalize p.sv = sv at *
  go_wp2_with (first
    | (refine wpList_val rfl (exec_load (t := 29) (u := .pointer (some ⟨x, 2, none⟩)) rfl rfl E0.out) ?_)
    | (refine wpList_run rfl (exec_buildSlice (t := 29) (n := 1) (xv := .pointer none) (v := lv) rfl rfl E1.out) ?_)
    | (refine wpList_run rfl (exec_append (ts := #[29, 29]) (xv := bv) (yv := lv) (v := qv) rfl rfl rfl E2.out) ?_)
    | (refine wpList_skip rfl rfl (exec_store (t := 29) (xv := .pointer (some ⟨x, 2, none⟩)) (yv := qv) rfl rfl rfl E3.out) ?_)
    | (refine wpList_val rfl (exec_load (t := 30) (u := .pointer (some ⟨x, 3, none⟩)) rfl rfl E4.out) ?_)
    | (refine wpList_run rfl (exec_buildSlice (t := 30) (n := 1) (xv := .int .i64 0) (v := lv2) rfl rfl E5.out) ?_)
    | (refine wpList_run rfl (exec_append (ts := #[30, 30]) (xv := sv) (yv := lv2) (v := qv2) rfl rfl rfl E6.out) ?_)
    | (refine wpList_skip rfl rfl (exec_store (t := 30) (xv := .pointer (some ⟨x, 3, none⟩)) (yv := qv2) rfl rfl rfl E7.out) ?_)
    | fail)
  go_ret
  obtain ⟨_, g', p', f1, f2, f3⟩ := FIN.out
  exact ⟨rfl, g', p', fun j hj => f1 j (Nat.lt_of_lt_of_le hj B03.out.size), Tch.trans (tch_below B03.out) f2, f3⟩
set_option maxRecDepth 100000 in
set_option maxHeartbeats 4000000 in
theorem step_prune_ok {B x t d m : Nat} {p : Pl} {g : Nat → Nat} {w : World} (h : PX B x t d m p g w) (hB : B ≤ w.heap.size) (hm : m + 1 ≤ 1300000000000) (o : OpV) (ok : o.ok) (hk : o.kind = 2) (hc : pC p.f o.id = 0) : Calls Try.prog 12 #[.pointer (some ⟨x, 0, none⟩), .agg o.c.toArray] w (SPost B x t d m g w) := by
  obtain rfl := h.d
  have HE := hidMk h.ln.eq
  have HNL := hidMk (show p.NL.length ≤ 1300000000000 by have := h.mn; omega)
  have HPL := hidMk (show p.PL.length ≤ 1300000000000 by have := h.mp; omega)
  have HB0 := hidMk hB
  have HM := hidMk hm
  have HC := hidMk hc
  clear hc hB hm
  go_enter Try.func12, Try.ntmps12
  go_upto_region 3 with fail
  obtain ⟨hbo, bx, zx⟩ := op_box w o
  generalize w.alloc (.cells o.c.toArray 39) = W at *
  have lbo : w.heap.size < W.heap.size := by omega
  have ck : W.cell? ⟨w.heap.size, 0, none⟩ = some (.int .i64 o.kind) := op_range hbo 0 _ rfl
  clear zx
  obtain ⟨bo, hbb⟩ : ∃ bo, w.heap.size = bo := ⟨_, rfl⟩
  have HBB := hidMk hbb
  rw [hbb] at hbo ck lbo ⊢
  clear hbb
  rw [hk] at ck
  have hW := h.below bx
  have HB1 := hidMk (show B ≤ W.heap.size from Nat.le_trans HB0.out bx.size)
  clear hk
  go_upto_region 12 with fail
  clear ck
  have bd : Below W.heap.size W W.drew := (Below.refl _ _).drew
  have hd1 := hW.below bd
  have hS0 : (fun V => V.heap[x]? = some (.cells #[.pointer (some ⟨t, 0, none⟩), .pointer (some ⟨p.d, 0, none⟩), p.bv, p.sv] 32 (0, 0)) ∧ V.heap[bo]? = some (.cells o.c.toArray 39 (0, 0))) W.drew := ⟨by rw [← h.x, ← h.t]; exact hd1.ps.cell, hbo⟩
  have gbo : g bo = 0 := by rw [← HBB.out]; exact h.ps.gz _ (Nat.le_refl _)
  have nbo : ¬ Mut g bo := by unfold Mut; rw [gbo]; decide
  have hpx := h.x
  refine step12 (fun V => V.heap[x]? = some (.cells #[.pointer (some ⟨t, 0, none⟩), .pointer (some ⟨p.d, 0, none⟩), p.bv, p.sv] 32 (0, 0)) ∧ V.heap[bo]? = some (.cells o.c.toArray 39 (0, 0))) (fun tv v V => ∃ g' s' r, tv = .pointer (some ⟨r.bk, 0, none⟩) ∧ v = .int .i64 0 ∧ s'.t = t ∧ r.k = o.id ∧ r.o = p.f o.id ∧ W.heap.size ≤ r.bk ∧ Ext W g g' ∧ Tch (Mut g) W V ∧ PS B g' V { p with s := s', H := r :: p.H, f := upd p.f o.id (some ⟨zId, ⟨#[]⟩, true⟩) }) x bo (.pointer (some ⟨t, 0, none⟩)) o.id.v _ W _ rfl rfl rfl hS0 ?_ ?_ ?_ ?_
  · have hcall := ps_tree_ok hd1 HB1.out HC.out (prune_all (hd1).ps.own HB1.out o.id ok.id)
    rw [h.t] at hcall
    refine hcall.mono ?_
    rintro e w2 ⟨g', s', r, rfl, q1, q2, q3, q4, q5, q6, q7⟩
    refine ⟨_, _, rfl, ⟨?_, (q6.block bo (show bo < W.drew.heap.size from lbo) nbo).trans hbo⟩, g', s', r, rfl, rfl, q1, q2, q3, q4, q5, q6.dr, q7⟩
    have := q7.cell
    simp only at this
    rwa [hpx, q1] at this
  · exact fun V hV => load_tp (cell_p0 hV.1)
  · exact fun V hV => op_id ok (op_range hV.2)
  rintro tv v a' w2 ⟨g2, s', r, rfl, rfl, q1, q2, q3, q4, q5, q6, q7⟩ ha
  subst ha
  simp only [Act.put, List.setIfInBounds_toArray, List.set_cons_zero, List.set_cons_succ]
  go_upto_region 13 with fail
  have hd2 : PS B g2 w2.drew { p with s := s', H := r :: p.H, f := upd p.f o.id (some ⟨zId, ⟨#[]⟩, true⟩) } := q7.below (Below.refl w2.heap.size w2).drew
  have hbo2 : w2.heap[bo]? = some (.cells o.c.toArray 39 (0, 0)) := (q6.block bo lbo nbo).trans hbo
  have lbo2 : bo < w2.heap.size := Nat.lt_of_lt_of_le lbo q6.size
  have nbo2 : ¬ Mut g2 bo := by unfold Mut; rw [q5 bo lbo, gbo]; decide
  have HB2 := hidMk (show B ≤ w2.heap.size from Nat.le_trans HB1.out q6.size)
  have cell2 : w2.drew.heap[x]? = some (.cells #[.pointer (some ⟨t, 0, none⟩), .pointer (some ⟨p.d, 0, none⟩), p.bv, p.sv] 32 (0, 0)) := by
    have := hd2.cell
    simp only at this
    rwa [hpx, q1] at this
  refine step13 (fun V => V.heap[x]? = some (.cells #[.pointer (some ⟨t, 0, none⟩), .pointer (some ⟨p.d, 0, none⟩), p.bv, p.sv] 32 (0, 0)) ∧ V.heap[bo]? = some (.cells o.c.toArray 39 (0, 0))) (fun v V => v = .int .i64 0 ∧ ∃ g' vn vp us, Ext w2 g2 g' ∧ Tch (Mut g2) w2 V ∧ PS B g' V { p with s := s', H := r :: p.H, f := upd p.f o.id (some ⟨zId, ⟨#[]⟩, true⟩), NL := M.put p.NL o.id ⟨zId, ⟨#[]⟩, true⟩, PL := p.PL ++ [p.NL], vn := vn, vp := vp, us := us }) x bo (.pointer (some ⟨p.d, 0, none⟩)) o.id.v _ w2 _ rfl rfl rfl ⟨cell2, hbo2⟩ ?_ ?_ ?_ ?_
  · have hr := hd2.ref
    have hcall := ps_ref_ok hd2 HB2.out (c := pC (lookN p.NL) o.id) (by rw [HE.out]; exact HC.out) (rprune_all hr (HB2.out) HNL.out HPL.out o.id ok.id)
    refine hcall.mono ?_
    rintro e w3 ⟨rfl, g3, vn, vp, us, f1, f2, f3⟩
    refine ⟨_, rfl, ⟨?_, (f2.block bo lbo2 nbo2).trans hbo2⟩, rfl, g3, vn, vp, us, f1, f2.dr, f3⟩
    have := f3.cell
    simp only at this
    rwa [hpx, q1] at this
  · exact fun V hV => load_dp (cell_p1 hV.1)
  · exact fun V hV => op_id ok (op_range hV.2)
  rintro v a' w3 ⟨rfl, g3, vn, vp, us, f1, f2, f3⟩ ha
  subst ha
  simp only [Act.put, List.setIfInBounds_toArray, List.set_cons_zero, List.set_cons_succ]
  have cell3 : w3.heap[x]? = some (.cells #[.pointer (some ⟨t, 0, none⟩), .pointer (some ⟨p.d, 0, none⟩), p.bv, p.sv] 32 (0, 0)) := by
    have := f3.cell
    simp only at this
    rwa [hpx, q1] at this
  have HS := hidMk (rsteps_any f3.ref)
  simp only [List.length_append, List.length_cons, List.length_nil, Nat.zero_add] at HS
  obtain ⟨N1, hN1⟩ : ∃ N1 : Int, ((p.PL.length + 1 : Nat) : Int) = N1 := ⟨_, rfl⟩
  rw [hN1] at HS
  have HN1 := hidMk hN1
  clear hN1
  have HFIN := hidMk (fun (W4 : World) (b4 : Below w3.heap.size w3 W4) => lists_ok hW (Nat.le_trans HB2.out (Nat.le_trans f2.size b4.size)) HM.out q1 q2 q3 q4 (q5.trans f1 q6.size) (Tch.trans (mut_ext q5 q6 f2) (tch_below b4)) (f3.below b4))
  have HC3 := hidMk (fun (V : World) (b : Below w3.heap.size w3 V) => (b.block x (Array.getElem?_eq_some_iff.1 cell3).1).trans cell3)
  have HL1 := hidMk (load_dp (cell_p1 cell3))
  have HBX := hidMk bx
  clear cell3 cell2 f1 f2 f3 hd2 hbo2 lbo2 nbo2 nbo gbo q2 q3 q4 q5 q6 q7 hd1 hS0 bd hbo lbo hpx bx
  go_upto_region 19 with (first
    | (refine wpList_val rfl (exec_load (t := 27) (u := .pointer (some ⟨x, 1, none⟩)) rfl rfl HL1.out) ?_)
    | (go_at_call 33; refine HS.out.mono ?_; rintro e w4 ⟨rfl, b4⟩; clear HS)
    | fail)
  obtain ⟨lv, qv, lv2, qv2, w5, w6, w7, w8, w9, w10, e1, e2, e3, e4, e5, e6, e7, fin⟩ := HFIN.out w4 b4
  rw [HN1.out] at e5
  have E0 := hidMk (load_bs (cell_p2 (HC3.out _ b4)))
  have E1 := hidMk e1
  have E2 := hidMk e2
  have E3 := hidMk e3
  have E4 := hidMk e4
  have E5 := hidMk e5
  have E6 := hidMk e6
  have E7 := hidMk e7
  have FIN := hidMk fin
  clear e1 e2 e3 e4 e5 e6 e7 fin HFIN HL1 b4
  generalize p.bv = bv at *
  generalize p.sv = sv at *
  go_wp2_with (first
    | (refine wpList_val rfl (exec_load (t := 29) (u := .pointer (some ⟨x, 2, none⟩)) rfl rfl E0.out) ?_)
    | (refine wpList_run rfl (exec_buildSlice (t := 29) (n := 1) (xv := .pointer (some ⟨r.bk, 0, none⟩)) (v := lv) rfl rfl E1.out) ?_)
    | (refine wpList_run rfl (exec_append (ts := #[29, 29]) (xv := bv) (yv := lv) (v := qv) rfl rfl rfl E2.out) ?_)
    | (refine wpList_skip rfl rfl (exec_store (t := 29) (xv := .pointer (some ⟨x, 2, none⟩)) (yv := qv) rfl rfl rfl E3.out) ?_)
    | (refine wpList_val rfl (exec_load (t := 30) (u := .pointer (some ⟨x, 3, none⟩)) rfl rfl E4.out) ?_)
    | (refine wpList_run rfl (exec_buildSlice (t := 30) (n := 1) (xv := .int .i64 N1) (v := lv2) rfl rfl E5.out) ?_)
    | (refine wpList_run rfl (exec_append (ts := #[30, 30]) (xv := sv) (yv := lv2) (v := qv2) rfl rfl rfl E6.out) ?_)
    | (refine wpList_skip rfl rfl (exec_store (t := 30) (xv := .pointer (some ⟨x, 3, none⟩)) (yv := qv2) rfl rfl rfl E7.out) ?_)
    | fail)
  go_ret
  obtain ⟨_, g', p', r1, r2, r3⟩ := FIN.out
  exact ⟨rfl, g', p', fun j hj => r1 j (Nat.lt_of_lt_of_le hj HBX.out.size), Tch.trans (tch_below HBX.out) r2, r3⟩
set_option maxRecDepth 100000 in
set_option maxHeartbeats 4000000 in
theorem step_undo {B x t d m : Nat} {p : Pl} {g : Nat → Nat} {w : World} (h : PX B x t d m p g w) (hB : B ≤ w.heap.size) (hm : m + 1 ≤ 1300000000000) (o : OpV) (ok : o.ok) (hk : o.kind = 3) : Calls Try.prog 12 #[.pointer (some ⟨x, 0, none⟩), .agg o.c.toArray] w (SPost B x t d m g w) := by
  have HU := hidMk (fun (V : World) (b : Below w.heap.size w V) => undo_any (h.below b) (Nat.le_trans hB b.size) (by omega) o.back)
  clear hB hm
  go_enter Try.func12, Try.ntmps12
  go_upto_region 3 with fail
  obtain ⟨hbo, bx, zx⟩ := op_box w o
  generalize w.alloc (.cells o.c.toArray 39) = W at *
  have lbo : w.heap.size < W.heap.size := by omega
  have ck : W.cell? ⟨w.heap.size, 0, none⟩ = some (.int .i64 o.kind) := op_range hbo 0 _ rfl
  clear zx
  obtain ⟨bo, hbb⟩ : ∃ bo, w.heap.size = bo := ⟨_, rfl⟩
  have HBB := hidMk hbb
  rw [hbb] at hbo ck lbo ⊢
  clear hbb
  have HLB := hidMk (op_back ok (op_range hbo))
  have BX := hidMk bx
  rw [hk] at ck
  clear hk hbo lbo
  go_upto_region 15 with fail
  clear ck
  go_wp2_with (first
    | (refine wpList_val rfl (exec_load (t := 3) (u := .pointer (some ⟨bo, 0 + 68, none⟩)) rfl rfl HLB.out) ?_)
    | (go_at_call 27; refine (HU.out _ BX.out).mono ?_; rintro e w2 ⟨rfl, g', p', r1, r2, r3, r4⟩)
    | fail)
  go_ret
  exact ⟨rfl, g', p', fun j hj => r1 j (Nat.lt_of_lt_of_le hj BX.out.size), Tch.trans (tch_below BX.out) r2, r3.mono (Nat.le_succ _)⟩
set_option maxRecDepth 100000 in
set_option maxHeartbeats 4000000 in
theorem step_other {B x t d m : Nat} {p : Pl} {g : Nat → Nat} {w : World} (h : PX B x t d m p g w) (hB : B ≤ w.heap.size) (hm : m + 1 ≤ 1300000000000) (o : OpV) (ok : o.ok) (h0 : ¬ o.kind = 0) (h1 : ¬ o.kind = 1) (h2 : ¬ o.kind = 2) (h3 : ¬ o.kind = 3) : Calls Try.prog 12 #[.pointer (some ⟨x, 0, none⟩), .agg o.c.toArray] w (SPost B x t d m g w) := by
  go_enter Try.func12, Try.ntmps12
  go_upto_region 3 with fail
  obtain ⟨hbo, bx, zx⟩ := op_box w o
  generalize w.alloc (.cells o.c.toArray 39) = W at *
  have lbo : w.heap.size < W.heap.size := by omega
  have ck : W.cell? ⟨w.heap.size, 0, none⟩ = some (.int .i64 o.kind) := op_range hbo 0 _ rfl
  clear zx
  obtain ⟨bo, hbb⟩ : ∃ bo, w.heap.size = bo := ⟨_, rfl⟩
  have HBB := hidMk hbb
  rw [hbb] at hbo ck lbo ⊢
  clear hbb
  generalize o.kind = kz at *
  have BX := hidMk bx
  clear hbo lbo bx
  go_wp2
  go_ret
  exact ⟨rfl, g, p, Ext.refl _ _, tch_below BX.out, (h.below BX.out).mono (Nat.le_succ _)⟩
theorem play_step {B x t d m : Nat} {p : Pl} {g : Nat → Nat} {w : World} (h : PX B x t d m p g w) (hB : B ≤ w.heap.size) (hm : m + 1 ≤ 1300000000000) (o : OpV) (ok : o.ok) : Calls Try.prog 12 #[.pointer (some ⟨x, 0, none⟩), .agg o.c.toArray] w (SPost B x t d m g w) := by
  by_cases h0 : o.kind = 0
  · by_cases hc : gC p.f o.id o.under = 0
    · exact step_grow_ok h hB hm o ok h0 hc
    · exact step_grow_no h hB hm o ok h0 hc
  · by_cases h1 : o.kind = 1
    · by_cases hc : mC p.f o.id o.under = 0
      · exact step_move_ok h hB hm o ok h1 hc
      · exact step_move_no h hB hm o ok h1 hc
    · by_cases h2 : o.kind = 2
      · by_cases hc : pC p.f o.id = 0
        · exact step_prune_ok h hB hm o ok h2 hc
        · exact step_prune_no h hB hm o ok h2 hc
      · by_cases h3 : o.kind = 3
        · exact step_undo h hB hm o ok h3
        · exact step_other h hB hm o ok h0 h1 h2 h3
end Go.Proofs.Ytoofljkgdjjllaa

namespace Go.Proofs.Ytoofljkgdjjllaa
open Go.RowKit
set_option linter.unusedVariables false
set_option linter.unusedSimpArgs false

theorem szOp : (Try.prog.info? 39).map (·.size) = some 69 := by kernel_rfl
theorem load_op {w : World} {b o : Nat} {x : OpV} (hx : x.ok) (h : w.rangeAt b o x.c) : (Instr.loadAt 39 (.pointer (some ⟨b, o, none⟩))).run Try.prog w = .ok (.agg x.c.toArray) w :=
  run_loadAt_mid (P := Try.prog) w b o 39 x.c _ h Try.underlying39 rfl (by rw [OpV.len hx]; exact szOp)
theorem px_alike {B x t d m : Nat} {p : Pl} {g : Nat → Nat} {w : World} (h : PX B x t d m p g w) (hm : m ≤ 1300000000000) (a : Option Addr) (c : Nat) (I : List IdK) (hI : IdsAt w a I) (oI : ∀ y ∈ I, y.ok) (lI : I.length ≤ 7000000000000) :
    Calls Try.prog 13 #[.pointer (some ⟨t, 0, none⟩), .pointer (some ⟨d, 0, none⟩), .slice a I.length c] w fun e w' => e = .returned (.bool true) ∧ Below w.heap.size w w' := by
  have hr := h.ps.ref.ref
  have hmn := h.mn
  have hD := ref_dom _ _ _ hr
  have hR := tells_ref _ _ _ hr (by rw [h.ln.eq]; exact h.ps.own.ft) (by omega)
  rw [h.ln.eq, h.d] at hR
  rw [h.ln.eq] at hD
  have hT := tells_own h.ps.own hD (by rw [List.length_map]; omega)
  rw [h.t] at hT
  refine alike_any w _ _ p.f _ h.ps.own.ft hD (by rw [List.length_map]; omega) (fun k => ?_) a c I hI oI lI hT hR
  have hE := h.ps.own.eq
  unfold nd
  cases hq : p.f k with
  | none => exact zId_ok
  | some n =>
    rw [← hE] at hq
    obtain ⟨j, _, hj, _⟩ := fPos_some hq
    exact h.ps.own.tree.tr.uok _ (List.mem_of_getElem? hj)
def p0 (s : Tr) (d x : Nat) : Pl := ⟨x, s, [], fun _ => none, d, [], [], .slice none 0 0, .slice none 0 0, [], .slice none 0 0, [], .slice none 0 0, []⟩
open Classical in
noncomputable def g0 (s : Tr) (d x : Nat) (j : Nat) : Nat := if j ∈ s.bl then 1 else if j = d then 3 else if j = x then 4 else 0
theorem px_start {w w1 w2 w3 : World} {s : Tr} {d : Nat} (b1 : Below w.heap.size w w1) (hs : Own w1.heap.size w2 s [] (fun _ => none)) (b2 : Below w1.heap.size w1 w2) (hd : RefP w2.heap.size w3 d [] [] (.slice none 0 0) (.slice none 0 0) []) (b3 : Below w2.heap.size w2 w3) :
    PX w.heap.size w3.heap.size s.t d 0 (p0 s d w3.heap.size) (g0 s d w3.heap.size) (w3.alloc (.cells #[.pointer (some ⟨s.t, 0, none⟩), .pointer (some ⟨d, 0, none⟩), .slice none 0 0, .slice none 0 0] 32)) ∧
    Below w.heap.size w (w3.alloc (.cells #[.pointer (some ⟨s.t, 0, none⟩), .pointer (some ⟨d, 0, none⟩), .slice none 0 0, .slice none 0 0] 32)) := by
  have z1 := b1.size
  have z2 := b2.size
  have z3 := b3.size
  have b4 : Below w3.heap.size w3 (w3.alloc (.cells #[.pointer (some ⟨s.t, 0, none⟩), .pointer (some ⟨d, 0, none⟩), .slice none 0 0, .slice none 0 0] 32)) := (Below.refl _ _).alloc (Nat.le_refl _) _
  have z4 : (w3.alloc (.cells #[.pointer (some ⟨s.t, 0, none⟩), .pointer (some ⟨d, 0, none⟩), .slice none 0 0, .slice none 0 0] 32)).heap.size = w3.heap.size + 1 := by simp
  have hx := heap_alloc_new w3 (.cells #[.pointer (some ⟨s.t, 0, none⟩), .pointer (some ⟨d, 0, none⟩), .slice none 0 0, .slice none 0 0] 32)
  generalize w3.alloc (.cells #[.pointer (some ⟨s.t, 0, none⟩), .pointer (some ⟨d, 0, none⟩), .slice none 0 0, .slice none 0 0] 32) = w4 at *
  have sl : ∀ j ∈ s.bl, w1.heap.size ≤ j ∧ j < w2.heap.size := fun j hj => ⟨hs.ge j hj, hs.tree.tr.lt j hj⟩
  have dl := hd.ge d (Or.inl rfl)
  have hs4 := (hs.below b3).below b4
  have hd4 := hd.below b4
  have G1 : ∀ j ∈ s.bl, g0 s d w3.heap.size j = 1 := fun j hj => by unfold g0; rw [if_pos hj]
  have Gd : g0 s d w3.heap.size d = 3 := by unfold g0; rw [if_neg (fun q => by have := sl d q; omega), if_pos rfl]
  have Gx : g0 s d w3.heap.size w3.heap.size = 4 := by unfold g0; rw [if_neg (fun q => by have := sl _ q; omega), if_neg (by omega), if_pos rfl]
  refine ⟨⟨rfl, rfl, rfl, ⟨⟨hs4.tree, hs4.eq, hs4.ft, fun j hj => by have := sl j hj; omega, by simp [p0]⟩, ⟨hd4.cell, ⟨rfl, Or.inl ⟨rfl, rfl⟩⟩, ⟨rfl, Or.inl ⟨rfl, rfl⟩⟩, rfl, by simp [p0], by show w.heap.size ≤ d; omega, by simp [p0], by simp [p0], by simp [p0], by simp [p0], by simp [p0], by simp [p0]⟩, hx, ⟨rfl, Or.inl ⟨rfl, rfl⟩⟩, ⟨rfl, Or.inl ⟨rfl, rfl⟩⟩, by simp [p0], G1, by simp [p0], ?_, ?_, ?_, ?_⟩, ⟨by funext y; rfl, HM.nil, rfl, by simp [p0], by simp [p0], by simp [p0], ?_⟩, by simp [p0], by simp [p0], by simp [p0], by simp [p0]⟩, b1.trans ((b2.mono z1).trans ((b3.mono (by omega)).trans (b4.mono (by omega))))⟩
  · rintro j (rfl | q | q | ⟨i, u, hu, q⟩)
    · exact Gd
    · cases q
    · cases q
    · simp [p0] at hu
  · rintro j (rfl | q | q)
    · exact Gx
    · cases q
    · cases q
  · intro j hj
    unfold g0
    rw [if_neg (fun q => by have := sl j q; omega), if_neg (by omega), if_neg (by omega)]
  · intro j hj
    unfold g0 at hj
    by_cases q1 : j ∈ s.bl
    · have := sl j q1; omega
    · rw [if_neg q1] at hj
      by_cases q2 : j = d
      · omega
      · rw [if_neg q2] at hj
        by_cases q3 : j = w3.heap.size
        · omega
        · rw [if_neg q3] at hj; exact absurd rfl hj
  · intro n h1 h2
    simp [p0] at h2
    omega
theorem px_below {B : Nat} {g : Nat → Nat} {w0 w w' : World} {x t d m : Nat} {p : Pl} (h : PX w0.heap.size x t d m p g w) (b : Below w0.heap.size w0 w) (tc : Tch (Mut g) w w') : Below w0.heap.size w0 w' :=
  b.trans (tc.below b.size fun j hj => h.ps.gB j (by rcases hj with q | q | q <;> rw [q] <;> decide))
end Go.Proofs.Ytoofljkgdjjllaa

namespace Go.Proofs.Ytoofljkgdjjllaa.B
open Go.RowKit
set_option linter.unusedVariables false
set_option linter.unusedSimpArgs false

def rpC (n : Nat) (x : List Value) : List Value := (List.replicate n x).flatten
theorem rpC_len (n : Nat) (x : List Value) : (rpC n x).length = n * x.length := by simp [rpC]
theorem rpC_cons (n : Nat) (x : List Value) : rpC (n + 1) x = x ++ rpC n x := by simp [rpC, List.replicate_succ]
theorem rpC_succ (n : Nat) (x : List Value) : rpC n x ++ x = rpC (n + 1) x := by
  unfold rpC
  rw [List.replicate_succ', List.flatten_append]
  simp
theorem rpC_get {x : List Value} {j : Nat} (hj : j < x.length) : ∀ {n k : Nat}, k < n → (rpC n x)[k * x.length + j]? = x[j]?
  | 0, k, h => by omega
  | n + 1, 0, h => by rw [rpC_cons, Nat.zero_mul, Nat.zero_add, List.getElem?_append_left hj]
  | n + 1, k + 1, h => by
    rw [rpC_cons, List.getElem?_append_right (by rw [Nat.succ_mul]; omega), show (k + 1) * x.length + j - x.length = k * x.length + j by rw [Nat.succ_mul]; omega]
    exact rpC_get hj (by omega)
theorem rpC_pre (n m : Nat) (x : List Value) {j : Nat} (hj : j < n * x.length) : (rpC (n + m) x)[j]? = (rpC n x)[j]? := by
  have hx : 0 < x.length := by
    rcases Nat.eq_zero_or_pos x.length with h | h
    · rw [h] at hj; omega
    · exact h
  have h1 : j / x.length < n := (Nat.div_lt_iff_lt_mul hx).2 hj
  have h2 : j = j / x.length * x.length + j % x.length := by rw [Nat.mul_comm]; exact (Nat.div_add_mod j x.length).symm
  rw [h2, rpC_get (Nat.mod_lt _ hx) (by omega), rpC_get (Nat.mod_lt _ hx) h1]
def fillC (k : Nat) (x L : List Value) : List Value := rpC k x ++ L.drop (k * x.length)
theorem fillC_zero (x L : List Value) : fillC 0 x L = L := by simp [fillC, rpC]
theorem fillC_all {n : Nat} {x L : List Value} (h : L.length = n * x.length) : fillC n x L = rpC n x := by
  unfold fillC
  rw [← h, List.drop_length, List.append_nil]
def RdC (w : World) (a : Option Addr) (n : Nat) (x : List Value) : Prop := n = 0 ∨ ∃ b off, a = some ⟨b, off, none⟩ ∧ ∀ j u, (rpC n x)[j]? = some u → w.cell? ⟨b, off + j, none⟩ = some u
theorem RdC.grown {w w' : World} {a : Option Addr} {n : Nat} {x : List Value} {row : Option Nat} (h : RdC w a n x) (gr : w.grownBy w' row) (hne : 0 < n → ∀ b off, a = some ⟨b, off, none⟩ → some b ≠ row) : RdC w' a n x := by
  rcases h with rfl | ⟨b, off, rfl, hc⟩
  · exact .inl rfl
  · rcases Nat.eq_zero_or_pos n with h0 | h0
    · exact .inl h0
    · exact .inr ⟨b, off, rfl, fun j u hj => gr.cell (hc j u hj) (hne h0 b off rfl)⟩
theorem RdC.below {w w' : World} {a : Option Addr} {n : Nat} {x : List Value} (h : RdC w a n x) (hb : Below w.heap.size w w') : RdC w' a n x := by
  rcases h with rfl | ⟨b, off, rfl, hc⟩
  · exact .inl rfl
  · exact .inr ⟨b, off, rfl, fun j u hj => (hb.cell (p := ⟨b, off + j, none⟩) (block_lt_of_cell (hc j u hj))).trans (hc j u hj)⟩
theorem own_rd {w : World} {base e sz : Nat} {a : Option Addr} {n c : Nat} {x : List Value} (h : w.ownsRow base e sz (.slice a n c) n (rpC n x)) : RdC w a n x := by
  have hc := fun g hg => World.ownsRow.cells h (g := g) hg
  rcases h.2 with ⟨_, hn⟩ | ⟨g, cap, cur, ev, _⟩
  · exact .inl hn
  · cases ev
    refine .inr ⟨g, 0, rfl, fun j u hj => ?_⟩
    have := hc g rfl j u hj
    rw [Addr.add_mid] at this
    exact this
theorem own_slice {w : World} {base e sz n : Nat} {v : Value} {xs : List Value} (h : w.ownsRow base e sz v n xs) : ∃ a c, v = .slice a n c := by
  rcases h.2 with ⟨rfl, rfl⟩ | ⟨g, cap, cur, rfl, _⟩
  · exact ⟨_, _, rfl⟩
  · exact ⟨_, _, rfl⟩
theorem own_below {w w' : World} {base e sz n : Nat} {v : Value} {xs : List Value} (h : w.ownsRow base e sz v n xs) (hb : Below w.heap.size w w') : w'.ownsRow base e sz v n xs :=
  World.ownsRow.kept h (row := none) ⟨hb.os, hb.tape, hb.output, hb.size, fun k hk _ => hb.block k hk⟩ (by cases hx : v.ownBlock <;> simp)
theorem own_other {w : World} {q base j e sz n : Nat} {v u : Value} {xs : List Value} (h : w.ownsRow base e sz v n xs) (hq : v.ownBlock ≠ some q) : (w.setCell ⟨q, j, none⟩ u).ownsRow base e sz v n xs := by
  refine ⟨h.1, ?_⟩
  rcases h.2 with hn | ⟨g, cap, cur, rfl, hbg, hg, rest⟩
  · exact .inl hn
  · refine .inr ⟨g, cap, cur, rfl, hbg, ?_, rest⟩
    rw [Below.heap_setCell _ _ _ _ (fun e => hq (by simp [Value.ownBlock]; exact e))]
    exact hg
theorem own_put {w : World} {base g n cap r e sz : Nat} {F : List Value} (h : w.ownsRow base e sz (.slice (some ⟨g, 0, none⟩) n cap) n F) (x : Value) (hr : r < F.length) : (w.setCell ⟨g, r, none⟩ x).ownsRow base e sz (.slice (some ⟨g, 0, none⟩) n cap) n (F.set r x) := by
  rcases h.2 with ⟨e, _⟩ | ⟨g', cap', cur, ev, hbg, hg, hnc, hcm, hcs, htake⟩
  · cases e
  · cases ev
    refine ⟨by rw [List.length_set]; exact h.1, .inr ⟨g, cap, _, rfl, hbg, heap_setCell_same w g r _ e _ hg, hnc, hcm, by simpa using hcs, ?_⟩⟩
    rw [Array.toList_setIfInBounds, List.take_set, htake]
theorem run_app3 {P : Program} (w : World) (base : Nat) (t ty e : TypeId) (i : TypeInfo) (z : Value) (size bytes : Nat) (ht : P.underlying t = some (.slice e)) (hi : P.info? e = some i) (hz : i.zero = some z)
    (hsize : i.size = size) (hby : i.bytes = bytes) (hzs : z.cells.size = size) (hsz : 0 < size) (v : Value) (n : Nat) (xs : List Value) (hown : w.ownsRow base e size v n xs)
    (ad : Addr) (c : Nat) (news : List Value) (hl : news.length = 1 * size) (hnews : ∀ j u, news[j]? = some u → w.cell? (ad.add j) = some u) (h1 : ∀ u ∈ news, u.oneCell' = true)
    (h63 : n + 1 ≤ maxLen) (hbytes : (n + 1) * bytes ≤ 140737488355328) (hbase : base ≤ w.heap.size) :
    ∃ v' w', (Builtin.append_ #[t, t] ty #[v, .slice (some ad) 1 c]).run P w = .ok v' w' ∧ w'.ownsRow base e size v' (n + 1) (xs ++ news) ∧ w.grownBy w' v.ownBlock ∧
      (v'.ownBlock = v.ownBlock ∨ v'.ownBlock = some w.heap.size ∧ Below w.heap.size w w') := by
  obtain ⟨v', w', hr, own, gr, _, hblk⟩ := run_append_own_at (P := P) w base t ty e i z size bytes ht hi hz hsize hby hzs hsz v n xs hown ad 1 c news hl hnews h1 h63 hbytes hbase
  refine ⟨v', w', hr, own, gr, ?_⟩
  rcases hblk with e1 | e1
  · exact .inl e1
  · refine .inr ⟨e1, ?_⟩
    cases hv : v.ownBlock with
    | none => exact (Below.refl _ _).grown gr (Nat.le_refl _) (fun k hk => by rw [hv] at hk; cases hk)
    | some g =>
      rcases hown.2 with ⟨rfl, hn⟩ | ⟨g', cap, cur, rfl, hbg, hg, hnc, hcm, hcs, htake⟩
      · simp [Value.ownBlock] at hv
      · have hg' : g' < w.heap.size := (Array.getElem?_eq_some_iff.1 hg).1
        subst hsize hby
        by_cases hroom : n + 1 ≤ cap
        · have hr2 := run_append_room (P := P) w t ty e i ht hi g' n cap cur hg ad 1 c news (by rw [hl]) hnews h1 hroom (by rw [hl, hcs, ← Nat.add_mul]; exact Nat.mul_le_mul_right _ hroom)
          rw [hr] at hr2
          injection hr2 with e2 e3
          rw [e2] at e1
          simp [Value.ownBlock] at e1
          omega
        · have hr2 := run_append_grow (P := P) w t ty e i z ht hi hz ⟨g', 0, none⟩ n cap xs (by rw [hown.1]) (hown.cells (g := g') rfl) ad 1 c news (by rw [hl]) hnews (by omega) (by unfold maxLen at h63; omega) (growslice_fits (by omega) (by simpa using hbytes))
          rw [hr] at hr2
          injection hr2 with e2 e3
          rw [e3]
          exact (below_drewN (Below.refl _ _) 1).alloc (Nat.le_refl _) _
theorem grow_step {wa w' : World} {base W n cap m e sz : Nat} {a : Option Addr} {x : List Value} {g g' : Value} (hW : W ≤ wa.heap.size) (hx : 0 < x.length)
    (hB : RdC wa a n x) (hv : ∀ b off, 0 < n → a = some ⟨b, off, none⟩ → (Value.slice a n cap).ownBlock = some b ∧ off = 0 ∧ b < W)
    (own' : w'.ownsRow base e sz g' (n + m + 1) (rpC (n + m + 1) x)) (gr : wa.grownBy w' g.ownBlock)
    (h4 : g'.ownBlock = g.ownBlock ∨ g'.ownBlock = some wa.heap.size ∧ Below wa.heap.size wa w')
    (hg : g.ownBlock = (Value.slice a n cap).ownBlock ∨ ∃ b, g.ownBlock = some b ∧ W ≤ b) :
    RdC w' a n x ∧ (g'.ownBlock = (Value.slice a n cap).ownBlock ∨ ∃ b, g'.ownBlock = some b ∧ W ≤ b) := by
  refine ⟨?_, ?_⟩
  · rcases hB with h0 | ⟨b, off, rfl, hc⟩
    · exact .inl h0
    by_cases hn : 0 < n
    · obtain ⟨hvb, rfl, hbW⟩ := hv b off hn rfl
      rcases hg with e1 | ⟨b2, e1, hb2⟩
      · rcases h4 with e4 | ⟨e4, bl⟩
        · have eo : g'.ownBlock = some b := by rw [e4, e1, hvb]
          refine .inr ⟨b, 0, rfl, fun j u hj => ?_⟩
          have hjl : j < n * x.length := by
            have := (List.getElem?_eq_some_iff.1 hj).1
            rwa [rpC_len] at this
          have hj2 : (rpC (n + m + 1) x)[j]? = some u := by rw [Nat.add_assoc, rpC_pre n (m + 1) x hjl]; exact hj
          have := World.ownsRow.cells own' eo j u hj2
          rw [Addr.add_mid] at this
          exact this
        · exact .inr ⟨b, 0, rfl, fun j u hj => (bl.cell (p := ⟨b, 0 + j, none⟩) (block_lt_of_cell (hc j u hj))).trans (hc j u hj)⟩
      · exact .inr ⟨b, 0, rfl, fun j u hj => gr.cell (hc j u hj) (fun e3 => by rw [e1] at e3; simp at e3; omega)⟩
    · left; omega
  · rcases h4 with e4 | ⟨e4, _⟩
    · rw [e4]; exact hg
    · exact .inr ⟨_, e4, hW⟩
structure Lst where
  a : Option Addr
  n : Nat
  c : Nat
def Lst.v (l : Lst) : Value := .slice l.a l.n l.c
structure BookAt (w : World) (q fi B cB N : Nat) (qo : Option Obj) (V : Nat → Lst) : Prop where
  cq : w.cell? ⟨q, fi, none⟩ = some (.slice (some ⟨B, 0, none⟩) N cB)
  cr : ∀ i, i < N → w.cell? ⟨B, i, none⟩ = some (V i).v
  ho : w.heap[q]? = qo
  lB : B < w.heap.size
theorem BookAt.keep {w w' : World} {q fi B cB N : Nat} {qo : Option Obj} {V : Nat → Lst} (h : BookAt w q fi B cB N qo V) (hq : w'.heap[q]? = w.heap[q]?) (hB : w'.heap[B]? = w.heap[B]?) (hs : w.heap.size ≤ w'.heap.size) : BookAt w' q fi B cB N qo V :=
  ⟨(World.cell?_of_block hq).trans h.cq, fun i hi => (World.cell?_of_block hB).trans (h.cr i hi), hq.trans h.ho, Nat.lt_of_lt_of_le h.lB hs⟩
theorem BookAt.lq {w : World} {q fi B cB N : Nat} {qo : Option Obj} {V : Nat → Lst} (h : BookAt w q fi B cB N qo V) : q < w.heap.size := block_lt_of_cell h.cq
def Tg (tg : Nat → Nat) (v : Value) (t : Nat) : Prop := ∀ b, v.ownBlock = some b → tg b = t
structure Ph1 (w0 w : World) (base q fi B cB N e sz : Nat) (qo : Option Obj) (V : Nat → Lst) (tg : Nat → Nat) (F : Nat → List Value) : Prop where
  bk : BookAt w q fi B cB N qo V
  tq : tg q = 0
  tB : tg B = 0
  ow : ∀ i, i < N → w.ownsRow base e sz (V i).v (V i).n (F i) ∧ Tg tg (V i).v (i + 1)
  be : Below base w0 w
  fr : ∀ k, k < w0.heap.size → tg k = 0 → w.heap[k]? = w0.heap[k]?
def upF (F : Nat → List Value) (m : Nat) (l : List Value) : Nat → List Value := fun i => if i = m then l else F i
theorem upF_at (F : Nat → List Value) (m : Nat) (l : List Value) : upF F m l m = l := by unfold upF; rw [if_pos rfl]
theorem upF_up (F : Nat → List Value) (m : Nat) (l l' : List Value) : upF (upF F m l) m l' = upF F m l' := by
  funext i
  unfold upF
  split <;> rfl
theorem Ph1.set {w0 w : World} {base q fi B cB N e sz : Nat} {qo : Option Obj} {V : Nat → Lst} {tg : Nat → Nat} {F : Nat → List Value} (h : Ph1 w0 w base q fi B cB N e sz qo V tg F) (m r g : Nat) (x : Value) (hm : m < N) (hr : r < (F m).length) (hg : (V m).a = some ⟨g, 0, none⟩) (hbg : base ≤ g) :
    Ph1 w0 (w.setCell ⟨g, r, none⟩ x) base q fi B cB N e sz qo V tg (upF F m ((F m).set r x)) := by
  have hv : (V m).v = .slice (some ⟨g, 0, none⟩) (V m).n (V m).c := by unfold Lst.v; rw [hg]
  have tm : tg g = m + 1 := (h.ow m hm).2 g (by rw [hv]; rfl)
  have ne : ∀ b, tg b ≠ m + 1 → b ≠ g := fun b hb e => hb (by rw [e]; exact tm)
  have hset : ∀ b, b ≠ g → (w.setCell ⟨g, r, none⟩ x).heap[b]? = w.heap[b]? := fun b hb => Below.heap_setCell _ _ _ _ hb
  refine ⟨h.bk.keep (hset q (ne q (by rw [h.tq]; omega))) (hset B (ne B (by rw [h.tB]; omega))) (by simp [World.setCell]), h.tq, h.tB, fun i hi => ?_, h.be.setCell hbg _, fun k hk ht => (hset k (ne k (by rw [ht]; omega))).trans (h.fr k hk ht)⟩
  obtain ⟨o, t⟩ := h.ow i hi
  unfold upF
  by_cases e : i = m
  · subst e
    rw [if_pos rfl]
    refine ⟨?_, t⟩
    rw [hv] at o ⊢
    exact own_put o x hr
  · rw [if_neg e]
    exact ⟨own_other o (fun e2 => by have := t g e2; omega), t⟩
structure Ph2 (w0 w : World) (base q fi B cB N e sz te : Nat) (qo : Option Obj) (V : Nat → Lst) (X : Nat → List Value) (tz tg : Nat → Nat) (lo m : Nat) (G : Nat → Value) (all : Value) : Prop where
  bk : BookAt w q fi B cB N qo V
  tq : tg q = 0
  tB : tg B = 0
  rd : ∀ i, i < N → RdC w (V i).a (V i).n (X i) ∧ Tg tg (V i).v (i + 1) ∧ ∀ b, (V i).v.ownBlock = some b → b < w.heap.size
  ow : ∀ i, lo ≤ i → i < N → w.ownsRow base e sz (V i).v (V i).n (rpC (V i).n (X i))
  gs : ∀ i, i < m → w.ownsRow base e sz (G i) ((V i).n + 20) (rpC ((V i).n + 20) (X i)) ∧ Tg tg (G i) (i + 1)
  al : w.ownsRow base te 1 all m ((List.range m).map G) ∧ Tg tg all (N + 1)
  be : Below base w0 w
  zb : base ≤ w.heap.size
  z0 : w0.heap.size ≤ w.heap.size
  fr : ∀ k, k < w0.heap.size → tz k = 0 → tg k = 0 ∧ w.heap[k]? = w0.heap[k]?
def tgN (tg : Nat → Nat) (z t : Nat) : Nat → Nat := fun b => if b < z then tg b else t
section
variable {w0 w w' : World} {base q fi B cB N e sz te : Nat} {qo : Option Obj} {V : Nat → Lst} {X : Nat → List Value} {tz tg : Nat → Nat} {lo m : Nat} {G : Nat → Value} {all : Value}
theorem Ph2.below (h : Ph2 w0 w base q fi B cB N e sz te qo V X tz tg lo m G all) (hb : Below w.heap.size w w') : Ph2 w0 w' base q fi B cB N e sz te qo V X tz tg lo m G all :=
  ⟨h.bk.keep (hb.block q h.bk.lq) (hb.block B h.bk.lB) hb.size, h.tq, h.tB, fun i hi => ⟨(h.rd i hi).1.below hb, (h.rd i hi).2.1, fun b e => Nat.lt_of_lt_of_le ((h.rd i hi).2.2 b e) hb.size⟩,
    fun i h1 h2 => own_below (h.ow i h1 h2) hb, fun i hi => ⟨own_below (h.gs i hi).1 hb, (h.gs i hi).2⟩, ⟨own_below h.al.1 hb, h.al.2⟩, h.be.trans (hb.mono h.zb), Nat.le_trans h.zb hb.size, Nat.le_trans h.z0 hb.size, fun k hk ht => ⟨(h.fr k hk ht).1, (hb.block k (Nat.lt_of_lt_of_le hk h.z0)).trans (h.fr k hk ht).2⟩⟩
theorem Tg.new {v : Value} {t : Nat} (z t' : Nat) (h : Tg tg v t) (hl : ∀ b, v.ownBlock = some b → b < z) : Tg (tgN tg z t') v t := fun b e => by
  unfold tgN
  rw [if_pos (hl b e)]
  exact h b e
theorem Ph2.grow (h : Ph2 w0 w base q fi B cB N e sz te qo V X tz tg lo m G all) (t : Nat) (v v' : Value) (h1 : 1 ≤ t) (gr : w.grownBy w' v.ownBlock) (ht : Tg tg v t) (hv : ∀ b, v.ownBlock = some b → base ≤ b ∧ b < w.heap.size) (hblk : v'.ownBlock = v.ownBlock ∨ v'.ownBlock = some w.heap.size)
    (hrd : ∀ i, i + 1 = t → i < N → RdC w' (V i).a (V i).n (X i)) (how : ∀ i, lo ≤ i → i < N → i + 1 ≠ t) (hgs : ∀ i, i < m → i + 1 ≠ t) (hal : N + 1 ≠ t) : Ph2 w0 w' base q fi B cB N e sz te qo V X tz (tgN tg w.heap.size t) lo m G all ∧ Tg (tgN tg w.heap.size t) v' t := by
  have ne : ∀ b, tg b ≠ t → some b ≠ v.ownBlock := fun b hb e => hb (ht b e.symm)
  have kp : ∀ {e : TypeId} {sz n : Nat} {u : Value} {xs : List Value} {s : Nat}, w.ownsRow base e sz u n xs → Tg tg u s → s ≠ t → w'.ownsRow base e sz u n xs := fun {e sz n u xs s} o tu hs => World.ownsRow.kept o gr (by
    cases hx : u.ownBlock with
    | none => exact .inl rfl
    | some b => exact .inr (fun e => by have := tu b hx; have := ht b e.symm; omega))
  have lt : ∀ {e : TypeId} {sz n : Nat} {u : Value} {xs : List Value}, w.ownsRow base e sz u n xs → ∀ b, u.ownBlock = some b → b < w.heap.size := fun o b e => (World.ownsRow.lt o b e).2
  refine ⟨⟨h.bk.keep (gr.block q h.bk.lq (ne q (by rw [h.tq]; omega))) (gr.block B h.bk.lB (ne B (by rw [h.tB]; omega))) gr.size, ?_, ?_, fun i hi => ?_, fun i h1 h2 => kp (h.ow i h1 h2) (h.rd i h2).2.1 (how i h1 h2), fun i hi => ⟨kp (h.gs i hi).1 (h.gs i hi).2 (hgs i hi), (h.gs i hi).2.new _ _ (lt (h.gs i hi).1)⟩, ⟨kp h.al.1 h.al.2 hal, h.al.2.new _ _ (lt h.al.1)⟩, h.be.grown gr h.zb (fun b e => (hv b e).1), Nat.le_trans h.zb gr.size, Nat.le_trans h.z0 gr.size, fun k hk ht0 => (by
    have hkz := Nat.lt_of_lt_of_le hk h.z0
    obtain ⟨f1, f2⟩ := h.fr k hk ht0
    refine ⟨?_, (gr.block k hkz (ne k (by rw [f1]; omega))).trans f2⟩
    unfold tgN
    rw [if_pos hkz]
    exact f1)⟩, fun b e => ?_⟩
  · unfold tgN; rw [if_pos h.bk.lq]; exact h.tq
  · unfold tgN; rw [if_pos h.bk.lB]; exact h.tB
  · obtain ⟨r1, r2, r3⟩ := h.rd i hi
    refine ⟨?_, r2.new _ _ r3, fun b e => Nat.lt_of_lt_of_le (r3 b e) gr.size⟩
    by_cases e : i + 1 = t
    · exact hrd i e hi
    · exact r1.grown gr (fun _ b off ea e2 => by
        have : (V i).v.ownBlock = some b := by unfold Lst.v; rw [ea]; rfl
        have := r2 b this
        have := ht b e2.symm
        omega)
  · unfold tgN
    rcases hblk with e2 | e2
    · rw [e2] at e
      rw [if_pos (hv b e).2]
      exact ht b e
    · rw [e2] at e
      cases e
      rw [if_neg (by omega)]
theorem Ph2.done (h : Ph2 w0 w base q fi B cB N e sz te qo V X tz tg (m + 1) m G all) (hm : m < N) (g all' : Value) (og : w.ownsRow base e sz g ((V m).n + 20) (rpC ((V m).n + 20) (X m))) (hg : Tg tg g (m + 1)) (gr : w.grownBy w' all.ownBlock) (hblk : all'.ownBlock = all.ownBlock ∨ all'.ownBlock = some w.heap.size)
    (rows : w'.ownsRow base te 1 all' (m + 1) ((List.range m).map G ++ [g])) : ∃ tg', Ph2 w0 w' base q fi B cB N e sz te qo V X tz tg' (m + 1) (m + 1) (fun i => if i = m then g else G i) all' := by
  have ht := h.al.2
  have hv : ∀ b, all.ownBlock = some b → base ≤ b ∧ b < w.heap.size := fun b e => World.ownsRow.lt h.al.1 b e
  have ne : ∀ b, tg b ≠ N + 1 → some b ≠ all.ownBlock := fun b hb e => hb (ht b e.symm)
  have kp : ∀ {e : TypeId} {sz n : Nat} {u : Value} {xs : List Value} {s : Nat}, w.ownsRow base e sz u n xs → Tg tg u s → s ≠ N + 1 → w'.ownsRow base e sz u n xs := fun {e sz n u xs s} o tu hs => World.ownsRow.kept o gr (by
    cases hx : u.ownBlock with
    | none => exact .inl rfl
    | some b => exact .inr (fun e => by have := tu b hx; have := ht b e.symm; omega))
  have lt : ∀ {e : TypeId} {sz n : Nat} {u : Value} {xs : List Value}, w.ownsRow base e sz u n xs → ∀ b, u.ownBlock = some b → b < w.heap.size := fun o b e => (World.ownsRow.lt o b e).2
  refine ⟨tgN tg w.heap.size (N + 1), ⟨h.bk.keep (gr.block q h.bk.lq (ne q (by rw [h.tq]; omega))) (gr.block B h.bk.lB (ne B (by rw [h.tB]; omega))) gr.size, ?_, ?_, fun i hi => ?_, fun i h1 h2 => kp (h.ow i h1 h2) (h.rd i h2).2.1 (by omega), fun i hi => ?_, ⟨?_, fun b e => ?_⟩, h.be.grown gr h.zb (fun b e => (hv b e).1), Nat.le_trans h.zb gr.size, Nat.le_trans h.z0 gr.size, fun k hk ht0 => (by
    have hkz := Nat.lt_of_lt_of_le hk h.z0
    obtain ⟨f1, f2⟩ := h.fr k hk ht0
    refine ⟨?_, (gr.block k hkz (ne k (by rw [f1]; omega))).trans f2⟩
    unfold tgN
    rw [if_pos hkz]
    exact f1)⟩⟩
  · unfold tgN; rw [if_pos h.bk.lq]; exact h.tq
  · unfold tgN; rw [if_pos h.bk.lB]; exact h.tB
  · obtain ⟨r1, r2, r3⟩ := h.rd i hi
    refine ⟨r1.grown gr (fun _ b off ea e2 => ?_), r2.new _ _ r3, fun b e => Nat.lt_of_lt_of_le (r3 b e) gr.size⟩
    have : (V i).v.ownBlock = some b := by unfold Lst.v; rw [ea]; rfl
    have := r2 b this
    have := ht b e2.symm
    omega
  · show w'.ownsRow base e sz (if i = m then g else G i) _ _ ∧ Tg _ (if i = m then g else G i) _
    by_cases e : i = m
    · subst e
      rw [if_pos rfl]
      exact ⟨kp og hg (by omega), hg.new _ _ (lt og)⟩
    · rw [if_neg e]
      have hi2 : i < m := by omega
      exact ⟨kp (h.gs i hi2).1 (h.gs i hi2).2 (by omega), (h.gs i hi2).2.new _ _ (lt (h.gs i hi2).1)⟩
  · have : (List.range (m + 1)).map (fun i => if i = m then g else G i) = (List.range m).map G ++ [g] := by
      rw [List.range_succ, List.map_append]
      congr 1
      · apply List.map_congr_left
        intro i hi
        rw [if_neg (by have := List.mem_range.1 hi; omega)]
      · simp
    rw [this]
    exact rows
  · unfold tgN
    rcases hblk with e2 | e2
    · rw [e2] at e
      rw [if_pos (hv b e).2]
      exact ht b e
    · rw [e2] at e
      cases e
      rw [if_neg (by omega)]
theorem Ph2.weak (h : Ph2 w0 w base q fi B cB N e sz te qo V X tz tg lo m G all) (lo' : Nat) (hl : lo ≤ lo') : Ph2 w0 w base q fi B cB N e sz te qo V X tz tg lo' m G all :=
  ⟨h.bk, h.tq, h.tB, h.rd, fun i h1 h2 => h.ow i (by omega) h2, h.gs, h.al, h.be, h.zb, h.z0, h.fr⟩
def mF (V : Nat → Lst) (X L : Nat → List Value) (m : Nat) : Nat → List Value := fun i => if i < m then rpC (V i).n (X i) else L i
theorem mF_start (V : Nat → Lst) (X L : Nat → List Value) (m : Nat) : upF (mF V X L m) m (fillC 0 (X m) (L m)) = mF V X L m := by
  funext i
  unfold upF mF
  by_cases e : i = m
  · subst e; rw [if_pos rfl, fillC_zero, if_neg (by omega)]
  · rw [if_neg e]
theorem mF_end (V : Nat → Lst) (X L : Nat → List Value) (m : Nat) (h : (L m).length = (V m).n * (X m).length) : upF (mF V X L m) m (fillC (V m).n (X m) (L m)) = mF V X L (m + 1) := by
  funext i
  unfold upF mF
  by_cases e : i = m
  · subst e; rw [if_pos rfl, fillC_all h, if_pos (by omega)]
  · rw [if_neg e]
    by_cases e2 : i < m
    · rw [if_pos e2, if_pos (by omega)]
    · rw [if_neg e2, if_neg (by omega)]
theorem ph2_start {L : Nat → List Value} (h : Ph1 w0 w base q fi B cB N e sz qo V tg (mF V X L N)) (hb : base ≤ w.heap.size) (hz0 : w0.heap.size ≤ w.heap.size) : Ph2 w0 w base q fi B cB N e sz te qo V X tg tg 0 0 (fun _ => .slice none 0 0) (.slice none 0 0) := by
  have key : ∀ i, i < N → w.ownsRow base e sz (V i).v (V i).n (rpC (V i).n (X i)) := fun i hi => by
    have := (h.ow i hi).1
    unfold mF at this
    rwa [if_pos hi] at this
  exact ⟨h.bk, h.tq, h.tB, fun i hi => ⟨own_rd (key i hi), (h.ow i hi).2, fun b e => (World.ownsRow.lt (key i hi) b e).2⟩, fun i _ hi => key i hi, fun i hi => by omega, ⟨World.ownsRow_nil _ _ _ _, fun b e => by cases e⟩, h.be, hb, hz0, fun k hk ht => ⟨ht, h.fr k hk ht⟩⟩
def Gr (w : World) (base e sz W : Nat) (tg : Nat → Nat) (x : List Value) (m n0 k0 k : Nat) (a0 : Option Addr) (g : Value) : Prop :=
  w.ownsRow base e sz g (n0 + k) (rpC (n0 + k) x) ∧ Tg tg g (m + 1) ∧ (g.ownBlock = (Value.slice a0 n0 k0).ownBlock ∨ ∃ b, g.ownBlock = some b ∧ W ≤ b) ∧ W ≤ w.heap.size
noncomputable def tgOf (N : Nat) (V : Nat → Lst) (b : Nat) : Nat := @dite _ (∃ i, i < N ∧ (V i).v.ownBlock = some b) (Classical.propDecidable _) (fun h => Classical.choose h + 1) (fun _ => 0)
theorem tgOf_own (sep : ∀ i j, i < N → j < N → ∀ b, (V i).v.ownBlock = some b → (V j).v.ownBlock = some b → i = j) (i : Nat) (hi : i < N) : Tg (tgOf N V) (V i).v (i + 1) := fun b e => by
  have hx : ∃ i, i < N ∧ (V i).v.ownBlock = some b := ⟨i, hi, e⟩
  unfold tgOf
  rw [dif_pos hx]
  have hs := Classical.choose_spec hx
  rw [sep _ i hs.1 hi b hs.2 e]
theorem tgOf_no (b : Nat) (h : ∀ i, i < N → (V i).v.ownBlock ≠ some b) : tgOf N V b = 0 := by
  unfold tgOf
  rw [dif_neg]
  rintro ⟨i, hi, e⟩
  exact h i hi e
end
end Go.Proofs.Ytoofljkgdjjllaa.B

namespace Go.Proofs.Ytoofljkgdjjllaa
open Go.RowKit
set_option linter.unusedVariables false

section
variable {P : Program} {ops : Array Oper} {rest : List Oper} {o : Oper} {a : Act} {w w2 : World} {Q : Exit → Act → World → Prop}
theorem qk {v : Value} {d : Nat} (hw : Region.wanted o (yielded ops a.tmps) = true) (hr : (execOp a.eval o).run P w = .ok (.value v) w2) (h : ∀ a', a' = a.put (some d) v → wpList P ops Q rest a' w2) (hd : o.dst = some d := by rfl) : wpList P ops Q (o :: rest) a w :=
  wpList_step fun K hK => by
    rw [if_pos hw]
    unfold Oper.wp
    rw [hr]
    exact hK _ _ (by rw [hd]; exact h _ rfl)
theorem qs (hw : Region.wanted o (yielded ops a.tmps) = true) (hr : (execOp a.eval o).run P w = .ok .skip w2) (h : wpList P ops Q rest a w2) (hd : o.dst = none := by rfl) : wpList P ops Q (o :: rest) a w :=
  wpList_step fun K hK => by
    rw [if_pos hw]
    unfold Oper.wp
    rw [hr]
    exact hK _ _ (by rw [hd]; exact h)
end
end Go.Proofs.Ytoofljkgdjjllaa

namespace Go.Proofs.Ytoofljkgdjjllaa
open Go.RowKit
set_option linter.unusedVariables false

section
variable {P : Program} {ops : Array Oper} {rest : List Oper} {o : Oper} {a : Act} {w w2 : World} {Q : Exit → Act → World → Prop}
theorem qv {v : Value} {d : Nat} (hw : Region.wanted o (yielded ops a.tmps) = true) (hr : (execOp a.eval o).run P w = .ok (.value v) w) (h : ∀ a', a' = a.put (some d) v → wpList P ops Q rest a' w) (hd : o.dst = some d := by rfl) : wpList P ops Q (o :: rest) a w := qk hw hr h hd
theorem qc {F : Nat} {vs : Array Value} {R : Ending → World → Prop} {d : Nat} (hw : Region.wanted o (yielded ops a.tmps) = true) (hr : (execOp a.eval o).run P w = .ok (.enter F vs) w) (hC : Calls P F vs w R) (h : ∀ e w', R e w' → ∃ v, e = .returned v ∧ ∀ a', a' = a.put (some d) v → wpList P ops Q rest a' w') (hd : o.dst = some d := by rfl) : wpList P ops Q (o :: rest) a w :=
  wpList_step fun K hK => by
    rw [if_pos hw]
    unfold Oper.wp
    rw [hr, Oper.upon_enter]
    refine hC.mono ?_
    intro e w' hp
    obtain ⟨v, rfl, hh⟩ := h e w' hp
    exact hK _ _ (by rw [hd]; exact hh _ rfl)
end
end Go.Proofs.Ytoofljkgdjjllaa

namespace Go.Proofs.Ytoofljkgdjjllaa
open Go.RowKit
set_option linter.unusedVariables false
set_option linter.unusedSimpArgs false

theorem fg_72_2 (b o : Nat) (w : World) : (Instr.fieldAt 72 (.pointer (some ⟨b, o, none⟩)) 2).run Try.prog w = .ok (.pointer (some ⟨b, o + 2, none⟩)) w := by go_simp
def al7_o0 : Oper := ⟨some 35, .move (.tmp 0), 52, "lists.go:214", #[], none⟩
def al7_o1 : Oper := ⟨some 36, .nilCheck (.tmp 35), 0, "lists.go:214", #[⟨0, .data⟩], none⟩
def al7_o2 : Oper := ⟨some 37, .fieldAddr 72 (.tmp 36) 2, 0, "lists.go:214", #[⟨1, .data⟩], none⟩
def al7_o3 : Oper := ⟨some 38, .load 55 (.tmp 37), 55, "lists.go:214", #[⟨2, .data⟩], none⟩
def al7_o4 : Oper := ⟨some 39, .move (.tmp 3), 3, "lists.go:214", #[], none⟩
def al7_o5 : Oper := ⟨some 40, .indexAddr 55 (.tmp 38) (.tmp 39), 0, "lists.go:214", #[⟨3, .data⟩, ⟨4, .data⟩], none⟩
def al7_o6 : Oper := ⟨some 41, .load 41 (.tmp 40), 41, "lists.go:214", #[⟨5, .data⟩], none⟩
def al7_o7 : Oper := ⟨some 42, .move (.tmp 4), 3, "lists.go:214", #[], none⟩
def al7_o8 : Oper := ⟨some 43, .move (.tmp 3), 3, "lists.go:214", #[], none⟩
def al7_o9 : Oper := ⟨some 44, .binOp BinOp.sub 3 (Operand.const (Value.int IntKind.i64 (-7))) (.tmp 43) 3, 3, "lists.go:214", #[⟨8, .data⟩], none⟩
def al7_o10 : Oper := ⟨some 45, .build 37 #[(1, .tmp 44)], 37, "lists.go:214", #[⟨9, .data⟩], none⟩
def al7_o11 : Oper := ⟨some 46, .indexAddr 41 (.tmp 41) (.tmp 42), 0, "lists.go:214", #[⟨6, .data⟩, ⟨7, .data⟩, ⟨0, .phase⟩, ⟨1, .phase⟩, ⟨2, .phase⟩, ⟨3, .phase⟩, ⟨4, .phase⟩, ⟨5, .phase⟩, ⟨6, .phase⟩, ⟨7, .phase⟩, ⟨8, .phase⟩, ⟨9, .phase⟩, ⟨10, .phase⟩], none⟩
def al7_o12 : Oper := ⟨none, .store 37 (.tmp 46) (.tmp 45), 0, "lists.go:214", #[⟨11, .data⟩, ⟨10, .data⟩, ⟨0, .phase⟩, ⟨1, .phase⟩, ⟨2, .phase⟩, ⟨3, .phase⟩, ⟨4, .phase⟩, ⟨5, .phase⟩, ⟨6, .phase⟩, ⟨7, .phase⟩, ⟨8, .phase⟩, ⟨9, .phase⟩, ⟨10, .phase⟩], none⟩
def al7_ops : Array Oper := #[al7_o0, al7_o1, al7_o2, al7_o3, al7_o4, al7_o5, al7_o6, al7_o7, al7_o8, al7_o9, al7_o10, al7_o11, al7_o12]
set_option maxRecDepth 100000 in
set_option maxHeartbeats 4000000 in
theorem al7 (q : Nat) (iv kv lv pb sv pe : Value) (z : Int) (w2 : World) (a : Act) (w : World) (Q : Exit → Act → World → Prop) (hsz : a.tmps.size = 133)
    (t0 : a.tmps.getD 0 undef = .pointer (some ⟨q, 0, none⟩))
    (t3 : a.tmps.getD 3 undef = iv)
    (t4 : a.tmps.getD 4 undef = kv)
    (ES : (Instr.storeAt 37 pe (IdK.v ⟨List.replicate 32 0, z⟩)).run Try.prog w = .ok () w2)
    (G1 : (Instr.loadAt 55 (.pointer (some ⟨q, 0 + 2, none⟩))).run Try.prog w = .ok (lv) w)
    (G2 : ∀ W, (Instr.indexAt 55 (lv) (iv)).run Try.prog W = .ok (pb) W)
    (G3 : (Instr.loadAt 41 (pb)).run Try.prog w = .ok (sv) w)
    (G4 : ∀ W, (eqGuard BinOp.sub 3 (Operand.const (Value.int IntKind.i64 (-7))) (Operand.tmp 43) (.int .i64 (-7)) (iv)).run Try.prog W = .ok () W)
    (G5 : ∀ W, (binOp BinOp.sub 3 (.int .i64 (-7)) (iv)).run Try.prog W = .ok (.int .i64 z) W)
    (G6 : ∀ W, (Instr.indexAt 41 (sv) (kv)).run Try.prog W = .ok (pe) W)
    (h : ∀ (a' : Act) (w' : World), w' = w2 → a' = ((((((((((((a).put (some 35) (.pointer (some ⟨q, 0, none⟩))).put (some 36) (.pointer (some ⟨q, 0, none⟩))).put (some 37) (.pointer (some ⟨q, 0 + 2, none⟩))).put (some 38) (lv)).put (some 39) (iv)).put (some 40) (pb)).put (some 41) (sv)).put (some 42) (kv)).put (some 43) (iv)).put (some 44) (.int .i64 z)).put (some 45) (IdK.v ⟨List.replicate 32 0, z⟩)).put (some 46) (pe) → Q .normal a' w') :
    (Code.region 7 al7_ops false).wp Try.prog Q a w := by
  refine wp_region_list ?_
  change wpList _ _ _ [al7_o0, al7_o1, al7_o2, al7_o3, al7_o4, al7_o5, al7_o6, al7_o7, al7_o8, al7_o9, al7_o10, al7_o11, al7_o12] _ _
  refine qv (v := .pointer (some ⟨q, 0, none⟩)) (by rfl) (exec_move rfl t0) (fun a0 e0 => ?_)
  rw [← e0] at h
  have z0 := pz e0 hsz
  replace t3 := pk e0 t3
  replace t4 := pk e0 t4
  clear t0
  have t35 := pq e0 hsz
  clear e0 hsz
  refine qv (v := .pointer (some ⟨q, 0, none⟩)) (by rfl) (exec_nilCheck rfl t35) (fun a1 e1 => ?_)
  rw [← e1] at h
  have z1 := pz e1 z0
  replace t3 := pk e1 t3
  replace t4 := pk e1 t4
  clear t35
  have t36 := pq e1 z0
  clear e1 z0
  refine qv (v := .pointer (some ⟨q, 0 + 2, none⟩)) (by rfl) (exec_fieldAt rfl t36 (fg_72_2 _ _ _)) (fun a2 e2 => ?_)
  rw [← e2] at h
  have z2 := pz e2 z1
  replace t3 := pk e2 t3
  replace t4 := pk e2 t4
  clear t36
  have t37 := pq e2 z1
  clear e2 z1
  refine qv (v := lv) (by rfl) (exec_load rfl t37 G1) (fun a3 e3 => ?_)
  rw [← e3] at h
  have z3 := pz e3 z2
  replace t3 := pk e3 t3
  replace t4 := pk e3 t4
  clear t37
  have t38 := pq e3 z2
  clear e3 z2
  refine qv (v := iv) (by rfl) (exec_move rfl t3) (fun a4 e4 => ?_)
  rw [← e4] at h
  have z4 := pz e4 z3
  replace t3 := pk e4 t3
  replace t4 := pk e4 t4
  replace t38 := pk e4 t38
  have t39 := pq e4 z3
  clear e4 z3
  refine qv (v := pb) (by rfl) (exec_indexAt rfl t38 t39 (G2 _)) (fun a5 e5 => ?_)
  rw [← e5] at h
  have z5 := pz e5 z4
  replace t3 := pk e5 t3
  replace t4 := pk e5 t4
  clear t38 t39
  have t40 := pq e5 z4
  clear e5 z4
  refine qv (v := sv) (by rfl) (exec_load rfl t40 G3) (fun a6 e6 => ?_)
  rw [← e6] at h
  have z6 := pz e6 z5
  replace t3 := pk e6 t3
  replace t4 := pk e6 t4
  clear t40
  have t41 := pq e6 z5
  clear e6 z5
  refine qv (v := kv) (by rfl) (exec_move rfl t4) (fun a7 e7 => ?_)
  rw [← e7] at h
  have z7 := pz e7 z6
  replace t3 := pk e7 t3
  replace t41 := pk e7 t41
  clear t4
  have t42 := pq e7 z6
  clear e7 z6
  refine qv (v := iv) (by rfl) (exec_move rfl t3) (fun a8 e8 => ?_)
  rw [← e8] at h
  have z8 := pz e8 z7
  replace t41 := pk e8 t41
  replace t42 := pk e8 t42
  clear t3
  have t43 := pq e8 z7
  clear e8 z7
  refine qv (v := .int .i64 z) (by rfl) (exec_binOp rfl rfl t43 (G4 _) (G5 _)) (fun a9 e9 => ?_)
  rw [← e9] at h
  have z9 := pz e9 z8
  replace t41 := pk e9 t41
  replace t42 := pk e9 t42
  clear t43
  have t44 := pq e9 z8
  clear e9 z8
  refine qv (v := IdK.v ⟨List.replicate 32 0, z⟩) (by rfl) (exec_bid z rfl t44) (fun a10 e10 => ?_)
  rw [← e10] at h
  have z10 := pz e10 z9
  replace t41 := pk e10 t41
  replace t42 := pk e10 t42
  clear t44
  have t45 := pq e10 z9
  clear e10 z9
  refine qv (v := pe) (by rfl) (exec_indexAt rfl t41 t42 (G6 _)) (fun a11 e11 => ?_)
  rw [← e11] at h
  have z11 := pz e11 z10
  replace t45 := pk e11 t45
  clear t41 t42
  have t46 := pq e11 z10
  clear e11 z10
  refine qs (by rfl) (exec_store rfl t46 t45 ES) ?_
  exact wpList_nil (h _ _ (rfl) rfl)
def al16_o0 : Oper := ⟨some 67, .move (.tmp 7), 41, "lists.go:221", #[], none⟩
def al16_o1 : Oper := ⟨some 68, .move (.tmp 6), 3, "lists.go:221", #[], none⟩
def al16_o2 : Oper := ⟨some 69, .binOp BinOp.sub 3 (Operand.const (Value.int IntKind.i64 (-7))) (.tmp 68) 3, 3, "lists.go:221", #[⟨1, .data⟩], none⟩
def al16_o3 : Oper := ⟨some 70, .build 37 #[(1, .tmp 69)], 37, "lists.go:221", #[⟨2, .data⟩], none⟩
def al16_o4 : Oper := ⟨some 71, .buildSlice 41 1 #[(0, .tmp 70)], 41, "lists.go:221", #[⟨3, .data⟩], none⟩
def al16_o5 : Oper := ⟨some 72, .call { callee := Callee.builtin Builtin.append, args := #[.tmp 67, .tmp 71], argTypes := #[41, 41] }, 41, "lists.go:221", #[⟨0, .data⟩, ⟨4, .data⟩], none⟩
def al16_o6 : Oper := ⟨some 7, .assign (.tmp 72), 41, "lists.go:221", #[⟨5, .data⟩, ⟨5, .chain⟩, ⟨0, .phase⟩, ⟨1, .phase⟩, ⟨2, .phase⟩, ⟨3, .phase⟩, ⟨4, .phase⟩, ⟨5, .phase⟩], none⟩
def al16_ops : Array Oper := #[al16_o0, al16_o1, al16_o2, al16_o3, al16_o4, al16_o5, al16_o6]
set_option maxRecDepth 100000 in
set_option maxHeartbeats 4000000 in
theorem al16 (gv iv sv rv : Value) (z : Int) (w1 w2 : World) (a : Act) (w : World) (Q : Exit → Act → World → Prop) (hsz : a.tmps.size = 133)
    (t7 : a.tmps.getD 7 undef = gv)
    (t6 : a.tmps.getD 6 undef = iv)
    (EB : (Instr.buildSlice 41 1 #[(0, IdK.v ⟨List.replicate 32 0, z⟩)]).run Try.prog w = .ok sv w1) (EA : (Builtin.append_ #[41, 41] 41 #[gv, sv]).run Try.prog w1 = .ok rv w2)
    (G1 : ∀ W, (eqGuard BinOp.sub 3 (Operand.const (Value.int IntKind.i64 (-7))) (Operand.tmp 68) (.int .i64 (-7)) (iv)).run Try.prog W = .ok () W)
    (G2 : ∀ W, (binOp BinOp.sub 3 (.int .i64 (-7)) (iv)).run Try.prog W = .ok (.int .i64 z) W)
    (h : ∀ (a' : Act) (w' : World), w' = w2 → a' = (((((((a).put (some 67) (gv)).put (some 68) (iv)).put (some 69) (.int .i64 z)).put (some 70) (IdK.v ⟨List.replicate 32 0, z⟩)).put (some 71) (sv)).put (some 72) (rv)).put (some 7) (rv) → Q .normal a' w') :
    (Code.region 16 al16_ops false).wp Try.prog Q a w := by
  refine wp_region_list ?_
  change wpList _ _ _ [al16_o0, al16_o1, al16_o2, al16_o3, al16_o4, al16_o5, al16_o6] _ _
  refine qv (v := gv) (by rfl) (exec_move rfl t7) (fun a0 e0 => ?_)
  rw [← e0] at h
  have z0 := pz e0 hsz
  replace t6 := pk e0 t6
  clear t7
  have t67 := pq e0 hsz
  clear e0 hsz
  refine qv (v := iv) (by rfl) (exec_move rfl t6) (fun a1 e1 => ?_)
  rw [← e1] at h
  have z1 := pz e1 z0
  replace t67 := pk e1 t67
  clear t6
  have t68 := pq e1 z0
  clear e1 z0
  refine qv (v := .int .i64 z) (by rfl) (exec_binOp rfl rfl t68 (G1 _) (G2 _)) (fun a2 e2 => ?_)
  rw [← e2] at h
  have z2 := pz e2 z1
  replace t67 := pk e2 t67
  clear t68
  have t69 := pq e2 z1
  clear e2 z1
  refine qv (v := IdK.v ⟨List.replicate 32 0, z⟩) (by rfl) (exec_bid z rfl t69) (fun a3 e3 => ?_)
  rw [← e3] at h
  have z3 := pz e3 z2
  replace t67 := pk e3 t67
  clear t69
  have t70 := pq e3 z2
  clear e3 z2
  refine qk (v := sv) (by rfl) (exec_buildSlice rfl t70 EB) (fun a4 e4 => ?_)
  rw [← e4] at h
  have z4 := pz e4 z3
  replace t67 := pk e4 t67
  clear t70
  have t71 := pq e4 z3
  clear e4 z3
  refine qk (v := rv) (by rfl) (exec_append rfl t67 t71 EA) (fun a5 e5 => ?_)
  rw [← e5] at h
  have z5 := pz e5 z4
  clear t67 t71
  have t72 := pq e5 z4
  clear e5 z4
  refine qv (v := rv) (by rfl) (exec_assign rfl t72) (fun a6 e6 => ?_)
  rw [← e6] at h
  have z6 := pz e6 z5
  clear t72
  clear e6 z5
  exact wpList_nil (h _ _ (rfl) rfl)
def al17_o0 : Oper := ⟨some 73, .move (.tmp 5), 55, "lists.go:223", #[], none⟩
def al17_o1 : Oper := ⟨some 74, .move (.tmp 7), 41, "lists.go:223", #[], none⟩
def al17_o2 : Oper := ⟨some 75, .buildSlice 55 1 #[(0, .tmp 74)], 55, "lists.go:223", #[⟨1, .data⟩], none⟩
def al17_o3 : Oper := ⟨some 76, .call { callee := Callee.builtin Builtin.append, args := #[.tmp 73, .tmp 75], argTypes := #[55, 55] }, 55, "lists.go:223", #[⟨0, .data⟩, ⟨2, .data⟩], none⟩
def al17_o4 : Oper := ⟨some 5, .assign (.tmp 76), 55, "lists.go:223", #[⟨3, .data⟩, ⟨3, .chain⟩, ⟨0, .phase⟩, ⟨1, .phase⟩, ⟨2, .phase⟩, ⟨3, .phase⟩], none⟩
def al17_ops : Array Oper := #[al17_o0, al17_o1, al17_o2, al17_o3, al17_o4]
set_option maxRecDepth 100000 in
set_option maxHeartbeats 4000000 in
theorem al17 (av gv sv rv : Value) (w1 w2 : World) (a : Act) (w : World) (Q : Exit → Act → World → Prop) (hsz : a.tmps.size = 133)
    (t5 : a.tmps.getD 5 undef = av)
    (t7 : a.tmps.getD 7 undef = gv)
    (EB : (Instr.buildSlice 55 1 #[(0, gv)]).run Try.prog w = .ok sv w1) (EA : (Builtin.append_ #[55, 55] 55 #[av, sv]).run Try.prog w1 = .ok rv w2)
    (h : ∀ (a' : Act) (w' : World), w' = w2 → a' = (((((a).put (some 73) (av)).put (some 74) (gv)).put (some 75) (sv)).put (some 76) (rv)).put (some 5) (rv) → Q .normal a' w') :
    (Code.region 17 al17_ops false).wp Try.prog Q a w := by
  refine wp_region_list ?_
  change wpList _ _ _ [al17_o0, al17_o1, al17_o2, al17_o3, al17_o4] _ _
  refine qv (v := av) (by rfl) (exec_move rfl t5) (fun a0 e0 => ?_)
  rw [← e0] at h
  have z0 := pz e0 hsz
  replace t7 := pk e0 t7
  clear t5
  have t73 := pq e0 hsz
  clear e0 hsz
  refine qv (v := gv) (by rfl) (exec_move rfl t7) (fun a1 e1 => ?_)
  rw [← e1] at h
  have z1 := pz e1 z0
  replace t73 := pk e1 t73
  clear t7
  have t74 := pq e1 z0
  clear e1 z0
  refine qk (v := sv) (by rfl) (exec_buildSlice rfl t74 EB) (fun a2 e2 => ?_)
  rw [← e2] at h
  have z2 := pz e2 z1
  replace t73 := pk e2 t73
  clear t74
  have t75 := pq e2 z1
  clear e2 z1
  refine qk (v := rv) (by rfl) (exec_append rfl t73 t75 EA) (fun a3 e3 => ?_)
  rw [← e3] at h
  have z3 := pz e3 z2
  clear t73 t75
  have t76 := pq e3 z2
  clear e3 z2
  refine qv (v := rv) (by rfl) (exec_assign rfl t76) (fun a4 e4 => ?_)
  rw [← e4] at h
  have z4 := pz e4 z3
  clear t76
  clear e4 z3
  exact wpList_nil (h _ _ (rfl) rfl)
def al24_o0 : Oper := ⟨some 92, .move (.tmp 5), 55, "lists.go:227", #[], none⟩
def al24_o1 : Oper := ⟨some 93, .move (.tmp 9), 3, "lists.go:227", #[], none⟩
def al24_o2 : Oper := ⟨some 94, .indexAddr 55 (.tmp 92) (.tmp 93), 0, "lists.go:227", #[⟨0, .data⟩, ⟨1, .data⟩], none⟩
def al24_o3 : Oper := ⟨some 95, .load 41 (.tmp 94), 41, "lists.go:227", #[⟨2, .data⟩], none⟩
def al24_o4 : Oper := ⟨some 96, .move (.tmp 10), 3, "lists.go:227", #[], none⟩
def al24_o5 : Oper := ⟨some 97, .indexAddr 41 (.tmp 95) (.tmp 96), 0, "lists.go:227", #[⟨3, .data⟩, ⟨4, .data⟩], none⟩
def al24_o6 : Oper := ⟨some 98, .load 37 (.tmp 97), 37, "lists.go:227", #[⟨5, .data⟩], none⟩
def al24_o7 : Oper := ⟨some 11, .alloc 37, 0, "lists.go:227", #[], none⟩
def al24_o8 : Oper := ⟨none, .store 37 (.tmp 11) (.tmp 98), 0, "lists.go:227", #[⟨7, .data⟩, ⟨6, .data⟩, ⟨0, .phase⟩, ⟨1, .phase⟩, ⟨2, .phase⟩, ⟨3, .phase⟩, ⟨4, .phase⟩, ⟨5, .phase⟩, ⟨6, .phase⟩, ⟨7, .phase⟩], none⟩
def al24_ops : Array Oper := #[al24_o0, al24_o1, al24_o2, al24_o3, al24_o4, al24_o5, al24_o6, al24_o7, al24_o8]
set_option maxRecDepth 100000 in
set_option maxHeartbeats 4000000 in
theorem al24 (av iv kv pb sv pe xv p : Value) (w1 w2 : World) (a : Act) (w : World) (Q : Exit → Act → World → Prop) (hsz : a.tmps.size = 133)
    (t5 : a.tmps.getD 5 undef = av)
    (t9 : a.tmps.getD 9 undef = iv)
    (t10 : a.tmps.getD 10 undef = kv)
    (EA : (Instr.alloc 37 true (.tuple #[])).run Try.prog w = .ok p w1) (ES : (Instr.storeAt 37 p xv).run Try.prog w1 = .ok () w2)
    (G1 : ∀ W, (Instr.indexAt 55 (av) (iv)).run Try.prog W = .ok (pb) W)
    (G2 : (Instr.loadAt 41 (pb)).run Try.prog w = .ok (sv) w)
    (G3 : ∀ W, (Instr.indexAt 41 (sv) (kv)).run Try.prog W = .ok (pe) W)
    (G4 : (Instr.loadAt 37 (pe)).run Try.prog w = .ok (xv) w)
    (h : ∀ (a' : Act) (w' : World), w' = w2 → a' = ((((((((a).put (some 92) (av)).put (some 93) (iv)).put (some 94) (pb)).put (some 95) (sv)).put (some 96) (kv)).put (some 97) (pe)).put (some 98) (xv)).put (some 11) (p) → Q .normal a' w') :
    (Code.region 24 al24_ops false).wp Try.prog Q a w := by
  refine wp_region_list ?_
  change wpList _ _ _ [al24_o0, al24_o1, al24_o2, al24_o3, al24_o4, al24_o5, al24_o6, al24_o7, al24_o8] _ _
  refine qv (v := av) (by rfl) (exec_move rfl t5) (fun a0 e0 => ?_)
  rw [← e0] at h
  have z0 := pz e0 hsz
  replace t9 := pk e0 t9
  replace t10 := pk e0 t10
  clear t5
  have t92 := pq e0 hsz
  clear e0 hsz
  refine qv (v := iv) (by rfl) (exec_move rfl t9) (fun a1 e1 => ?_)
  rw [← e1] at h
  have z1 := pz e1 z0
  replace t10 := pk e1 t10
  replace t92 := pk e1 t92
  clear t9
  have t93 := pq e1 z0
  clear e1 z0
  refine qv (v := pb) (by rfl) (exec_indexAt rfl t92 t93 (G1 _)) (fun a2 e2 => ?_)
  rw [← e2] at h
  have z2 := pz e2 z1
  replace t10 := pk e2 t10
  clear t92 t93
  have t94 := pq e2 z1
  clear e2 z1
  refine qv (v := sv) (by rfl) (exec_load rfl t94 G2) (fun a3 e3 => ?_)
  rw [← e3] at h
  have z3 := pz e3 z2
  replace t10 := pk e3 t10
  clear t94
  have t95 := pq e3 z2
  clear e3 z2
  refine qv (v := kv) (by rfl) (exec_move rfl t10) (fun a4 e4 => ?_)
  rw [← e4] at h
  have z4 := pz e4 z3
  replace t95 := pk e4 t95
  clear t10
  have t96 := pq e4 z3
  clear e4 z3
  refine qv (v := pe) (by rfl) (exec_indexAt rfl t95 t96 (G3 _)) (fun a5 e5 => ?_)
  rw [← e5] at h
  have z5 := pz e5 z4
  clear t95 t96
  have t97 := pq e5 z4
  clear e5 z4
  refine qv (v := xv) (by rfl) (exec_load rfl t97 G4) (fun a6 e6 => ?_)
  rw [← e6] at h
  have z6 := pz e6 z5
  clear t97
  have t98 := pq e6 z5
  clear e6 z5
  refine qk (v := p) (by rfl) (exec_alloc rfl EA) (fun a7 e7 => ?_)
  rw [← e7] at h
  have z7 := pz e7 z6
  replace t98 := pk e7 t98
  have t11 := pq e7 z6
  clear e7 z6
  refine qs (by rfl) (exec_store rfl t11 t98 ES) ?_
  exact wpList_nil (h _ _ (rfl) rfl)
def al25_o0 : Oper := ⟨some 99, .load 37 (.tmp 11), 37, "lists.go:228", #[], none⟩
def al25_o1 : Oper := ⟨some 100, .move (.tmp 9), 3, "lists.go:228", #[], none⟩
def al25_o2 : Oper := ⟨some 101, .binOp BinOp.sub 3 (Operand.const (Value.int IntKind.i64 (-7))) (.tmp 100) 3, 3, "lists.go:228", #[⟨1, .data⟩], none⟩
def al25_o3 : Oper := ⟨some 102, .build 37 #[(1, .tmp 101)], 37, "lists.go:228", #[⟨2, .data⟩], none⟩
def al25_o4 : Oper := ⟨some 103, .binOp BinOp.eql 37 (.tmp 99) (.tmp 102) 37, 4, "lists.go:228", #[⟨0, .data⟩, ⟨3, .data⟩], none⟩
def al25_o5 : Oper := ⟨some 104, .unOp UnOp.not 4 (.tmp 103), 4, "lists.go:228", #[⟨4, .data⟩], none⟩
def al25_ops : Array Oper := #[al25_o0, al25_o1, al25_o2, al25_o3, al25_o4, al25_o5]
set_option maxRecDepth 100000 in
set_option maxHeartbeats 4000000 in
theorem al25 (p iv xv : Value) (z : Int) (a : Act) (w : World) (Q : Exit → Act → World → Prop) (hsz : a.tmps.size = 133)
    (t11 : a.tmps.getD 11 undef = p)
    (t9 : a.tmps.getD 9 undef = iv)
    (G1 : (Instr.loadAt 37 (p)).run Try.prog w = .ok (xv) w)
    (G2 : ∀ W, (eqGuard BinOp.sub 3 (Operand.const (Value.int IntKind.i64 (-7))) (Operand.tmp 100) (.int .i64 (-7)) (iv)).run Try.prog W = .ok () W)
    (G3 : ∀ W, (binOp BinOp.sub 3 (.int .i64 (-7)) (iv)).run Try.prog W = .ok (.int .i64 z) W)
    (G4 : ∀ W, (eqGuard BinOp.eql 37 (Operand.tmp 99) (Operand.tmp 102) (xv) (IdK.v ⟨List.replicate 32 0, z⟩)).run Try.prog W = .ok () W)
    (G5 : ∀ W, (binOp BinOp.eql 37 (xv) (IdK.v ⟨List.replicate 32 0, z⟩)).run Try.prog W = .ok (.bool true) W)
    (h : ∀ (a' : Act) (w' : World), w' = w → a' = ((((((a).put (some 99) (xv)).put (some 100) (iv)).put (some 101) (.int .i64 z)).put (some 102) (IdK.v ⟨List.replicate 32 0, z⟩)).put (some 103) (.bool true)).put (some 104) (.bool false) → Q .normal a' w') :
    (Code.region 25 al25_ops false).wp Try.prog Q a w := by
  refine wp_region_list ?_
  change wpList _ _ _ [al25_o0, al25_o1, al25_o2, al25_o3, al25_o4, al25_o5] _ _
  refine qv (v := xv) (by rfl) (exec_load rfl t11 G1) (fun a0 e0 => ?_)
  rw [← e0] at h
  have z0 := pz e0 hsz
  replace t9 := pk e0 t9
  clear t11
  have t99 := pq e0 hsz
  clear e0 hsz
  refine qv (v := iv) (by rfl) (exec_move rfl t9) (fun a1 e1 => ?_)
  rw [← e1] at h
  have z1 := pz e1 z0
  replace t99 := pk e1 t99
  clear t9
  have t100 := pq e1 z0
  clear e1 z0
  refine qv (v := .int .i64 z) (by rfl) (exec_binOp rfl rfl t100 (G2 _) (G3 _)) (fun a2 e2 => ?_)
  rw [← e2] at h
  have z2 := pz e2 z1
  replace t99 := pk e2 t99
  clear t100
  have t101 := pq e2 z1
  clear e2 z1
  refine qv (v := IdK.v ⟨List.replicate 32 0, z⟩) (by rfl) (exec_bid z rfl t101) (fun a3 e3 => ?_)
  rw [← e3] at h
  have z3 := pz e3 z2
  replace t99 := pk e3 t99
  clear t101
  have t102 := pq e3 z2
  clear e3 z2
  refine qv (v := .bool true) (by rfl) (exec_binOp rfl t99 t102 (G4 _) (G5 _)) (fun a4 e4 => ?_)
  rw [← e4] at h
  have z4 := pz e4 z3
  clear t99 t102
  have t103 := pq e4 z3
  clear e4 z3
  refine qv (v := .bool false) (by rfl) (by unfold al25_o5; go_simp) (fun a5 e5 => ?_)
  rw [← e5] at h
  have z5 := pz e5 z4
  clear t103
  clear e5 z4
  exact wpList_nil (h _ _ (rfl) rfl)
def al30_o0 : Oper := ⟨some 117, .move (.tmp 0), 52, "lists.go:233", #[], none⟩
def al30_o1 : Oper := ⟨some 118, .nilCheck (.tmp 117), 0, "lists.go:233", #[⟨0, .data⟩], none⟩
def al30_o2 : Oper := ⟨some 119, .fieldAddr 72 (.tmp 118) 2, 0, "lists.go:233", #[⟨1, .data⟩], none⟩
def al30_o3 : Oper := ⟨some 120, .load 55 (.tmp 119), 55, "lists.go:233", #[⟨2, .data⟩], none⟩
def al30_o4 : Oper := ⟨some 121, .move (.tmp 9), 3, "lists.go:233", #[], none⟩
def al30_o5 : Oper := ⟨some 122, .indexAddr 55 (.tmp 120) (.tmp 121), 0, "lists.go:233", #[⟨3, .data⟩, ⟨4, .data⟩], none⟩
def al30_o6 : Oper := ⟨some 123, .load 41 (.tmp 122), 41, "lists.go:233", #[⟨5, .data⟩], none⟩
def al30_o7 : Oper := ⟨some 124, .move (.tmp 12), 3, "lists.go:233", #[], none⟩
def al30_o8 : Oper := ⟨some 125, .indexAddr 41 (.tmp 123) (.tmp 124), 0, "lists.go:233", #[⟨6, .data⟩, ⟨7, .data⟩], none⟩
def al30_o9 : Oper := ⟨some 126, .load 37 (.tmp 125), 37, "lists.go:233", #[⟨8, .data⟩], none⟩
def al30_o10 : Oper := ⟨some 13, .alloc 37, 0, "lists.go:233", #[], none⟩
def al30_o11 : Oper := ⟨none, .store 37 (.tmp 13) (.tmp 126), 0, "lists.go:233", #[⟨10, .data⟩, ⟨9, .data⟩, ⟨0, .phase⟩, ⟨1, .phase⟩, ⟨2, .phase⟩, ⟨3, .phase⟩, ⟨4, .phase⟩, ⟨5, .phase⟩, ⟨6, .phase⟩, ⟨7, .phase⟩, ⟨8, .phase⟩, ⟨9, .phase⟩, ⟨10, .phase⟩], none⟩
def al30_ops : Array Oper := #[al30_o0, al30_o1, al30_o2, al30_o3, al30_o4, al30_o5, al30_o6, al30_o7, al30_o8, al30_o9, al30_o10, al30_o11]
set_option maxRecDepth 100000 in
set_option maxHeartbeats 4000000 in
theorem al30 (q : Nat) (iv kv lv pb sv pe xv p : Value) (w1 w2 : World) (a : Act) (w : World) (Q : Exit → Act → World → Prop) (hsz : a.tmps.size = 133)
    (t0 : a.tmps.getD 0 undef = .pointer (some ⟨q, 0, none⟩))
    (t9 : a.tmps.getD 9 undef = iv)
    (t12 : a.tmps.getD 12 undef = kv)
    (EA : (Instr.alloc 37 true (.tuple #[])).run Try.prog w = .ok p w1) (ES : (Instr.storeAt 37 p xv).run Try.prog w1 = .ok () w2)
    (G1 : (Instr.loadAt 55 (.pointer (some ⟨q, 0 + 2, none⟩))).run Try.prog w = .ok (lv) w)
    (G2 : ∀ W, (Instr.indexAt 55 (lv) (iv)).run Try.prog W = .ok (pb) W)
    (G3 : (Instr.loadAt 41 (pb)).run Try.prog w = .ok (sv) w)
    (G4 : ∀ W, (Instr.indexAt 41 (sv) (kv)).run Try.prog W = .ok (pe) W)
    (G5 : (Instr.loadAt 37 (pe)).run Try.prog w = .ok (xv) w)
    (h : ∀ (a' : Act) (w' : World), w' = w2 → a' = (((((((((((a).put (some 117) (.pointer (some ⟨q, 0, none⟩))).put (some 118) (.pointer (some ⟨q, 0, none⟩))).put (some 119) (.pointer (some ⟨q, 0 + 2, none⟩))).put (some 120) (lv)).put (some 121) (iv)).put (some 122) (pb)).put (some 123) (sv)).put (some 124) (kv)).put (some 125) (pe)).put (some 126) (xv)).put (some 13) (p) → Q .normal a' w') :
    (Code.region 30 al30_ops false).wp Try.prog Q a w := by
  refine wp_region_list ?_
  change wpList _ _ _ [al30_o0, al30_o1, al30_o2, al30_o3, al30_o4, al30_o5, al30_o6, al30_o7, al30_o8, al30_o9, al30_o10, al30_o11] _ _
  refine qv (v := .pointer (some ⟨q, 0, none⟩)) (by rfl) (exec_move rfl t0) (fun a0 e0 => ?_)
  rw [← e0] at h
  have z0 := pz e0 hsz
  replace t9 := pk e0 t9
  replace t12 := pk e0 t12
  clear t0
  have t117 := pq e0 hsz
  clear e0 hsz
  refine qv (v := .pointer (some ⟨q, 0, none⟩)) (by rfl) (exec_nilCheck rfl t117) (fun a1 e1 => ?_)
  rw [← e1] at h
  have z1 := pz e1 z0
  replace t9 := pk e1 t9
  replace t12 := pk e1 t12
  clear t117
  have t118 := pq e1 z0
  clear e1 z0
  refine qv (v := .pointer (some ⟨q, 0 + 2, none⟩)) (by rfl) (exec_fieldAt rfl t118 (fg_72_2 _ _ _)) (fun a2 e2 => ?_)
  rw [← e2] at h
  have z2 := pz e2 z1
  replace t9 := pk e2 t9
  replace t12 := pk e2 t12
  clear t118
  have t119 := pq e2 z1
  clear e2 z1
  refine qv (v := lv) (by rfl) (exec_load rfl t119 G1) (fun a3 e3 => ?_)
  rw [← e3] at h
  have z3 := pz e3 z2
  replace t9 := pk e3 t9
  replace t12 := pk e3 t12
  clear t119
  have t120 := pq e3 z2
  clear e3 z2
  refine qv (v := iv) (by rfl) (exec_move rfl t9) (fun a4 e4 => ?_)
  rw [← e4] at h
  have z4 := pz e4 z3
  replace t12 := pk e4 t12
  replace t120 := pk e4 t120
  clear t9
  have t121 := pq e4 z3
  clear e4 z3
  refine qv (v := pb) (by rfl) (exec_indexAt rfl t120 t121 (G2 _)) (fun a5 e5 => ?_)
  rw [← e5] at h
  have z5 := pz e5 z4
  replace t12 := pk e5 t12
  clear t120 t121
  have t122 := pq e5 z4
  clear e5 z4
  refine qv (v := sv) (by rfl) (exec_load rfl t122 G3) (fun a6 e6 => ?_)
  rw [← e6] at h
  have z6 := pz e6 z5
  replace t12 := pk e6 t12
  clear t122
  have t123 := pq e6 z5
  clear e6 z5
  refine qv (v := kv) (by rfl) (exec_move rfl t12) (fun a7 e7 => ?_)
  rw [← e7] at h
  have z7 := pz e7 z6
  replace t123 := pk e7 t123
  clear t12
  have t124 := pq e7 z6
  clear e7 z6
  refine qv (v := pe) (by rfl) (exec_indexAt rfl t123 t124 (G4 _)) (fun a8 e8 => ?_)
  rw [← e8] at h
  have z8 := pz e8 z7
  clear t123 t124
  have t125 := pq e8 z7
  clear e8 z7
  refine qv (v := xv) (by rfl) (exec_load rfl t125 G5) (fun a9 e9 => ?_)
  rw [← e9] at h
  have z9 := pz e9 z8
  clear t125
  have t126 := pq e9 z8
  clear e9 z8
  refine qk (v := p) (by rfl) (exec_alloc rfl EA) (fun a10 e10 => ?_)
  rw [← e10] at h
  have z10 := pz e10 z9
  replace t126 := pk e10 t126
  have t13 := pq e10 z9
  clear e10 z9
  refine qs (by rfl) (exec_store rfl t13 t126 ES) ?_
  exact wpList_nil (h _ _ (rfl) rfl)
def al31_o0 : Oper := ⟨some 127, .load 37 (.tmp 13), 37, "lists.go:234", #[], none⟩
def al31_o1 : Oper := ⟨some 128, .move (.tmp 9), 3, "lists.go:234", #[], none⟩
def al31_o2 : Oper := ⟨some 129, .binOp BinOp.sub 3 (Operand.const (Value.int IntKind.i64 (-7))) (.tmp 128) 3, 3, "lists.go:234", #[⟨1, .data⟩], none⟩
def al31_o3 : Oper := ⟨some 130, .build 37 #[(1, .tmp 129)], 37, "lists.go:234", #[⟨2, .data⟩], none⟩
def al31_o4 : Oper := ⟨some 131, .binOp BinOp.eql 37 (.tmp 127) (.tmp 130) 37, 4, "lists.go:234", #[⟨0, .data⟩, ⟨3, .data⟩], none⟩
def al31_o5 : Oper := ⟨some 132, .unOp UnOp.not 4 (.tmp 131), 4, "lists.go:234", #[⟨4, .data⟩], none⟩
def al31_ops : Array Oper := #[al31_o0, al31_o1, al31_o2, al31_o3, al31_o4, al31_o5]
set_option maxRecDepth 100000 in
set_option maxHeartbeats 4000000 in
theorem al31 (p iv xv : Value) (z : Int) (a : Act) (w : World) (Q : Exit → Act → World → Prop) (hsz : a.tmps.size = 133)
    (t13 : a.tmps.getD 13 undef = p)
    (t9 : a.tmps.getD 9 undef = iv)
    (G1 : (Instr.loadAt 37 (p)).run Try.prog w = .ok (xv) w)
    (G2 : ∀ W, (eqGuard BinOp.sub 3 (Operand.const (Value.int IntKind.i64 (-7))) (Operand.tmp 128) (.int .i64 (-7)) (iv)).run Try.prog W = .ok () W)
    (G3 : ∀ W, (binOp BinOp.sub 3 (.int .i64 (-7)) (iv)).run Try.prog W = .ok (.int .i64 z) W)
    (G4 : ∀ W, (eqGuard BinOp.eql 37 (Operand.tmp 127) (Operand.tmp 130) (xv) (IdK.v ⟨List.replicate 32 0, z⟩)).run Try.prog W = .ok () W)
    (G5 : ∀ W, (binOp BinOp.eql 37 (xv) (IdK.v ⟨List.replicate 32 0, z⟩)).run Try.prog W = .ok (.bool true) W)
    (h : ∀ (a' : Act) (w' : World), w' = w → a' = ((((((a).put (some 127) (xv)).put (some 128) (iv)).put (some 129) (.int .i64 z)).put (some 130) (IdK.v ⟨List.replicate 32 0, z⟩)).put (some 131) (.bool true)).put (some 132) (.bool false) → Q .normal a' w') :
    (Code.region 31 al31_ops false).wp Try.prog Q a w := by
  refine wp_region_list ?_
  change wpList _ _ _ [al31_o0, al31_o1, al31_o2, al31_o3, al31_o4, al31_o5] _ _
  refine qv (v := xv) (by rfl) (exec_load rfl t13 G1) (fun a0 e0 => ?_)
  rw [← e0] at h
  have z0 := pz e0 hsz
  replace t9 := pk e0 t9
  clear t13
  have t127 := pq e0 hsz
  clear e0 hsz
  refine qv (v := iv) (by rfl) (exec_move rfl t9) (fun a1 e1 => ?_)
  rw [← e1] at h
  have z1 := pz e1 z0
  replace t127 := pk e1 t127
  clear t9
  have t128 := pq e1 z0
  clear e1 z0
  refine qv (v := .int .i64 z) (by rfl) (exec_binOp rfl rfl t128 (G2 _) (G3 _)) (fun a2 e2 => ?_)
  rw [← e2] at h
  have z2 := pz e2 z1
  replace t127 := pk e2 t127
  clear t128
  have t129 := pq e2 z1
  clear e2 z1
  refine qv (v := IdK.v ⟨List.replicate 32 0, z⟩) (by rfl) (exec_bid z rfl t129) (fun a3 e3 => ?_)
  rw [← e3] at h
  have z3 := pz e3 z2
  replace t127 := pk e3 t127
  clear t129
  have t130 := pq e3 z2
  clear e3 z2
  refine qv (v := .bool true) (by rfl) (exec_binOp rfl t127 t130 (G4 _) (G5 _)) (fun a4 e4 => ?_)
  rw [← e4] at h
  have z4 := pz e4 z3
  clear t127 t130
  have t131 := pq e4 z3
  clear e4 z3
  refine qv (v := .bool false) (by rfl) (by unfold al31_o5; go_simp) (fun a5 e5 => ?_)
  rw [← e5] at h
  have z5 := pz e5 z4
  clear t131
  clear e5 z4
  exact wpList_nil (h _ _ (rfl) rfl)
def take0_o0 : Oper := ⟨some 4, .move (.tmp 0), 52, "lists.go:44", #[], none⟩
def take0_o1 : Oper := ⟨some 5, .move (.tmp 0), 52, "lists.go:44", #[], none⟩
def take0_o2 : Oper := ⟨some 6, .nilCheck (.tmp 5), 0, "lists.go:44", #[⟨1, .data⟩], none⟩
def take0_o3 : Oper := ⟨some 7, .fieldAddr 72 (.tmp 6) 2, 0, "lists.go:44", #[⟨2, .data⟩], none⟩
def take0_o4 : Oper := ⟨some 8, .load 55 (.tmp 7), 55, "lists.go:44", #[⟨3, .data⟩], none⟩
def take0_o5 : Oper := ⟨some 9, .move (.tmp 1), 41, "lists.go:44", #[], none⟩
def take0_o6 : Oper := ⟨some 10, .buildSlice 55 1 #[(0, .tmp 9)], 55, "lists.go:44", #[⟨5, .data⟩], none⟩
def take0_o7 : Oper := ⟨some 11, .call { callee := Callee.builtin Builtin.append, args := #[.tmp 8, .tmp 10], argTypes := #[55, 55] }, 55, "lists.go:44", #[⟨4, .data⟩, ⟨6, .data⟩], none⟩
def take0_o8 : Oper := ⟨some 12, .nilCheck (.tmp 4), 0, "lists.go:44", #[⟨0, .data⟩, ⟨0, .phase⟩, ⟨1, .phase⟩, ⟨2, .phase⟩, ⟨3, .phase⟩, ⟨4, .phase⟩, ⟨5, .phase⟩, ⟨6, .phase⟩, ⟨7, .phase⟩], none⟩
def take0_o9 : Oper := ⟨some 13, .fieldAddr 72 (.tmp 12) 2, 0, "lists.go:44", #[⟨8, .data⟩, ⟨0, .phase⟩, ⟨1, .phase⟩, ⟨2, .phase⟩, ⟨3, .phase⟩, ⟨4, .phase⟩, ⟨5, .phase⟩, ⟨6, .phase⟩, ⟨7, .phase⟩], none⟩
def take0_o10 : Oper := ⟨none, .store 55 (.tmp 13) (.tmp 11), 0, "lists.go:44", #[⟨9, .data⟩, ⟨7, .data⟩, ⟨7, .chain⟩, ⟨0, .phase⟩, ⟨1, .phase⟩, ⟨2, .phase⟩, ⟨3, .phase⟩, ⟨4, .phase⟩, ⟨5, .phase⟩, ⟨6, .phase⟩, ⟨7, .phase⟩], none⟩
def take0_ops : Array Oper := #[take0_o0, take0_o1, take0_o2, take0_o3, take0_o4, take0_o5, take0_o6, take0_o7, take0_o8, take0_o9, take0_o10]
set_option maxRecDepth 100000 in
set_option maxHeartbeats 4000000 in
theorem take0 (q : Nat) (lv av sv rv : Value) (w1 w2 w3 : World) (a : Act) (w : World) (Q : Exit → Act → World → Prop) (hsz : a.tmps.size = 14)
    (t0 : a.tmps.getD 0 undef = .pointer (some ⟨q, 0, none⟩))
    (t1 : a.tmps.getD 1 undef = lv)
    (EB : (Instr.buildSlice 55 1 #[(0, lv)]).run Try.prog w = .ok sv w1) (EA : (Builtin.append_ #[55, 55] 55 #[av, sv]).run Try.prog w1 = .ok rv w2) (ES : (Instr.storeAt 55 (.pointer (some ⟨q, 0 + 2, none⟩)) rv).run Try.prog w2 = .ok () w3)
    (G1 : (Instr.loadAt 55 (.pointer (some ⟨q, 0 + 2, none⟩))).run Try.prog w = .ok (av) w)
    (h : ∀ (a' : Act) (w' : World), w' = w3 → a' = ((((((((((a).put (some 4) (.pointer (some ⟨q, 0, none⟩))).put (some 5) (.pointer (some ⟨q, 0, none⟩))).put (some 6) (.pointer (some ⟨q, 0, none⟩))).put (some 7) (.pointer (some ⟨q, 0 + 2, none⟩))).put (some 8) (av)).put (some 9) (lv)).put (some 10) (sv)).put (some 11) (rv)).put (some 12) (.pointer (some ⟨q, 0, none⟩))).put (some 13) (.pointer (some ⟨q, 0 + 2, none⟩)) → Q .normal a' w') :
    (Code.region 0 take0_ops false).wp Try.prog Q a w := by
  refine wp_region_list ?_
  change wpList _ _ _ [take0_o0, take0_o1, take0_o2, take0_o3, take0_o4, take0_o5, take0_o6, take0_o7, take0_o8, take0_o9, take0_o10] _ _
  refine qv (v := .pointer (some ⟨q, 0, none⟩)) (by rfl) (exec_move rfl t0) (fun a0 e0 => ?_)
  rw [← e0] at h
  have z0 := pz e0 hsz
  replace t0 := pk e0 t0
  replace t1 := pk e0 t1
  have t4 := pq e0 hsz
  clear e0 hsz
  refine qv (v := .pointer (some ⟨q, 0, none⟩)) (by rfl) (exec_move rfl t0) (fun a1 e1 => ?_)
  rw [← e1] at h
  have z1 := pz e1 z0
  replace t1 := pk e1 t1
  replace t4 := pk e1 t4
  clear t0
  have t5 := pq e1 z0
  clear e1 z0
  refine qv (v := .pointer (some ⟨q, 0, none⟩)) (by rfl) (exec_nilCheck rfl t5) (fun a2 e2 => ?_)
  rw [← e2] at h
  have z2 := pz e2 z1
  replace t1 := pk e2 t1
  replace t4 := pk e2 t4
  clear t5
  have t6 := pq e2 z1
  clear e2 z1
  refine qv (v := .pointer (some ⟨q, 0 + 2, none⟩)) (by rfl) (exec_fieldAt rfl t6 (fg_72_2 _ _ _)) (fun a3 e3 => ?_)
  rw [← e3] at h
  have z3 := pz e3 z2
  replace t1 := pk e3 t1
  replace t4 := pk e3 t4
  clear t6
  have t7 := pq e3 z2
  clear e3 z2
  refine qv (v := av) (by rfl) (exec_load rfl t7 G1) (fun a4 e4 => ?_)
  rw [← e4] at h
  have z4 := pz e4 z3
  replace t1 := pk e4 t1
  replace t4 := pk e4 t4
  clear t7
  have t8 := pq e4 z3
  clear e4 z3
  refine qv (v := lv) (by rfl) (exec_move rfl t1) (fun a5 e5 => ?_)
  rw [← e5] at h
  have z5 := pz e5 z4
  replace t4 := pk e5 t4
  replace t8 := pk e5 t8
  clear t1
  have t9 := pq e5 z4
  clear e5 z4
  refine qk (v := sv) (by rfl) (exec_buildSlice rfl t9 EB) (fun a6 e6 => ?_)
  rw [← e6] at h
  have z6 := pz e6 z5
  replace t4 := pk e6 t4
  replace t8 := pk e6 t8
  clear t9
  have t10 := pq e6 z5
  clear e6 z5
  refine qk (v := rv) (by rfl) (exec_append rfl t8 t10 EA) (fun a7 e7 => ?_)
  rw [← e7] at h
  have z7 := pz e7 z6
  replace t4 := pk e7 t4
  clear t8 t10
  have t11 := pq e7 z6
  clear e7 z6
  refine qv (v := .pointer (some ⟨q, 0, none⟩)) (by rfl) (exec_nilCheck rfl t4) (fun a8 e8 => ?_)
  rw [← e8] at h
  have z8 := pz e8 z7
  replace t11 := pk e8 t11
  clear t4
  have t12 := pq e8 z7
  clear e8 z7
  refine qv (v := .pointer (some ⟨q, 0 + 2, none⟩)) (by rfl) (exec_fieldAt rfl t12 (fg_72_2 _ _ _)) (fun a9 e9 => ?_)
  rw [← e9] at h
  have z9 := pz e9 z8
  replace t11 := pk e9 t11
  clear t12
  have t13 := pq e9 z8
  clear e9 z8
  refine qs (by rfl) (exec_store rfl t13 t11 ES) ?_
  exact wpList_nil (h _ _ (rfl) rfl)
end Go.Proofs.Ytoofljkgdjjllaa
