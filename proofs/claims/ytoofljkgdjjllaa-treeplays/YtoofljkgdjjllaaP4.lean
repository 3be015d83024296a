import Derived.Test.YtoofljkgdjjllaaP2
import Derived.Test.YtoofljkgdjjllaaP3
import Derived.Test.YtoofljkgdjjllaaP0
namespace Go.Proofs.Ytoofljkgdjjllaa
open Go.RowKit
set_option linter.unusedVariables false
set_option linter.unusedSimpArgs false

theorem infoBk : (Try.prog.info? 45).map (fun i => (i.zero, i.size, i.bytes)) = some (some (.pointer none), 1, 8) := by kernel_rfl
theorem infoIn : (Try.prog.info? 3).map (fun i => (i.zero, i.size, i.bytes)) = some (some (.int .i64 0), 1, 8) := by kernel_rfl
theorem run_bs1 (T e y : TypeId) (z : Value) (ht : Try.prog.underlying T = some (.slice e)) (hi : (Try.prog.info? e).map (fun i => (i.zero, i.size, i.bytes)) = some (some z, 1, y)) (hz : z.cells.size = 1) (v : Value) (hc : v.cells = #[v]) (w : World) : (Instr.buildSlice T 1 #[(0, v)]).run Try.prog w = .ok (.slice (some ⟨w.heap.size, 0, none⟩) 1 1) (w.alloc (.cells #[v] e)) := by
  obtain ⟨ie, hi, hz0, hs, hby⟩ := info_parts hi
  refine run_buildSlice w T e 1 _ #[v] ie _ ht hi hz0 (by rw [hs]; decide) (by rw [hs]; decide) ?_
  rw [hs]
  have := Go.Great.fill_whole (s := 1) (by decide) [v] ((Array.range (1 * 1)).map (z.cells[· % z.cells.size]!)) (by intro u hu; simp at hu; subst hu; rw [hc]; rfl) (by simp)
  simpa [hc] using this
theorem bkV_cells (b : Option Nat) : (bkV b).cells = #[bkV b] := by cases b <;> rfl
theorem bkV_one (b : Option Nat) : (bkV b).oneCell' = true := by cases b <;> rfl
theorem load_bs {w : World} {b o : Nat} {v : Value} (h : w.cell? ⟨b, o, none⟩ = some v) : (Instr.loadAt 29 (.pointer (some ⟨b, o, none⟩))).run Try.prog w = .ok v w := by go_simp
theorem load_is {w : World} {b o : Nat} {v : Value} (h : w.cell? ⟨b, o, none⟩ = some v) : (Instr.loadAt 30 (.pointer (some ⟨b, o, none⟩))).run Try.prog w = .ok v w := by go_simp
theorem load_tp {w : World} {b o : Nat} {v : Value} (h : w.cell? ⟨b, o, none⟩ = some v) : (Instr.loadAt 25 (.pointer (some ⟨b, o, none⟩))).run Try.prog w = .ok v w := by go_simp
theorem load_dp {w : World} {b o : Nat} {v : Value} (h : w.cell? ⟨b, o, none⟩ = some v) : (Instr.loadAt 27 (.pointer (some ⟨b, o, none⟩))).run Try.prog w = .ok v w := by go_simp
theorem load_bk {w : World} {b o : Nat} {v : Value} (h : w.cell? ⟨b, o, none⟩ = some v) : (Instr.loadAt 45 (.pointer (some ⟨b, o, none⟩))).run Try.prog w = .ok v w := by go_simp
theorem load_in {w : World} {b o : Nat} {v : Value} (h : w.cell? ⟨b, o, none⟩ = some v) : (Instr.loadAt 3 (.pointer (some ⟨b, o, none⟩))).run Try.prog w = .ok v w := by go_simp
section
variable {w : World} {x : Nat} {v0 v1 v2 v3 : Value} (h : w.heap[x]? = some (.cells #[v0, v1, v2, v3] 32 (0, 0)))
include h
theorem cell_p0 : w.cell? ⟨x, 0, none⟩ = some v0 := by rw [cell_of_row _ _ 0 _ _ _ h]; rfl
theorem cell_p1 : w.cell? ⟨x, 1, none⟩ = some v1 := by rw [cell_of_row _ _ 1 _ _ _ h]; rfl
theorem cell_p2 : w.cell? ⟨x, 2, none⟩ = some v2 := by rw [cell_of_row _ _ 2 _ _ _ h]; rfl
theorem cell_p3 : w.cell? ⟨x, 3, none⟩ = some v3 := by rw [cell_of_row _ _ 3 _ _ _ h]; rfl
theorem store_p2 (a : Option Addr) (n c : Nat) : (Instr.storeAt 29 (.pointer (some ⟨x, 2, none⟩)) (.slice a n c)).run Try.prog w = .ok () (w.setCell ⟨x, 2, none⟩ (.slice a n c)) := by
  have hc := cell_p2 h
  have hf := frozen_of_row w x 2 _ _ h
  go_simp
theorem store_p3 (a : Option Addr) (n c : Nat) : (Instr.storeAt 30 (.pointer (some ⟨x, 3, none⟩)) (.slice a n c)).run Try.prog w = .ok () (w.setCell ⟨x, 3, none⟩ (.slice a n c)) := by
  have hc := cell_p3 h
  have hf := frozen_of_row w x 3 _ _ h
  go_simp
theorem set_p2 (u : Value) : (w.setCell ⟨x, 2, none⟩ u).heap[x]? = some (.cells #[v0, v1, u, v3] 32 (0, 0)) := by
  obtain ⟨hl, hv⟩ := Array.getElem?_eq_some_iff.1 h
  simp [World.setCell, hl, Array.getElem_modify_self, hv]
theorem set_p3 (u : Value) : (w.setCell ⟨x, 3, none⟩ u).heap[x]? = some (.cells #[v0, v1, v2, u] 32 (0, 0)) := by
  obtain ⟨hl, hv⟩ := Array.getElem?_eq_some_iff.1 h
  simp [World.setCell, hl, Array.getElem_modify_self, hv]
theorem row_not {B : Nat} {e : TypeId} {v : Value} {X : List Value} (ho : OwnV w B e v X) (he : e ≠ 32) : v.ownBlock ≠ some x := by
  intro q
  obtain ⟨_, c, hc⟩ := ho.ge x q
  rw [h] at hc
  simp at hc
  exact he hc.2.symm
end
theorem rows_apart {B : Nat} {w : World} {e e' : TypeId} {v v' : Value} {X X' : List Value} (h : OwnV w B e v X) (h' : OwnV w B e' v' X') (he : e ≠ e') {j : Nat} (q : v.ownBlock = some j) : v'.ownBlock ≠ some j := by
  intro q'
  obtain ⟨_, c, hc⟩ := h.ge j q
  obtain ⟨_, c', hc'⟩ := h'.ge j q'
  rw [hc] at hc'
  simp at hc'
  exact he hc'.2
section
variable {B : Nat} {g : Nat → Nat} {w : World} {p : Pl}
/-- A Back more, as equations. -/
theorem backs_runs (h : PS B g w p) (hB : B ≤ w.heap.size) (hn : p.BL.length ≤ 1300000000000) (b : Option Nat) (hb : ∀ c, b = some c → g c = 2 ∧ ∃ q, w.heap[c]? = some (.cells q 103 (0, 0))) :
    ∃ (lv qv : Value) (w1 w2 w3 : World), (Instr.buildSlice 29 1 #[(0, bkV b)]).run Try.prog w = .ok lv w1 ∧ (Builtin.append_ #[29, 29] 29 #[p.bv, lv]).run Try.prog w1 = .ok qv w2 ∧ (Instr.storeAt 29 (.pointer (some ⟨p.x, 2, none⟩)) qv).run Try.prog w2 = .ok () w3 ∧
      ∃ g', Ext w g g' ∧ Tch (Mut g) w w3 ∧ PS B g' w3 { p with bv := qv, BL := p.BL ++ [b] } := by
  have e1 := run_bs1 29 45 8 _ Try.underlying29 infoBk rfl (bkV b) (bkV_cells b) w
  have b1 : Below w.heap.size w (w.alloc (.cells #[bkV b] 45)) := (Below.refl _ _).alloc (Nat.le_refl _) _
  have v1 : Vals (w.alloc (.cells #[bkV b] 45)) (some ⟨w.heap.size, 0, none⟩) [bkV b] := Or.inr ⟨_, _, rfl, fun j u hj => by
    rw [Nat.zero_add, cell_of_row _ _ _ _ _ _ (heap_alloc_new _ _)]
    simpa using hj⟩
  generalize w.alloc (.cells #[bkV b] 45) = w1 at *
  have z1 := b1.size
  obtain ⟨qv, w2, e2, own2, g2, o2⟩ := run_appV 29 45 8 _ Try.underlying29 infoBk (Or.inl rfl) rfl w1 B 29 p.bv _ _ [bkV b] 1 (h.backs.below b1) v1 (by intro u hu; simp at hu; subst hu; exact bkV_one b) (by simp; omega) (by omega)
  have t2 : Tch (fun j => p.bv.ownBlock = some j) w w2 := Tch.trans ⟨b1.os, b1.tape, b1.output, b1.size, fun j hj _ => b1.block j hj⟩ ⟨g2.os, g2.tape, g2.output, g2.size, fun j hj hO => g2.block j hj (fun q => hO q.symm)⟩
  have lx := (Array.getElem?_eq_some_iff.1 h.cell).1
  have hx2 := (t2.block _ lx (row_not h.cell h.backs (by decide))).trans h.cell
  obtain ⟨a2, c2, eqv, _⟩ := own2.open
  have es := store_p2 hx2 a2 (p.BL.map bkV ++ [bkV b]).length c2
  rw [← eqv] at es
  have ts := set_tch w2 p.x 2 qv
  have t3 : Tch (fun j => j = p.x ∨ p.bv.ownBlock = some j ∨ p.sv.ownBlock = some j) w (w2.setCell ⟨p.x, 2, none⟩ qv) := (t2.mono fun k _ q => Or.inr (Or.inl q)).trans (ts.mono fun k _ q => Or.inl q)
  have hc3 := set_p2 hx2 qv
  have own3 : OwnV (w2.setCell ⟨p.x, 2, none⟩ qv) B 45 qv ((p.BL ++ [b]).map bkV) := by
    rw [List.map_append]
    exact own2.keep fun j hj => ts.block j (by obtain ⟨_, c, q⟩ := own2.ge j hj; exact (Array.getElem?_eq_some_iff.1 q).1) (fun e => row_not hx2 own2 (by decide) (by rw [← e]; exact hj))
  have st3 : OwnV (w2.setCell ⟨p.x, 2, none⟩ qv) B 3 p.sv (p.SL.map inV) := h.steps.keep fun j hj => by
    have lj : j < w.heap.size := by obtain ⟨_, c, q⟩ := h.steps.ge j hj; exact (Array.getElem?_eq_some_iff.1 q).1
    refine (ts.block j (Nat.lt_of_lt_of_le lj t2.size) fun e => ?_).trans (t2.block j lj fun q => rows_apart h.backs h.steps (by decide) q hj)
    rw [e] at hj
    exact row_not h.cell h.steps (by decide) hj
  obtain ⟨g', x1, x2, x3⟩ := h.lists hB (bv' := qv) (BL' := p.BL ++ [b]) (sv' := p.sv) (SL' := p.SL) t3 hc3 own3 st3 (fun j hj => by
    rcases o2 with q | q
    · exact Or.inl (Or.inr (Or.inl (by rw [← q]; exact hj)))
    · rw [q] at hj; simp at hj; exact Or.inr (by omega)) (fun j hj => Or.inl (Or.inr (Or.inr hj))) (fun c hc => by
    rcases List.mem_append.1 hc with q | q
    · exact Or.inl q
    · simp at q; exact Or.inr (hb c q.symm))
  exact ⟨_, qv, w1, w2, _, e1, e2, es, g', x1, x2, x3⟩
/-- A number more, as equations. -/
theorem steps_runs (h : PS B g w p) (hB : B ≤ w.heap.size) (hn : p.SL.length ≤ 1300000000000) (z : Int) :
    ∃ (lv qv : Value) (w1 w2 w3 : World), (Instr.buildSlice 30 1 #[(0, .int .i64 z)]).run Try.prog w = .ok lv w1 ∧ (Builtin.append_ #[30, 30] 30 #[p.sv, lv]).run Try.prog w1 = .ok qv w2 ∧ (Instr.storeAt 30 (.pointer (some ⟨p.x, 3, none⟩)) qv).run Try.prog w2 = .ok () w3 ∧
      ∃ g', Ext w g g' ∧ Tch (Mut g) w w3 ∧ PS B g' w3 { p with sv := qv, SL := p.SL ++ [z] } := by
  have e1 := run_bs1 30 3 8 _ Try.underlying30 infoIn rfl (.int .i64 z) rfl w
  have b1 : Below w.heap.size w (w.alloc (.cells #[.int .i64 z] 3)) := (Below.refl _ _).alloc (Nat.le_refl _) _
  have v1 : Vals (w.alloc (.cells #[.int .i64 z] 3)) (some ⟨w.heap.size, 0, none⟩) [.int .i64 z] := Or.inr ⟨_, _, rfl, fun j u hj => by
    rw [Nat.zero_add, cell_of_row _ _ _ _ _ _ (heap_alloc_new _ _)]
    simpa using hj⟩
  generalize w.alloc (.cells #[.int .i64 z] 3) = w1 at *
  have z1 := b1.size
  obtain ⟨qv, w2, e2, own2, g2, o2⟩ := run_appV 30 3 8 _ Try.underlying30 infoIn (Or.inl rfl) rfl w1 B 30 p.sv _ _ [.int .i64 z] 1 (h.steps.below b1) v1 (by intro u hu; simp at hu; subst hu; rfl) (by simp; omega) (by omega)
  have t2 : Tch (fun j => p.sv.ownBlock = some j) w w2 := Tch.trans ⟨b1.os, b1.tape, b1.output, b1.size, fun j hj _ => b1.block j hj⟩ ⟨g2.os, g2.tape, g2.output, g2.size, fun j hj hO => g2.block j hj (fun q => hO q.symm)⟩
  have lx := (Array.getElem?_eq_some_iff.1 h.cell).1
  have hx2 := (t2.block _ lx (row_not h.cell h.steps (by decide))).trans h.cell
  obtain ⟨a2, c2, eqv, _⟩ := own2.open
  have es := store_p3 hx2 a2 (p.SL.map inV ++ [Value.int .i64 z]).length c2
  rw [← eqv] at es
  have ts := set_tch w2 p.x 3 qv
  have t3 : Tch (fun j => j = p.x ∨ p.bv.ownBlock = some j ∨ p.sv.ownBlock = some j) w (w2.setCell ⟨p.x, 3, none⟩ qv) := (t2.mono fun k _ q => Or.inr (Or.inr q)).trans (ts.mono fun k _ q => Or.inl q)
  have hc3 := set_p3 hx2 qv
  have own3 : OwnV (w2.setCell ⟨p.x, 3, none⟩ qv) B 3 qv ((p.SL ++ [z]).map inV) := by
    rw [List.map_append]
    exact own2.keep fun j hj => ts.block j (by obtain ⟨_, c, q⟩ := own2.ge j hj; exact (Array.getElem?_eq_some_iff.1 q).1) (fun e => row_not hx2 own2 (by decide) (by rw [← e]; exact hj))
  have bt3 : OwnV (w2.setCell ⟨p.x, 3, none⟩ qv) B 45 p.bv (p.BL.map bkV) := h.backs.keep fun j hj => by
    have lj : j < w.heap.size := by obtain ⟨_, c, q⟩ := h.backs.ge j hj; exact (Array.getElem?_eq_some_iff.1 q).1
    refine (ts.block j (Nat.lt_of_lt_of_le lj t2.size) fun e => ?_).trans (t2.block j lj fun q => rows_apart h.steps h.backs (by decide) q hj)
    rw [e] at hj
    exact row_not h.cell h.backs (by decide) hj
  obtain ⟨g', x1, x2, x3⟩ := h.lists hB (bv' := p.bv) (BL' := p.BL) (sv' := qv) (SL' := p.SL ++ [z]) t3 hc3 bt3 own3 (fun j hj => Or.inl (Or.inr (Or.inl hj))) (fun j hj => by
    rcases o2 with q | q
    · exact Or.inl (Or.inr (Or.inr (by rw [← q]; exact hj)))
    · rw [q] at hj; simp at hj; exact Or.inr (by omega)) (fun c hc => Or.inl hc)
  exact ⟨_, qv, w1, w2, _, e1, e2, es, g', x1, x2, x3⟩
/-- Another number in one's place. -/
theorem steps_set (h : PS B g w p) (hB : B ≤ w.heap.size) {i : Nat} (hi : i < p.SL.length) (z : Int) :
    ∃ gb c, p.sv = .slice (some ⟨gb, 0, none⟩) p.SL.length c ∧ (Instr.storeAt 3 (.pointer (some ⟨gb, i, none⟩)) (.int .i64 z)).run Try.prog w = .ok () (w.setCell ⟨gb, i, none⟩ (.int .i64 z)) ∧
      ∃ g', Ext w g g' ∧ Tch (Mut g) w (w.setCell ⟨gb, i, none⟩ (.int .i64 z)) ∧ PS B g' (w.setCell ⟨gb, i, none⟩ (.int .i64 z)) { p with SL := p.SL.set i z } := by
  rcases h.steps.2 with ⟨_, hn⟩ | ⟨gb, cap, cur, ev, hbg, hg, hnc, hcm, hcs, htake⟩
  · rw [List.length_map] at hn; omega
  · rw [List.length_map, Nat.mul_one] at htake
    rw [List.length_map] at ev hnc
    have hl : i < cur.size := by rw [hcs]; omega
    have lg := (Array.getElem?_eq_some_iff.1 hg).1
    have hcell : w.cell? ⟨gb, i, none⟩ = some cur[i] := by rw [cell_of_row w gb i cur 3 (0, 0) hg]; exact Array.getElem?_eq_getElem hl
    have hval : ∃ z0, cur[i] = .int .i64 z0 := by
      have h1 : (cur.toList.take p.SL.length)[i]? = some cur[i] := by
        rw [List.getElem?_take, if_pos hi, Array.getElem?_toList]; exact Array.getElem?_eq_getElem hl
      rw [htake, List.getElem?_map, List.getElem?_eq_getElem hi] at h1
      simp only [Option.map_some, Option.some.injEq, inV] at h1
      exact ⟨_, h1.symm⟩
    obtain ⟨z0, hz0⟩ := hval
    rw [hz0] at hcell
    have hf := frozen_of_row w gb i _ _ hg
    have es : (Instr.storeAt 3 (.pointer (some ⟨gb, i, none⟩)) (.int .i64 z)).run Try.prog w = .ok () (w.setCell ⟨gb, i, none⟩ (.int .i64 z)) := by go_simp
    have ts := set_tch w gb i (.int .i64 z)
    have hsv : p.sv.ownBlock = some gb := by rw [ev]; rfl
    have hnx : gb ≠ p.x := fun e => row_not h.cell h.steps (by decide) (by rw [← e]; exact hsv)
    have hblk : (w.setCell ⟨gb, i, none⟩ (.int .i64 z)).heap[gb]? = some (.cells (cur.set! i (.int .i64 z)) 3 (0, 0)) := by
      obtain ⟨hl2, hv⟩ := Array.getElem?_eq_some_iff.1 hg
      simp [World.setCell, hl2, Array.getElem_modify_self, hv]
    have own3 : OwnV (w.setCell ⟨gb, i, none⟩ (.int .i64 z)) B 3 p.sv ((p.SL.set i z).map inV) := by
      refine ⟨by simp, Or.inr ⟨gb, cap, cur.set! i (.int .i64 z), by rw [List.length_map, List.length_set]; exact ev, hbg, hblk, by rw [List.length_map, List.length_set]; exact hnc, hcm, by simp [hcs], ?_⟩⟩
      rw [List.length_map, List.length_set, Nat.mul_one, List.map_set, ← htake]
      simp [Array.set!, List.take_set]
      rfl
    obtain ⟨g', x1, x2, x3⟩ := h.lists hB (bv' := p.bv) (BL' := p.BL) (sv' := p.sv) (SL' := p.SL.set i z) (ts.mono fun k _ q => Or.inr (Or.inr (by rw [q]; exact hsv))) ((ts.block _ (Array.getElem?_eq_some_iff.1 h.cell).1 (fun e => hnx e.symm)).trans h.cell)
      (h.backs.keep fun j hj => ts.block j (by obtain ⟨_, c, q⟩ := h.backs.ge j hj; exact (Array.getElem?_eq_some_iff.1 q).1) (fun e => rows_apart h.backs h.steps (by decide) hj (by rw [e]; exact hsv))) own3 (fun j hj => Or.inl (Or.inr (Or.inl hj))) (fun j hj => Or.inl (Or.inr (Or.inr hj))) (fun c hc => Or.inl hc)
    exact ⟨gb, cap, ev, es, g', x1, x2, x3⟩
end
end Go.Proofs.Ytoofljkgdjjllaa

namespace Go.Proofs.Ytoofljkgdjjllaa
open Go.RowKit
set_option linter.unusedVariables false
set_option linter.unusedSimpArgs false

/-- A play with all that it keeps to. -/
structure PX (B x t d m : Nat) (p : Pl) (g : Nat → Nat) (w : World) : Prop where
  x : p.x = x
  t : p.s.t = t
  d : p.d = d
  ps : PS B g w p
  ln : Link p
  mb : p.BL.length ≤ m
  mn : p.NL.length ≤ m
  mp : p.PL.length ≤ m
  mq : ∀ P ∈ p.PL, P.length ≤ m
theorem PX.below {B x t d m : Nat} {p : Pl} {g : Nat → Nat} {w w' : World} (h : PX B x t d m p g w) (b : Below w.heap.size w w') : PX B x t d m p g w' := ⟨h.x, h.t, h.d, h.ps.below b, h.ln, h.mb, h.mn, h.mp, h.mq⟩
theorem PX.keep {B x t d m : Nat} {p : Pl} {g : Nat → Nat} {w w' : World} {Q : Nat → Prop} (h : PX B x t d m p g w) (b : Tch Q w w') (hQ : ∀ j, g j ≠ 0 → ¬ Q j) : PX B x t d m p g w' := ⟨h.x, h.t, h.d, h.ps.keep b hQ, h.ln, h.mb, h.mn, h.mp, h.mq⟩
theorem PX.mono {B x t d m m' : Nat} {p : Pl} {g : Nat → Nat} {w : World} (h : PX B x t d m p g w) (hm : m ≤ m') : PX B x t d m' p g w := ⟨h.x, h.t, h.d, h.ps, h.ln, Nat.le_trans h.mb hm, Nat.le_trans h.mn hm, Nat.le_trans h.mp hm, fun P hP => Nat.le_trans (h.mq P hP) hm⟩
theorem tch_below {g : Nat → Nat} {w w' : World} (b : Below w.heap.size w w') : Tch (Mut g) w w' := ⟨b.os, b.tape, b.output, b.size, fun j hj _ => b.block j hj⟩
theorem OwnV.form {w : World} {B : Nat} {e : TypeId} {v : Value} {X : List Value} (h : OwnV w B e v X) {i : Nat} (hi : i < X.length) : ∃ bb c, v = .slice (some ⟨bb, 0, none⟩) X.length c := by
  rcases h.2 with ⟨_, hn⟩ | ⟨g, cap, cur, rfl, _⟩
  · omega
  · exact ⟨g, cap, rfl⟩
theorem OwnV.hit {w : World} {B : Nat} {e : TypeId} {v : Value} {X : List Value} (h : OwnV w B e v X) {bb n c : Nat} (ev : v = .slice (some ⟨bb, 0, none⟩) n c) {i : Nat} {u : Value} (hu : X[i]? = some u) : w.cell? ⟨bb, i, none⟩ = some u := by
  obtain ⟨a, cap, e1, _, hv, _⟩ := h.open
  rw [ev] at e1
  injection e1 with e1 _ _
  rcases hv with rfl | ⟨b, off, e2, hc⟩
  · simp at hu
  · rw [e2] at e1
    injection e1 with e1
    injection e1 with e1 e3
    subst e1 e3
    have := hc i u hu
    rwa [Nat.zero_add] at this
theorem ix_bk {b n c i : Nat} (h : i < n) (hn : n ≤ 9223372036854775807) (w : World) : (Instr.indexAt 29 (.slice (some ⟨b, 0, none⟩) n c) (.int .i64 (i : Int))).run Try.prog w = .ok (.pointer (some ⟨b, i, none⟩)) w := by go_simp
theorem ix_in {b n c i : Nat} (h : i < n) (hn : n ≤ 9223372036854775807) (w : World) : (Instr.indexAt 30 (.slice (some ⟨b, 0, none⟩) n c) (.int .i64 (i : Int))).run Try.prog w = .ok (.pointer (some ⟨b, i, none⟩)) w := by go_simp
/-- What last answers. -/
def LastIs (p : Pl) (z : Int) : Prop := (z = -1 ∧ p.H = []) ∨ ∃ i : Nat, z = (i : Int) ∧ i < p.BL.length ∧ p.SL[i]? = some ((p.PL.length : Nat) : Int) ∧ 0 < p.PL.length
set_option maxRecDepth 100000 in
set_option maxHeartbeats 4000000 in
theorem last_any {B x t d m : Nat} {p : Pl} {g : Nat → Nat} {w : World} (h : PX B x t d m p g w) (hm : m ≤ 1300000000000) :
    Calls Try.prog 26 #[.pointer (some ⟨x, 0, none⟩)] w fun e w' => ∃ z, e = .returned (.int .i64 z) ∧ LastIs p z ∧ Below w.heap.size w w' := by
  have hmb := h.mb
  have hlen := h.ln.len
  obtain ⟨a, c, esv, hle, hv, _⟩ := h.ps.steps.open
  rw [List.length_map] at esv hle
  obtain ⟨n, hnn⟩ : ∃ n, p.SL.length = n := ⟨_, rfl⟩
  have HN := hidMk hnn
  have HLEN := hidMk hlen
  have hnb : n ≤ 1300000000000 := by omega
  rw [hnn] at esv
  have HE := hidMk esv
  have C3 : w.cell? ⟨x, 3, none⟩ = some (.slice a n c) := by rw [← esv, ← h.x]; exact cell_p3 h.ps.cell
  have C1 : w.cell? ⟨x, 1, none⟩ = some (.pointer (some ⟨d, 0, none⟩)) := by rw [← h.d, ← h.x]; exact cell_p1 h.ps.cell
  have lx : x < w.heap.size := by rw [← h.x]; exact (Array.getElem?_eq_some_iff.1 h.ps.cell).1
  have HC3 := hidMk (fun (W : World) (b : Below w.heap.size w W) => (b.cell (p := ⟨x, 3, none⟩) lx).trans C3)
  have HC1 := hidMk (fun (W : World) (b : Below w.heap.size w W) => (b.cell (p := ⟨x, 1, none⟩) lx).trans C1)
  have HS := hidMk (fun (W : World) (b : Below w.heap.size w W) => rsteps_any ((h.ps.below b).ref))
  rw [h.d] at HS
  have HV := hidMk (fun (W : World) (b : Below w.heap.size w W) (i : Nat) (z : Int) (hz : p.SL[i]? = some z) => show ∃ bb o, a = some ⟨bb, o, none⟩ ∧ W.cell? ⟨bb, o + i, none⟩ = some (.int .i64 z) by
    rcases hv.below b with e | ⟨bb, o, e, hc⟩
    · have q1 := congrArg List.length e; rw [List.length_map, List.length_nil] at q1; have q2 := (List.getElem?_eq_some_iff.1 hz).1; omega
    · exact ⟨bb, o, e, hc i _ (by rw [List.getElem?_map, hz]; rfl)⟩)
  have HK := hidMk h.ln
  clear hv esv hle hnn hlen hmb C3 C1 h hm
  go_enter Try.func26, Try.ntmps26
  go_wp2
  go_loopw [3] (fun v3 wr => ∃ i : Nat, v3 = .int .i64 (i : Int) ∧ i ≤ n ∧ (∀ j, j < i → p.SL[j]? ≠ some ((p.PL.length : Nat) : Int) ∨ p.PL.length = 0) ∧ Below w.heap.size w wr) (fun v3 wr => n - (match v3 with | .int _ i => i.toNat | _ => 0))
  case atStart => exact ⟨0, rfl, Nat.zero_le _, fun j hj => (by omega), Below.refl _ _⟩
  case round =>
    obtain ⟨i, rfl, hin, hbf, bel⟩ := hrel
    have HBF := hidMk hbf
    clear hbf
    have c3 := HC3.out wr bel
    by_cases hi : i < n
    · obtain ⟨z, hz⟩ : ∃ z, p.SL[i]? = some z := ⟨_, List.getElem?_eq_getElem (by have := HN.out; omega)⟩
      obtain ⟨bb, o, rfl, hcz⟩ := HV.out wr bel i z hz
      have HZ := hidMk hz
      clear hz hcz
      go_upto_region 4 with fail
      clear c3
      have beld : Below w.heap.size w wr.drew := bel.drew
      have ix : ∀ W, (Instr.indexAt 30 (.slice (some ⟨bb, o, none⟩) n c) (.int .i64 (i : Int))).run Try.prog W = .ok (.pointer (some ⟨bb, o + i, none⟩)) W := fun W => by go_simp
      have lz : ∀ W, Below w.heap.size w W → (Instr.loadAt 3 (.pointer (some ⟨bb, o + i, none⟩))).run Try.prog W = .ok (.int .i64 z) W := fun W b => by
        obtain ⟨b2, o2, e2, h2⟩ := HV.out W b i z HZ.out
        injection e2 with e2
        injection e2 with e2 e3
        subst e2 e3
        exact load_in h2
      by_cases hz : 0 < z
      · refine last4t (fun W => Below w.heap.size w W) x bb (o + i) (.slice (some ⟨bb, o, none⟩) n c) (.int .i64 (i : Int)) (.int .i64 z) (.pointer (some ⟨d, 0, none⟩)) (.int .i64 (p.PL.length : Int)) (decide (z = (p.PL.length : Int))) _ wr _ rfl rfl rfl beld ?_ ?_ ix lz ?_ ?_ ?_ ?_ ?_ ?_
        · intro W hW
          refine (HS.out W hW).mono ?_
          rintro e w' ⟨rfl, b⟩
          exact ⟨rfl, hW.trans (b.mono hW.size)⟩
        · exact fun W b => load_is (HC3.out W b)
        · exact fun W => by go_simp
        · exact fun W b => by go_simp
        · exact fun W b => load_dp (HC1.out W b)
        · exact fun W => by go_simp
        · exact fun W b => by
            go_simp
            rfl
        intro a' w' hw' ha
        subst ha
        simp only [Act.put, List.setIfInBounds_toArray, List.set_cons_zero, List.set_cons_succ]
        by_cases e : z = (p.PL.length : Int)
        · rw [decide_eq_true e]
          have hnl := HN.out
          have hz2 := HZ.out
          rw [e] at hz2
          have HQ := hidMk hz2
          have hpos : 0 < p.PL.length := by omega
          clear hz2 e hz ix lz HZ hnl
          go_wp2
          go_ret
          exact ⟨_, rfl, Or.inr ⟨i, rfl, by have := HLEN.out; have := HN.out; omega, HQ.out, hpos⟩, hw'⟩
        · rw [decide_eq_false e]
          have HE2 := hidMk e
          clear e hz ix lz
          go_wp2
          rw [show ((i : Int) + 1) = ((i + 1 : Nat) : Int) by omega]
          refine ⟨⟨i + 1, rfl, hi, fun j hj => ?_, hw'⟩, ?_⟩
          · by_cases ej : j = i
            · subst ej
              exact Or.inl (fun q => by rw [HZ.out] at q; exact HE2.out (Option.some.inj q))
            · exact HBF.out j (by omega)
          · show n - ((i + 1 : Nat) : Int).toNat < n - (i : Int).toNat
            omega
      · refine last4f (fun W => Below w.heap.size w W) x bb (o + i) (.slice (some ⟨bb, o, none⟩) n c) (.int .i64 (i : Int)) (.int .i64 z) _ wr _ rfl rfl rfl beld ?_ ix lz ?_ ?_ ?_
        · exact fun W b => load_is (HC3.out W b)
        · exact fun W => by go_simp
        · exact fun W b => by
            have hzf : decide (0 < z) = false := decide_eq_false hz
            go_simp
        intro a' w' hw' ha
        subst ha
        simp only [Act.put, List.setIfInBounds_toArray, List.set_cons_zero, List.set_cons_succ]
        have HZ2 := hidMk hz
        clear hz ix lz
        go_wp2
        rw [show ((i : Int) + 1) = ((i + 1 : Nat) : Int) by omega]
        refine ⟨⟨i + 1, rfl, hi, fun j hj => ?_, hw'⟩, ?_⟩
        · by_cases ej : j = i
          · subst ej
            by_cases e0 : p.PL.length = 0
            · exact Or.inr e0
            · exact Or.inl (fun q => by rw [HZ.out] at q; have q := Option.some.inj q; have := HZ2.out; omega)
          · exact HBF.out j (by omega)
        · show n - ((i + 1 : Nat) : Int).toNat < n - (i : Int).toNat
          omega
    · obtain rfl : i = n := by omega
      clear hi hin
      go_wp2
      go_ret
      refine ⟨_, rfl, Or.inl ⟨rfl, ?_⟩, bel⟩
      have hl := HK.out.len2
      cases hH : p.H with
      | nil => rfl
      | cons r t =>
        obtain ⟨j, hj⟩ := HK.out.all p.H.length (by rw [hH]; simp) (Nat.le_refl _)
        rw [hl] at hj
        rcases HBF.out j (by rw [← HN.out]; exact (List.getElem?_eq_some_iff.1 hj).1) with q | q
        · exact absurd hj q
        · rw [← hl, hH] at q; simp at q
end Go.Proofs.Ytoofljkgdjjllaa

namespace Go.Proofs.Ytoofljkgdjjllaa
open Go.RowKit
set_option linter.unusedVariables false
set_option linter.unusedSimpArgs false
set_option linter.unusedSectionVars false

/-- What an undo of the play gives. -/
def UPost (B x t d m : Nat) (p : Pl) (g : Nat → Nat) (w : World) (z : Int) (e : Ending) (w' : World) : Prop := e = .returned (.bool true) ∧ ∃ g' p', Ext w g g' ∧ Tch (Mut g) w w' ∧ PX B x t d m p' g' w' ∧ (z = -1 → p'.H.length = p.H.length - 1)
theorem UPost.same {B x t d m : Nat} {p : Pl} {g : Nat → Nat} {w w' : World} {z : Int} (h : PX B x t d m p g w) (b : Below w.heap.size w w') (hz : z = -1 → p.H = []) : UPost B x t d m p g w z (.returned (.bool true)) w' :=
  ⟨rfl, g, p, Ext.refl _ _, tch_below b, h.below b, fun e => by rw [hz e]; rfl⟩
theorem Tch.dr {O : Nat → Prop} {w w' : World} (h : Tch O w.drew w') : Tch O w w' := ((Tch.refl O w).drew).trans h
section
variable {B x t d m : Nat} {p : Pl} {g : Nat → Nat} {w : World}
/-- The document's last step undone, in the play. -/
theorem ps_rundo {q : Pl} (h : PS B g w q) (hB : B ≤ w.heap.size) {P : List (List RN)} {L : List RN} (hd : q.d = d) (hP : q.PL = P ++ [L]) (hn : P.length ≤ 1300000000000) :
    Calls Try.prog 72 #[.pointer (some ⟨d, 0, none⟩), .int .i64 ((q.PL.length : Nat) : Int)] w fun e w' => e = .returned (.int .i64 0) ∧ ∃ g' u vp' us0, Ext w g g' ∧ Tch (Mut g) w w' ∧ PS B g' w' { q with NL := L, PL := P, vn := u, vp := vp', us := us0 } := by
  have hr := h.ref
  rw [hP] at hr
  rw [← hd]
  have hl : q.PL.length = P.length + 1 := by rw [hP]; simp
  rw [hl]
  refine (rundo_ok hr hn).mono ?_
  rintro e w' ⟨rfl, u, vp', us0, hus, hr', t, hvp⟩
  obtain ⟨g', x1, x2, x3⟩ := h.refd hB hr' (t.mono fun j _ e => Or.inl e) (fun j hj => by
    rcases hj with q1 | q1 | q1 | ⟨i, v, hv, q1⟩
    · exact Or.inl (Or.inl q1)
    · exact Or.inl (Or.inr (Or.inr (Or.inr ⟨us0.length, u, by rw [hus]; simp, q1⟩)))
    · exact Or.inl (Or.inr (Or.inr (Or.inl (by rw [← hvp]; exact q1))))
    · exact Or.inl (Or.inr (Or.inr (Or.inr ⟨i, v, by rw [hus, List.getElem?_append_left (List.getElem?_eq_some_iff.1 hv).1]; exact hv, q1⟩))))
  exact ⟨rfl, g', u, vp', us0, x1, x2, x3⟩
end
set_option maxRecDepth 100000 in
set_option maxHeartbeats 4000000 in
theorem undo_out {B x t d m : Nat} {p : Pl} {g : Nat → Nat} {w : World} (h : PX B x t d m p g w) (hB : B ≤ w.heap.size) (hm : m ≤ 1300000000000) {z : Int} (hz1 : z ≠ -1) (hz : z < 0 ∨ (p.BL.length : Int) ≤ z) : Calls Try.prog 27 #[.pointer (some ⟨x, 0, none⟩), .int .i64 z] w (UPost B x t d m p g w z) := by
  obtain ⟨a, c, ebv, hle, _, _⟩ := h.ps.backs.open
  rw [List.length_map] at ebv hle
  obtain ⟨n, hnn⟩ : ∃ n, p.BL.length = n := ⟨_, rfl⟩
  have HN := hidMk hnn
  have hnb : n ≤ 1300000000000 := by have := h.mb; omega
  rw [hnn] at ebv
  have HBV := hidMk ebv
  clear ebv hle hnn hm hB
  have b1 : Below w.heap.size w w := Below.refl _ _
  have h1 := h
  have hz2 : z < 0 ∨ (n : Int) ≤ z := by have := HN.out; omega
  have HZ1 := hidMk hz1
  clear hz
  go_enter Try.func27, Try.ntmps27
  by_cases hneg : z < 0
  · clear hz2
    have c0 : w.cell? ⟨x, 0, none⟩ = some (.pointer (some ⟨t, 0, none⟩)) := by rw [← h1.t, ← h1.x]; exact cell_p0 h1.ps.cell
    have c2 : w.cell? ⟨x, 2, none⟩ = some (.slice a n c) := by rw [← HBV.out, ← h1.x]; exact cell_p2 h1.ps.cell
    have HU := hidMk (undo_none p.s p.H w h1.ps.own.tree)
    rw [h1.t] at HU
    go_wp2_with (first
      | (go_at_call 18; refine HU.out.mono ?_; rintro e w2 ⟨rfl, b2⟩; clear HU)
      | fail)
    go_ret
    exact UPost.same h (b1.trans (b2.mono b1.size)) (fun e => absurd e HZ1.out)
  · have hge : (n : Int) ≤ z := by omega
    clear hz2
    have c0 : w.cell? ⟨x, 0, none⟩ = some (.pointer (some ⟨t, 0, none⟩)) := by rw [← h1.t, ← h1.x]; exact cell_p0 h1.ps.cell
    have c2 : w.cell? ⟨x, 2, none⟩ = some (.slice a n c) := by rw [← HBV.out, ← h1.x]; exact cell_p2 h1.ps.cell
    have HU := hidMk (undo_none p.s p.H w h1.ps.own.tree)
    rw [h1.t] at HU
    go_wp2_with (first
      | (go_at_call 18; refine HU.out.mono ?_; rintro e w2 ⟨rfl, b2⟩; clear HU)
      | fail)
    go_ret
    exact UPost.same h (b1.trans (b2.mono b1.size)) (fun e => absurd e HZ1.out)
set_option maxRecDepth 100000 in
set_option maxHeartbeats 4000000 in
theorem undo_last_none {B x t d m : Nat} {p : Pl} {g : Nat → Nat} {w : World} (h : PX B x t d m p g w) (hB : B ≤ w.heap.size) (hm : m ≤ 1300000000000) (hH : p.H = []) : Calls Try.prog 27 #[.pointer (some ⟨x, 0, none⟩), .int .i64 (-1)] w (UPost B x t d m p g w (-1)) := by
  have HL := hidMk (last_any h hm)
  obtain ⟨a, c, ebv, hle, _, _⟩ := h.ps.backs.open
  rw [List.length_map] at ebv hle
  obtain ⟨n, hnn⟩ : ∃ n, p.BL.length = n := ⟨_, rfl⟩
  have HN := hidMk hnn
  have hnb : n ≤ 1300000000000 := by have := h.mb; omega
  rw [hnn] at ebv
  have HBV := hidMk ebv
  clear ebv hle hnn hm hB
  have HH := hidMk hH
  clear hH
  go_enter Try.func27, Try.ntmps27
  go_upto_region 3 with (first
    | (go_at_call 26; refine HL.out.mono ?_; rintro e w1 ⟨z, rfl, hz, b1⟩)
    | fail)
  have h1 := h.below b1
  rcases hz with ⟨rfl, _⟩ | ⟨i, rfl, _, hi, hpos⟩
  · clear HL
    have c0 : w1.cell? ⟨x, 0, none⟩ = some (.pointer (some ⟨t, 0, none⟩)) := by rw [← h1.t, ← h1.x]; exact cell_p0 h1.ps.cell
    have c2 : w1.cell? ⟨x, 2, none⟩ = some (.slice a n c) := by rw [← HBV.out, ← h1.x]; exact cell_p2 h1.ps.cell
    have HU := hidMk (undo_none p.s p.H w1 h1.ps.own.tree)
    rw [h1.t] at HU
    go_wp2_with (first
      | (go_at_call 18; refine HU.out.mono ?_; rintro e w2 ⟨rfl, b2⟩; clear HU)
      | fail)
    go_ret
    exact UPost.same h (b1.trans (b2.mono b1.size)) (fun _ => HH.out)
  · have := h.ln.len2
    rw [HH.out] at this
    simp at this
    omega
set_option maxRecDepth 100000 in
set_option maxHeartbeats 4000000 in
theorem undo_miss {B x t d m : Nat} {p : Pl} {g : Nat → Nat} {w : World} (h : PX B x t d m p g w) (hB : B ≤ w.heap.size) (hm : m ≤ 1300000000000) {i : Nat} (hi : i < p.BL.length) {b : Option Nat} {z : Int} (hb : p.BL[i]? = some b) (hz : p.SL[i]? = some z) (H1 : ∀ W, Below w.heap.size w W → Calls Try.prog 18 #[.pointer (some ⟨t, 0, none⟩), bkV b] W fun e w' => e = .returned (.int .i64 2) ∧ Below W.heap.size W w') (H2 : z < 1 ∨ z ≠ (p.PL.length : Int)) : Calls Try.prog 27 #[.pointer (some ⟨x, 0, none⟩), .int .i64 (i : Int)] w (UPost B x t d m p g w (i : Int)) := by
  have hmb := h.mb
  have hln := h.ln.len
  obtain ⟨bb, c, ebv⟩ := h.ps.backs.form (i := i) (by rw [List.length_map]; exact hi)
  obtain ⟨sb, sc, esv⟩ := h.ps.steps.form (i := i) (by rw [List.length_map]; omega)
  rw [List.length_map] at ebv esv
  obtain ⟨n, hnn⟩ : ∃ n, p.BL.length = n := ⟨_, rfl⟩
  have HN := hidMk hnn
  have hnb : n ≤ 1300000000000 := by omega
  have hin : i < n := by omega
  have hns : p.SL.length = n := by omega
  rw [hnn] at ebv
  rw [hns] at esv
  have HBV := hidMk ebv
  have HSV := hidMk esv
  have HC0 := hidMk (fun (W : World) (b : Below w.heap.size w W) => show W.cell? ⟨x, 0, none⟩ = some (.pointer (some ⟨t, 0, none⟩)) by rw [← h.t, ← h.x]; exact cell_p0 (h.ps.below b).cell)
  have HC1 := hidMk (fun (W : World) (b : Below w.heap.size w W) => show W.cell? ⟨x, 1, none⟩ = some (.pointer (some ⟨d, 0, none⟩)) by rw [← h.d, ← h.x]; exact cell_p1 (h.ps.below b).cell)
  have HC2 := hidMk (fun (W : World) (b : Below w.heap.size w W) => show W.cell? ⟨x, 2, none⟩ = some (.slice (some ⟨bb, 0, none⟩) n c) by rw [← ebv, ← h.x]; exact cell_p2 (h.ps.below b).cell)
  have HC3 := hidMk (fun (W : World) (b : Below w.heap.size w W) => show W.cell? ⟨x, 3, none⟩ = some (.slice (some ⟨sb, 0, none⟩) n sc) by rw [← esv, ← h.x]; exact cell_p3 (h.ps.below b).cell)
  have HCB := hidMk (fun (W : World) (bl : Below w.heap.size w W) => show W.cell? ⟨bb, i, none⟩ = some (bkV b) from (h.ps.below bl).backs.hit ebv (by rw [List.getElem?_map, hb]; rfl))
  have HCS := hidMk (fun (W : World) (bl : Below w.heap.size w W) => show W.cell? ⟨sb, i, none⟩ = some (.int .i64 z) from (h.ps.below bl).steps.hit esv (by rw [List.getElem?_map, hz]; rfl))
  have HU := hidMk H1
  have HR := hidMk (fun (W : World) (bl : Below w.heap.size w W) => rundo_no (h.ps.below bl).ref z H2)
  rw [h.d] at HR
  clear H1 H2 hb hz ebv esv hnn hns hln hmb hi hm hB
  have h1 := h
  have b1 : Below w.heap.size w w := Below.refl _ _
  have c2 : w.cell? ⟨x, 2, none⟩ = some (.slice (some ⟨bb, 0, none⟩) n c) := by rw [← HBV.out, ← h1.x]; exact cell_p2 h1.ps.cell
  go_enter Try.func27, Try.ntmps27
  go_upto_region 5 with fail
  clear c2
  have bd : Below w.heap.size w w.drew := (Below.refl _ _).drew
  refine undo5 (fun W => Below w.heap.size w W) (fun v W => v = .int .i64 2 ∧ Below w.heap.size w W) x bb i (.pointer (some ⟨t, 0, none⟩)) (.slice (some ⟨bb, 0, none⟩) n c) (.int .i64 (i : Int)) (bkV b) _ w _ rfl rfl rfl bd ?_ ?_ ?_ ?_ ?_ ?_
  · refine (HU.out _ bd).mono ?_
    rintro e w2 ⟨rfl, b2⟩
    exact ⟨_, rfl, bd.trans (b2.mono bd.size), rfl, bd.trans (b2.mono bd.size)⟩
  · exact fun W hW => load_tp (HC0.out W hW)
  · exact fun W hW => load_bs (HC2.out W hW)
  · exact fun W => ix_bk hin (by omega) W
  · exact fun W hW => load_bk (HCB.out W hW)
  rintro v a' w2 ⟨rfl, b2⟩ ha
  subst ha
  simp only [Act.put, List.setIfInBounds_toArray, List.set_cons_zero, List.set_cons_succ]
  go_upto_region 6 with fail
  have bd2 : Below w.heap.size w w2.drew := b2.drew
  refine undo6 (fun W => Below w.heap.size w W) (fun v W => v = .int .i64 2 ∧ Below w.heap.size w W) x sb i (.pointer (some ⟨d, 0, none⟩)) (.slice (some ⟨sb, 0, none⟩) n sc) (.int .i64 (i : Int)) (.int .i64 z) _ w2 _ rfl rfl rfl bd2 ?_ ?_ ?_ ?_ ?_ ?_
  · refine (HR.out _ bd2).mono ?_
    rintro e w3 ⟨rfl, b3⟩
    exact ⟨_, rfl, bd2.trans (b3.mono bd2.size), rfl, bd2.trans (b3.mono bd2.size)⟩
  · exact fun W hW => load_dp (HC1.out W hW)
  · exact fun W hW => load_is (HC3.out W hW)
  · exact fun W => ix_in hin (by omega) W
  · exact fun W hW => load_in (HCS.out W hW)
  rintro v a' w3 ⟨rfl, b3⟩ ha
  subst ha
  simp only [Act.put, List.setIfInBounds_toArray, List.set_cons_zero, List.set_cons_succ]
  go_wp2
  go_ret
  exact UPost.same h b3 (fun e => by omega)
section
variable {B x t d m : Nat} {p : Pl} {g : Nat → Nat} {w : World}
/-- What the last step's Undo does with the program's tree, then with the document's, then with the numbers. -/
theorem hit_one (h : PX B x t d m p g w) (hB : B ≤ w.heap.size) {i : Nat} {r : Rec} {H' : List Rec} {P : List (List RN)} {L : List RN} (hH : p.H = r :: H') (hP : p.PL = P ++ [L]) (hz : p.SL[i]? = some ((p.PL.length : Nat) : Int)) :
    Calls Try.prog 18 #[.pointer (some ⟨t, 0, none⟩), bkV (some r.bk)] w fun e w' => e = .returned (.int .i64 0) ∧ ∃ g' s', s'.t = t ∧ Ext w g g' ∧ Tch (Mut g) w w' ∧ PS B g' w' { p with s := s', H := H', f := upd p.f r.k r.o } := by
  have ho := h.ps.own
  rw [hH] at ho
  obtain ⟨_, hF, _⟩ := h.ln.undone hH hP hz p.s p.vn p.vp p.us p.sv
  have := undo_all ho hB hF
  rw [h.t] at this
  refine this.mono ?_
  intro e w' hu
  obtain ⟨e1, g', s', e2, e3, e4, e5⟩ := h.ps.undone hB hH hu
  exact ⟨e1, g', s', by rw [e2, h.t], e3, e4, e5⟩
theorem hit_fin (h : PX B x t d m p g w) {i : Nat} {r : Rec} {H' : List Rec} {P : List (List RN)} {L : List RN} (hH : p.H = r :: H') (hP : p.PL = P ++ [L]) (hz : p.SL[i]? = some ((p.PL.length : Nat) : Int)) {s' : Tr} (ht : s'.t = t) {vn vp : Value} {us : List Value} {g' : Nat → Nat} {w' : World}
    (ps : PS B g' w' { p with s := s', H := H', f := upd p.f r.k r.o, NL := L, PL := P, vn := vn, vp := vp, us := us, SL := p.SL.set i 0 }) : PX B x t d m { p with s := s', H := H', f := upd p.f r.k r.o, NL := L, PL := P, vn := vn, vp := vp, us := us, SL := p.SL.set i 0 } g' w' := by
  have hl : p.PL.length = P.length + 1 := by rw [hP]; simp
  have hmp := h.mp
  exact ⟨h.x, ht, h.d, ps, (h.ln.undone hH hP hz s' vn vp us p.sv).1, h.mb, h.mq L (by rw [hP]; simp), by show P.length ≤ m; omega, fun Q hQ => h.mq Q (by rw [hP]; simp [show Q ∈ P from hQ])⟩
end
set_option maxRecDepth 100000 in
set_option maxHeartbeats 4000000 in
theorem undo_hit {B x t d m : Nat} {p : Pl} {g : Nat → Nat} {w : World} (h : PX B x t d m p g w) (hB : B ≤ w.heap.size) (hm : m ≤ 1300000000000) {i : Nat} (hi : i < p.BL.length) {r : Rec} {H' : List Rec} {P : List (List RN)} {L : List RN} (hH : p.H = r :: H') (hP : p.PL = P ++ [L]) (hz : p.SL[i]? = some ((p.PL.length : Nat) : Int)) : Calls Try.prog 27 #[.pointer (some ⟨x, 0, none⟩), .int .i64 (i : Int)] w (UPost B x t d m p g w (i : Int)) := by
  have hmb := h.mb
  have hln := h.ln.len
  obtain ⟨bb, c, ebv⟩ := h.ps.backs.form (i := i) (by rw [List.length_map]; exact hi)
  obtain ⟨sb, sc, esv⟩ := h.ps.steps.form (i := i) (by rw [List.length_map]; omega)
  rw [List.length_map] at ebv esv
  obtain ⟨n, hnn⟩ : ∃ n, p.BL.length = n := ⟨_, rfl⟩
  have HN := hidMk hnn
  have hnb : n ≤ 1300000000000 := by omega
  have hin : i < n := by omega
  have hns : p.SL.length = n := by omega
  rw [hnn] at ebv
  rw [hns] at esv
  have HBV := hidMk ebv
  have HSV := hidMk esv
  have HB0 := hidMk hB
  have HH := hidMk hH
  have HP := hidMk hP
  have HSI := hidMk hz
  have HBI := hidMk (h.ln.undone hH hP hz p.s p.vn p.vp p.us p.sv).2.2
  have HPn := hidMk (show P.length ≤ 1300000000000 by have := h.mp; rw [hP] at this; simp at this; omega)
  have HNS := hidMk hns
  clear hH hP hz hnn hns ebv esv hmb hln hi hB
  have h1 := h
  have b1 : Below w.heap.size w w := Below.refl _ _
  go_enter Try.func27, Try.ntmps27
  have c2 : w.cell? ⟨x, 2, none⟩ = some (.slice (some ⟨bb, 0, none⟩) n c) := by rw [← HBV.out, ← h1.x]; exact cell_p2 h1.ps.cell
  have HB1 := hidMk (show B ≤ w.heap.size from Nat.le_trans HB0.out b1.size)
  go_upto_region 5 with fail
  clear c2
  have hd1 := h1.below (Below.refl w.heap.size w).drew
  have hS : ∀ (g2 : Nat → Nat) (W : World) (q : Pl), PS B g2 W q → q.x = x → q.s.t = t → q.d = d → q.bv = p.bv → q.BL = p.BL → q.sv = p.sv → q.SL = p.SL → W.heap[x]? = some (.cells #[.pointer (some ⟨t, 0, none⟩), .pointer (some ⟨d, 0, none⟩), .slice (some ⟨bb, 0, none⟩) n c, .slice (some ⟨sb, 0, none⟩) n sc] 32 (0, 0)) ∧ W.cell? ⟨bb, i, none⟩ = some (bkV (some r.bk)) ∧ W.cell? ⟨sb, i, none⟩ = some (.int .i64 ((p.PL.length : Nat) : Int)) := by
    intro g2 W q hq q1 q2 q3 q4 q5 q6 q7
    refine ⟨?_, hq.backs.hit (by rw [q4]; exact HBV.out) (by rw [q5, List.getElem?_map, HBI.out]; rfl), hq.steps.hit (by rw [q6]; exact HSV.out) (by rw [q7, List.getElem?_map, HSI.out]; rfl)⟩
    rw [← q1, ← q2, ← q3, ← HBV.out, ← HSV.out, ← q4, ← q6]
    exact hq.cell
  refine undo5 (fun W => W.heap[x]? = some (.cells #[.pointer (some ⟨t, 0, none⟩), .pointer (some ⟨d, 0, none⟩), .slice (some ⟨bb, 0, none⟩) n c, .slice (some ⟨sb, 0, none⟩) n sc] 32 (0, 0)) ∧ W.cell? ⟨bb, i, none⟩ = some (bkV (some r.bk)) ∧ W.cell? ⟨sb, i, none⟩ = some (.int .i64 ((p.PL.length : Nat) : Int)))
    (fun v W => v = .int .i64 0 ∧ ∃ g' s', s'.t = t ∧ Ext w g g' ∧ Tch (Mut g) w W ∧ PS B g' W { p with s := s', H := H', f := upd p.f r.k r.o }) x bb i (.pointer (some ⟨t, 0, none⟩)) (.slice (some ⟨bb, 0, none⟩) n c) (.int .i64 (i : Int)) (bkV (some r.bk)) _ w _ rfl rfl rfl (hS _ _ _ hd1.ps hd1.x hd1.t hd1.d rfl rfl rfl rfl) ?_ ?_ ?_ ?_ ?_ ?_
  · refine (hit_one hd1 HB1.out HH.out HP.out HSI.out).mono ?_
    rintro e w2 ⟨rfl, g2, s', e2, e3, e4, e5⟩
    exact ⟨_, rfl, hS _ _ _ e5 hd1.x e2 hd1.d rfl rfl rfl rfl, rfl, g2, s', e2, e3, e4.dr, e5⟩
  · exact fun W hW => load_tp (cell_p0 hW.1)
  · exact fun W hW => load_bs (cell_p2 hW.1)
  · exact fun W => ix_bk hin (by omega) W
  · exact fun W hW => load_bk hW.2.1
  rintro v a' w2 ⟨rfl, g2, s', e2, e3, e4, e5⟩ ha
  subst ha
  simp only [Act.put, List.setIfInBounds_toArray, List.set_cons_zero, List.set_cons_succ]
  go_upto_region 6 with fail
  have hd2 : PS B g2 w2.drew { p with s := s', H := H', f := upd p.f r.k r.o } := e5.below (Below.refl w2.heap.size w2).drew
  refine undo6 (fun W => W.heap[x]? = some (.cells #[.pointer (some ⟨t, 0, none⟩), .pointer (some ⟨d, 0, none⟩), .slice (some ⟨bb, 0, none⟩) n c, .slice (some ⟨sb, 0, none⟩) n sc] 32 (0, 0)) ∧ W.cell? ⟨bb, i, none⟩ = some (bkV (some r.bk)) ∧ W.cell? ⟨sb, i, none⟩ = some (.int .i64 ((p.PL.length : Nat) : Int)))
    (fun v W => v = .int .i64 0 ∧ ∃ g' u vp' us0, Ext w2 g2 g' ∧ Tch (Mut g2) w2 W ∧ PS B g' W { p with s := s', H := H', f := upd p.f r.k r.o, NL := L, PL := P, vn := u, vp := vp', us := us0 }) x sb i (.pointer (some ⟨d, 0, none⟩)) (.slice (some ⟨sb, 0, none⟩) n sc) (.int .i64 (i : Int)) (.int .i64 ((p.PL.length : Nat) : Int)) _ w2 _ rfl rfl rfl (hS _ _ _ hd2 hd1.x e2 hd1.d rfl rfl rfl rfl) ?_ ?_ ?_ ?_ ?_ ?_
  · have hru := ps_rundo hd2 (show B ≤ w2.drew.heap.size from Nat.le_trans HB1.out e4.size) (P := P) (L := L) hd1.d HP.out HPn.out
    refine hru.mono ?_
    rintro e w3 ⟨rfl, g3, u, vp', us0, f1, f2, f3⟩
    exact ⟨_, rfl, hS _ _ _ f3 hd1.x e2 hd1.d rfl rfl rfl rfl, rfl, g3, u, vp', us0, f1, f2.dr, f3⟩
  · exact fun W hW => load_dp (cell_p1 hW.1)
  · exact fun W hW => load_is (cell_p3 hW.1)
  · exact fun W => ix_in hin (by omega) W
  · exact fun W hW => load_in hW.2.2
  rintro v a' w3 ⟨rfl, g3, u, vp', us0, f1, f2, f3⟩ ha
  subst ha
  simp only [Act.put, List.setIfInBounds_toArray, List.set_cons_zero, List.set_cons_succ]
  obtain ⟨gb, cc, q1, q2, g4, x1, x2, x3⟩ := steps_set f3 (Nat.le_trans HB1.out (Nat.le_trans e4.size f2.size)) (i := i) (by show i < p.SL.length; have := HNS.out; omega) 0
  have q1' : p.sv = .slice (some ⟨gb, 0, none⟩) p.SL.length cc := q1
  rw [HSV.out] at q1'
  injection q1' with q1' qa qb
  clear qa qb
  injection q1' with q1'
  injection q1' with q1'
  subst q1'
  have HST := hidMk q2
  have HL3 := hidMk (load_is (cell_p3 (hS _ _ _ f3 hd1.x e2 hd1.d rfl rfl rfl rfl).1))
  have HIX := hidMk (fun W => ix_in (b := sb) (c := sc) hin (show n ≤ 9223372036854775807 by omega) W)
  have T2 := hidMk (Tch.trans' (O' := Mut g2) e4 f2 (fun j hj q => by unfold Mut at q ⊢; rwa [e3 j hj] at q))
  have z2 := e4.size
  have z3 := f2.size
  have T3 := hidMk (Tch.trans' (O' := Mut g3) T2.out x2 (fun j hj q => by unfold Mut at q ⊢; rwa [f1 j (by omega), e3 j hj] at q))
  have EX := hidMk ((e3.trans f1 z2).trans x1 (by omega))
  have FIN := hidMk (hit_fin h1 HH.out HP.out HSI.out e2 x3)
  have CC1 := hidMk b1
  clear q1 q2 x1 x2 x3 f1 f2 f3 e3 e4 e5 hS hd1 hd2 z2 z3 b1
  go_wp2_with (first
    | (refine wpList_val rfl (exec_load (t := 30) (u := .pointer (some ⟨x, 3, none⟩)) rfl rfl HL3.out) ?_)
    | (refine wpList_val rfl (exec_indexAt (t := 30) (xv := .slice (some ⟨sb, 0, none⟩) n sc) rfl rfl rfl (HIX.out _)) ?_)
    | (refine wpList_skip rfl rfl (exec_store (t := 3) (xv := .pointer (some ⟨sb, i, none⟩)) (yv := .int .i64 0) rfl rfl rfl HST.out) ?_)
    | fail)
  go_ret
  refine ⟨rfl, g4, _, fun j hj => EX.out j (Nat.lt_of_lt_of_le hj CC1.out.size), Tch.trans (tch_below CC1.out) T3.out, FIN.out, ?_⟩
  intro e; omega
set_option maxRecDepth 100000 in
set_option maxHeartbeats 4000000 in
theorem undo_last {B x t d m : Nat} {p : Pl} {g : Nat → Nat} {w : World} (h : PX B x t d m p g w) (hB : B ≤ w.heap.size) (hm : m ≤ 1300000000000) {r : Rec} {H' : List Rec} {P : List (List RN)} {L : List RN} (hH : p.H = r :: H') (hP : p.PL = P ++ [L]) : Calls Try.prog 27 #[.pointer (some ⟨x, 0, none⟩), .int .i64 (-1)] w (UPost B x t d m p g w (-1)) := by
  have HL := hidMk (last_any h hm)
  have HHP := hidMk (And.intro hH hP)
  have HB00 := hidMk hB
  have HMM := hidMk hm
  clear hH hP hB hm
  go_enter Try.func27, Try.ntmps27
  go_upto_region 3 with (first
    | (go_at_call 26; refine HL.out.mono ?_; rintro e w1 ⟨z, rfl, hz, b1⟩)
    | fail)
  have h1 := h.below b1
  rcases hz with ⟨rfl, q⟩ | ⟨i, rfl, hi, hz, hpos⟩
  · rw [HHP.out.1] at q; cases q
  have hH := HHP.out.1
  have hP := HHP.out.2
  have hB := HB00.out
  have hm := HMM.out
  clear hpos HL
  have hmb := h.mb
  have hln := h.ln.len
  obtain ⟨bb, c, ebv⟩ := h.ps.backs.form (i := i) (by rw [List.length_map]; exact hi)
  obtain ⟨sb, sc, esv⟩ := h.ps.steps.form (i := i) (by rw [List.length_map]; omega)
  rw [List.length_map] at ebv esv
  obtain ⟨n, hnn⟩ : ∃ n, p.BL.length = n := ⟨_, rfl⟩
  have HN := hidMk hnn
  have hnb : n ≤ 1300000000000 := by omega
  have hin : i < n := by omega
  have hns : p.SL.length = n := by omega
  rw [hnn] at ebv
  rw [hns] at esv
  have HBV := hidMk ebv
  have HSV := hidMk esv
  have HB0 := hidMk hB
  have HH := hidMk hH
  have HP := hidMk hP
  have HSI := hidMk hz
  have HBI := hidMk (h.ln.undone hH hP hz p.s p.vn p.vp p.us p.sv).2.2
  have HPn := hidMk (show P.length ≤ 1300000000000 by have := h.mp; rw [hP] at this; simp at this; omega)
  have HNS := hidMk hns
  clear hH hP hz hnn hns ebv esv hmb hln hi hB
  have c2 : w1.cell? ⟨x, 2, none⟩ = some (.slice (some ⟨bb, 0, none⟩) n c) := by rw [← HBV.out, ← h1.x]; exact cell_p2 h1.ps.cell
  have HB1 := hidMk (show B ≤ w1.heap.size from Nat.le_trans HB0.out b1.size)
  go_upto_region 5 with fail
  clear c2
  have hd1 := h1.below (Below.refl w1.heap.size w1).drew
  have hS : ∀ (g2 : Nat → Nat) (W : World) (q : Pl), PS B g2 W q → q.x = x → q.s.t = t → q.d = d → q.bv = p.bv → q.BL = p.BL → q.sv = p.sv → q.SL = p.SL → W.heap[x]? = some (.cells #[.pointer (some ⟨t, 0, none⟩), .pointer (some ⟨d, 0, none⟩), .slice (some ⟨bb, 0, none⟩) n c, .slice (some ⟨sb, 0, none⟩) n sc] 32 (0, 0)) ∧ W.cell? ⟨bb, i, none⟩ = some (bkV (some r.bk)) ∧ W.cell? ⟨sb, i, none⟩ = some (.int .i64 ((p.PL.length : Nat) : Int)) := by
    intro g2 W q hq q1 q2 q3 q4 q5 q6 q7
    refine ⟨?_, hq.backs.hit (by rw [q4]; exact HBV.out) (by rw [q5, List.getElem?_map, HBI.out]; rfl), hq.steps.hit (by rw [q6]; exact HSV.out) (by rw [q7, List.getElem?_map, HSI.out]; rfl)⟩
    rw [← q1, ← q2, ← q3, ← HBV.out, ← HSV.out, ← q4, ← q6]
    exact hq.cell
  refine undo5 (fun W => W.heap[x]? = some (.cells #[.pointer (some ⟨t, 0, none⟩), .pointer (some ⟨d, 0, none⟩), .slice (some ⟨bb, 0, none⟩) n c, .slice (some ⟨sb, 0, none⟩) n sc] 32 (0, 0)) ∧ W.cell? ⟨bb, i, none⟩ = some (bkV (some r.bk)) ∧ W.cell? ⟨sb, i, none⟩ = some (.int .i64 ((p.PL.length : Nat) : Int)))
    (fun v W => v = .int .i64 0 ∧ ∃ g' s', s'.t = t ∧ Ext w1 g g' ∧ Tch (Mut g) w1 W ∧ PS B g' W { p with s := s', H := H', f := upd p.f r.k r.o }) x bb i (.pointer (some ⟨t, 0, none⟩)) (.slice (some ⟨bb, 0, none⟩) n c) (.int .i64 (i : Int)) (bkV (some r.bk)) _ w1 _ rfl rfl rfl (hS _ _ _ hd1.ps hd1.x hd1.t hd1.d rfl rfl rfl rfl) ?_ ?_ ?_ ?_ ?_ ?_
  · refine (hit_one hd1 HB1.out HH.out HP.out HSI.out).mono ?_
    rintro e w2 ⟨rfl, g2, s', e2, e3, e4, e5⟩
    exact ⟨_, rfl, hS _ _ _ e5 hd1.x e2 hd1.d rfl rfl rfl rfl, rfl, g2, s', e2, e3, e4.dr, e5⟩
  · exact fun W hW => load_tp (cell_p0 hW.1)
  · exact fun W hW => load_bs (cell_p2 hW.1)
  · exact fun W => ix_bk hin (by omega) W
  · exact fun W hW => load_bk hW.2.1
  rintro v a' w2 ⟨rfl, g2, s', e2, e3, e4, e5⟩ ha
  subst ha
  simp only [Act.put, List.setIfInBounds_toArray, List.set_cons_zero, List.set_cons_succ]
  go_upto_region 6 with fail
  have hd2 : PS B g2 w2.drew { p with s := s', H := H', f := upd p.f r.k r.o } := e5.below (Below.refl w2.heap.size w2).drew
  refine undo6 (fun W => W.heap[x]? = some (.cells #[.pointer (some ⟨t, 0, none⟩), .pointer (some ⟨d, 0, none⟩), .slice (some ⟨bb, 0, none⟩) n c, .slice (some ⟨sb, 0, none⟩) n sc] 32 (0, 0)) ∧ W.cell? ⟨bb, i, none⟩ = some (bkV (some r.bk)) ∧ W.cell? ⟨sb, i, none⟩ = some (.int .i64 ((p.PL.length : Nat) : Int)))
    (fun v W => v = .int .i64 0 ∧ ∃ g' u vp' us0, Ext w2 g2 g' ∧ Tch (Mut g2) w2 W ∧ PS B g' W { p with s := s', H := H', f := upd p.f r.k r.o, NL := L, PL := P, vn := u, vp := vp', us := us0 }) x sb i (.pointer (some ⟨d, 0, none⟩)) (.slice (some ⟨sb, 0, none⟩) n sc) (.int .i64 (i : Int)) (.int .i64 ((p.PL.length : Nat) : Int)) _ w2 _ rfl rfl rfl (hS _ _ _ hd2 hd1.x e2 hd1.d rfl rfl rfl rfl) ?_ ?_ ?_ ?_ ?_ ?_
  · have hru := ps_rundo hd2 (show B ≤ w2.drew.heap.size from Nat.le_trans HB1.out e4.size) (P := P) (L := L) hd1.d HP.out HPn.out
    refine hru.mono ?_
    rintro e w3 ⟨rfl, g3, u, vp', us0, f1, f2, f3⟩
    exact ⟨_, rfl, hS _ _ _ f3 hd1.x e2 hd1.d rfl rfl rfl rfl, rfl, g3, u, vp', us0, f1, f2.dr, f3⟩
  · exact fun W hW => load_dp (cell_p1 hW.1)
  · exact fun W hW => load_is (cell_p3 hW.1)
  · exact fun W => ix_in hin (by omega) W
  · exact fun W hW => load_in hW.2.2
  rintro v a' w3 ⟨rfl, g3, u, vp', us0, f1, f2, f3⟩ ha
  subst ha
  simp only [Act.put, List.setIfInBounds_toArray, List.set_cons_zero, List.set_cons_succ]
  obtain ⟨gb, cc, q1, q2, g4, x1, x2, x3⟩ := steps_set f3 (Nat.le_trans HB1.out (Nat.le_trans e4.size f2.size)) (i := i) (by show i < p.SL.length; have := HNS.out; omega) 0
  have q1' : p.sv = .slice (some ⟨gb, 0, none⟩) p.SL.length cc := q1
  rw [HSV.out] at q1'
  injection q1' with q1' qa qb
  clear qa qb
  injection q1' with q1'
  injection q1' with q1'
  subst q1'
  have HST := hidMk q2
  have HL3 := hidMk (load_is (cell_p3 (hS _ _ _ f3 hd1.x e2 hd1.d rfl rfl rfl rfl).1))
  have HIX := hidMk (fun W => ix_in (b := sb) (c := sc) hin (show n ≤ 9223372036854775807 by omega) W)
  have T2 := hidMk (Tch.trans' (O' := Mut g2) e4 f2 (fun j hj q => by unfold Mut at q ⊢; rwa [e3 j hj] at q))
  have z2 := e4.size
  have z3 := f2.size
  have T3 := hidMk (Tch.trans' (O' := Mut g3) T2.out x2 (fun j hj q => by unfold Mut at q ⊢; rwa [f1 j (by omega), e3 j hj] at q))
  have EX := hidMk ((e3.trans f1 z2).trans x1 (by omega))
  have FIN := hidMk (hit_fin h1 HH.out HP.out HSI.out e2 x3)
  have CC1 := hidMk b1
  clear q1 q2 x1 x2 x3 f1 f2 f3 e3 e4 e5 hS hd1 hd2 z2 z3 b1
  go_wp2_with (first
    | (refine wpList_val rfl (exec_load (t := 30) (u := .pointer (some ⟨x, 3, none⟩)) rfl rfl HL3.out) ?_)
    | (refine wpList_val rfl (exec_indexAt (t := 30) (xv := .slice (some ⟨sb, 0, none⟩) n sc) rfl rfl rfl (HIX.out _)) ?_)
    | (refine wpList_skip rfl rfl (exec_store (t := 3) (xv := .pointer (some ⟨sb, i, none⟩)) (yv := .int .i64 0) rfl rfl rfl HST.out) ?_)
    | fail)
  go_ret
  refine ⟨rfl, g4, _, fun j hj => EX.out j (Nat.lt_of_lt_of_le hj CC1.out.size), Tch.trans (tch_below CC1.out) T3.out, FIN.out, ?_⟩
  intro _; rw [HH.out]; rfl
theorem undo_any {B x t d m : Nat} {p : Pl} {g : Nat → Nat} {w : World} (h : PX B x t d m p g w) (hB : B ≤ w.heap.size) (hm : m ≤ 1300000000000) (z : Int) : Calls Try.prog 27 #[.pointer (some ⟨x, 0, none⟩), .int .i64 z] w (UPost B x t d m p g w z) := by
  by_cases hz : z = -1
  · subst hz
    cases hH : p.H with
    | nil => exact undo_last_none h hB hm hH
    | cons r H' =>
      have hh := h.ln.hm
      rw [hH] at hh
      obtain ⟨P, L, e, _⟩ := hh.front
      exact undo_last h hB hm hH e
  · by_cases ho : z < 0 ∨ (p.BL.length : Int) ≤ z
    · exact undo_out h hB hm hz ho
    · obtain ⟨i, rfl⟩ : ∃ i : Nat, z = (i : Int) := ⟨z.toNat, by omega⟩
      have hi : i < p.BL.length := by omega
      rcases h.ln.meets hi with ⟨h1, h2⟩ | ⟨b, z, h1, h2, h3, h4⟩ | ⟨r, H', P, L, h1, h2, h3, h4⟩
      · refine undo_miss h hB hm hi h2 h1 (fun W b => ?_) (Or.inl (by decide))
        rw [← h.t]
        exact undo_none p.s p.H W (h.below b).ps.own.tree
      · refine undo_miss h hB hm hi h2 h1 (fun W bl => ?_) h4
        rw [← h.t]
        obtain ⟨_, c, hc⟩ := (h.below bl).ps.bk b (List.mem_of_getElem? h2)
        exact undo_no p.s p.H b c W (h.below bl).ps.own.tree hc h3
      · exact undo_hit h hB hm hi h1 h2 h3
end Go.Proofs.Ytoofljkgdjjllaa

namespace Go.Proofs.Ytoofljkgdjjllaa
open Go.RowKit
set_option linter.unusedVariables false
set_option linter.unusedSimpArgs false
set_option linter.unusedSectionVars false

/-- What a step of the play gives. -/
def SPost (B x t d m : Nat) (g : Nat → Nat) (w : World) (e : Ending) (w' : World) : Prop := e = .returned (.bool true) ∧ ∃ g' p', Ext w g g' ∧ Tch (Mut g) w w' ∧ PX B x t d (m + 1) p' g' w'
section
variable {B x t d m : Nat} {p : Pl} {g : Nat → Nat} {w : World}
theorem ps_tree_no (h : PX B x t d m p g w) {k : IdK} {n : NodeV} {c : Int} (hc : c ≠ 0) {F : Nat} {args : Array Value} (hC : Calls Try.prog F args w (StepP B w p.s p.H p.f k n c)) :
    Calls Try.prog F args w fun e w' => e = .returned (.tuple #[.pointer none, .int .i64 c]) ∧ Below w.heap.size w w' := by
  refine hC.mono ?_
  rintro e w' (⟨_, h1, h2⟩ | ⟨h1, _⟩)
  · exact ⟨h1, h2⟩
  · exact absurd h1 hc
theorem ps_ref_no {NL : List RN} {PL : List (List RN)} {vn vp : Value} {us : List Value} {k : IdK} {n : NodeV} {c : Int} (hc : c ≠ 0) {F : Nat} {args : Array Value} (hC : Calls Try.prog F args w (RStep B w d NL PL vn vp us k n c)) :
    Calls Try.prog F args w fun e w' => e = .returned (.int .i64 c) ∧ Below w.heap.size w w' := by
  refine hC.mono ?_
  rintro e w' (⟨_, h1, h2⟩ | ⟨h1, _⟩)
  · exact ⟨h1, h2⟩
  · exact absurd h1 hc
theorem ps_tree_ok (h : PX B x t d m p g w) (hB : B ≤ w.heap.size) {k : IdK} {n : NodeV} {c : Int} (hc : c = 0) {F : Nat} {args : Array Value} (hC : Calls Try.prog F args w (StepP B w p.s p.H p.f k n c)) :
    Calls Try.prog F args w fun e w' => ∃ g' s' r, e = .returned (.tuple #[.pointer (some ⟨r.bk, 0, none⟩), .int .i64 0]) ∧ s'.t = t ∧ r.k = k ∧ r.o = p.f k ∧ w.heap.size ≤ r.bk ∧ Ext w g g' ∧ Tch (Mut g) w w' ∧ PS B g' w' { p with s := s', H := r :: p.H, f := upd p.f k (some n) } := by
  refine hC.mono ?_
  rintro e w' (⟨h1, _⟩ | ⟨_, s', r, hd⟩)
  · exact absurd hc h1
  · obtain ⟨g', h1, h2, h3, h4⟩ := h.ps.done hB hd
    exact ⟨g', s', r, hd.ret, by rw [hd.t, h.t], hd.rk, hd.ro, h4, h1, h2, h3⟩
theorem ps_ref_ok {q : Pl} (h : PS B g w q) (hB : B ≤ w.heap.size) {k : IdK} {n : NodeV} {c : Int} (hc : c = 0) {F : Nat} {args : Array Value} (hC : Calls Try.prog F args w (RStep B w q.d q.NL q.PL q.vn q.vp q.us k n c)) :
    Calls Try.prog F args w fun e w' => e = .returned (.int .i64 0) ∧ ∃ g' vn vp us, Ext w g g' ∧ Tch (Mut g) w w' ∧ PS B g' w' { q with NL := M.put q.NL k n, PL := q.PL ++ [q.NL], vn := vn, vp := vp, us := us } := by
  refine hC.mono ?_
  rintro e w' (⟨h1, _⟩ | ⟨_, he, vn, vp, us, h1, h2, h3⟩)
  · exact absurd hc h1
  · obtain ⟨g', x1, x2, x3⟩ := h.refd hB h1 h2 h3
    exact ⟨he, g', vn, vp, us, x1, x2, x3⟩
/-- A refused call's lists. -/
theorem lists_no (h : PX B x t d m p g w) (hB : B ≤ w.heap.size) (hm : m + 1 ≤ 1300000000000) :
    ∃ (lv qv lv2 qv2 : Value) (w1 w2 w3 w4 w5 w6 : World), (Instr.buildSlice 29 1 #[(0, .pointer none)]).run Try.prog w = .ok lv w1 ∧ (Builtin.append_ #[29, 29] 29 #[p.bv, lv]).run Try.prog w1 = .ok qv w2 ∧ (Instr.storeAt 29 (.pointer (some ⟨x, 2, none⟩)) qv).run Try.prog w2 = .ok () w3 ∧
      (Instr.loadAt 30 (.pointer (some ⟨x, 3, none⟩))).run Try.prog w3 = .ok p.sv w3 ∧ (Instr.buildSlice 30 1 #[(0, .int .i64 0)]).run Try.prog w3 = .ok lv2 w4 ∧ (Builtin.append_ #[30, 30] 30 #[p.sv, lv2]).run Try.prog w4 = .ok qv2 w5 ∧ (Instr.storeAt 30 (.pointer (some ⟨x, 3, none⟩)) qv2).run Try.prog w5 = .ok () w6 ∧ SPost B x t d m g w (.returned (.bool true)) w6 := by
  have hmb := h.mb
  have hln := h.ln.len
  obtain ⟨lv, qv, w1, w2, w3, e1, e2, e3, g1, x1, x2, x3⟩ := backs_runs h.ps hB (by omega) none (fun c hc => by cases hc)
  have hB3 : B ≤ w3.heap.size := Nat.le_trans hB x2.size
  obtain ⟨lv2, qv2, w4, w5, w6, e4, e5, e6, g2, y1, y2, y3⟩ := steps_runs x3 hB3 (by show p.SL.length ≤ _; omega) 0
  have hld := load_is (cell_p3 x3.cell)
  have hpx := h.x
  simp only at e6 hld e5
  rw [hpx] at e3 e6 hld
  refine ⟨lv, qv, lv2, qv2, w1, w2, w3, w4, w5, w6, e1, e2, e3, hld, e4, e5, e6, rfl, g2, { p with bv := qv, BL := p.BL ++ [none], sv := qv2, SL := p.SL ++ [0] }, x1.trans y1 x2.size, mut_ext x1 x2 y2, h.x, h.t, h.d, y3, h.ln.refused qv qv2, by simp; omega, Nat.le_succ_of_le h.mn, Nat.le_succ_of_le h.mp, fun P hP => Nat.le_succ_of_le (h.mq P hP)⟩
theorem put_len_le (NL : List RN) (k : IdK) (n : NodeV) : (M.put NL k n).length ≤ NL.length + 1 := by
  rw [M.put_len]; split <;> omega
/-- A done call's lists. -/
theorem lists_ok {w0 : World} {g0 : Nat → Nat} (h : PX B x t d m p g0 w0) (hB : B ≤ w.heap.size) (hm : m + 1 ≤ 1300000000000) {s' : Tr} {r : Rec} {k : IdK} {n : NodeV} {vn vp : Value} {us : List Value} (ht : s'.t = t) (rk : r.k = k) (ro : r.o = p.f k) (hrb : w0.heap.size ≤ r.bk) (ex : Ext w0 g0 g) (tc : Tch (Mut g0) w0 w)
    (ps : PS B g w { p with s := s', H := r :: p.H, f := upd p.f k (some n), NL := M.put p.NL k n, PL := p.PL ++ [p.NL], vn := vn, vp := vp, us := us }) :
    ∃ (lv qv lv2 qv2 : Value) (w1 w2 w3 w4 w5 w6 : World), (Instr.buildSlice 29 1 #[(0, .pointer (some ⟨r.bk, 0, none⟩))]).run Try.prog w = .ok lv w1 ∧ (Builtin.append_ #[29, 29] 29 #[p.bv, lv]).run Try.prog w1 = .ok qv w2 ∧ (Instr.storeAt 29 (.pointer (some ⟨x, 2, none⟩)) qv).run Try.prog w2 = .ok () w3 ∧
      (Instr.loadAt 30 (.pointer (some ⟨x, 3, none⟩))).run Try.prog w3 = .ok p.sv w3 ∧ (Instr.buildSlice 30 1 #[(0, .int .i64 ((p.PL.length + 1 : Nat) : Int))]).run Try.prog w3 = .ok lv2 w4 ∧ (Builtin.append_ #[30, 30] 30 #[p.sv, lv2]).run Try.prog w4 = .ok qv2 w5 ∧ (Instr.storeAt 30 (.pointer (some ⟨x, 3, none⟩)) qv2).run Try.prog w5 = .ok () w6 ∧ SPost B x t d m g0 w0 (.returned (.bool true)) w6 := by
  have hmb := h.mb
  have hmn := h.mn
  have hmp := h.mp
  have hln := h.ln.len
  have hpl := put_len_le p.NL k n
  have hbk : ∃ q, w.heap[r.bk]? = some (.cells q 103 (0, 0)) := Hist.back ps.own.tree.hist.1
  obtain ⟨lv, qv, w1, w2, w3, e1, e2, e3, g1, x1, x2, x3⟩ := backs_runs ps hB (by show p.BL.length ≤ _; omega) (some r.bk) (fun c hc => by
    cases hc
    exact ⟨ps.g2 r (List.mem_cons_self ..) r.bk (by simp [Rec.bl]), hbk⟩)
  have hB3 : B ≤ w3.heap.size := Nat.le_trans hB x2.size
  obtain ⟨lv2, qv2, w4, w5, w6, e4, e5, e6, g2, y1, y2, y3⟩ := steps_runs x3 hB3 (by show p.SL.length ≤ _; omega) ((p.PL.length + 1 : Nat) : Int)
  have hld := load_is (cell_p3 x3.cell)
  have hpx := h.x
  simp only at e6 hld e5 e3 e2
  rw [hpx] at e3 e6 hld
  have old : ∀ q ∈ p.H, q.bk ≠ r.bk := fun q hq e => by
    have := h.ps.own.tree.hist.lt q hq q.bk (by simp [Rec.bl])
    omega
  have old2 : ∀ b, some b ∈ p.BL → b ≠ r.bk := fun b hb e => by
    obtain ⟨_, c, hc⟩ := h.ps.bk b hb
    have := (Array.getElem?_eq_some_iff.1 hc).1
    omega
  have hL := h.ln.done h.ps.own.ft (n := n) (s' := s') rk ro h.ps.ref.nd old old2 vn vp us qv qv2
  refine ⟨lv, qv, lv2, qv2, w1, w2, w3, w4, w5, w6, e1, e2, e3, hld, e4, e5, e6, rfl, g2, { p with s := s', H := r :: p.H, f := upd p.f k (some n), NL := M.put p.NL k n, PL := p.PL ++ [p.NL], vn := vn, vp := vp, us := us, bv := qv, BL := p.BL ++ [some r.bk], sv := qv2, SL := p.SL ++ [((p.PL.length + 1 : Nat) : Int)] }, (ex.trans x1 tc.size).trans y1 (Nat.le_trans tc.size x2.size), mut_ext ex tc (mut_ext x1 x2 y2), h.x, ht, h.d, y3, hL, by simp; omega, by show (M.put p.NL k n).length ≤ m + 1; omega, by simp; omega, fun P hP => ?_⟩
  rcases List.mem_append.1 hP with q | q
  · exact Nat.le_succ_of_le (h.mq P q)
  · simp at q; subst q; omega
end
theorem op_box (w : World) (o : OpV) : (w.alloc (.cells o.c.toArray 39)).heap[w.heap.size]? = some (.cells o.c.toArray 39 (0, 0)) ∧ Below w.heap.size w (w.alloc (.cells o.c.toArray 39)) ∧ (w.alloc (.cells o.c.toArray 39)).heap.size = w.heap.size + 1 := ⟨heap_alloc_new _ _, (Below.refl _ _).alloc (Nat.le_refl _) _, by simp⟩
theorem op_range {w : World} {b : Nat} {o : OpV} (h : w.heap[b]? = some (.cells o.c.toArray 39 (0, 0))) : w.rangeAt b 0 o.c := cells_range h
set_option maxRecDepth 100000 in
set_option maxHeartbeats 4000000 in
theorem step_grow_no {B x t d m : Nat} {p : Pl} {g : Nat → Nat} {w : World} (h : PX B x t d m p g w) (hB : B ≤ w.heap.size) (hm : m + 1 ≤ 1300000000000) (o : OpV) (ok : o.ok) (hk : o.kind = 0) (hc : gC p.f o.id o.under ≠ 0) : Calls Try.prog 12 #[.pointer (some ⟨x, 0, none⟩), .agg o.c.toArray] w (SPost B x t d m g w) := by
  have HE := hidMk h.ln.eq
  have HNL := hidMk (show p.NL.length ≤ 1300000000000 by have := h.mn; omega)
  have HPL := hidMk (show p.PL.length ≤ 1300000000000 by have := h.mp; omega)
  have HB0 := hidMk hB
  have HM := hidMk hm
  have HC := hidMk hc
  obtain ⟨c, hcc⟩ : ∃ c, gC p.f o.id o.under = c := ⟨_, rfl⟩
  have HCC := hidMk hcc
  have hc0 : ¬ c = 0 := by rw [← hcc]; exact hc
  clear hcc hc hB hm
  go_enter Try.func12, Try.ntmps12
  go_upto_region 3 with fail
  obtain ⟨hbo, bx, zx⟩ := op_box w o
  generalize w.alloc (.cells o.c.toArray 39) = W at *
  have lbo : w.heap.size < W.heap.size := by omega
  have ck : W.cell? ⟨w.heap.size, 0, none⟩ = some (.int .i64 o.kind) := op_range hbo 0 _ rfl
  clear zx
  obtain ⟨bo, hbb⟩ : ∃ bo, w.heap.size = bo := ⟨_, rfl⟩
  have HBB := hidMk hbb
  rw [hbb] at hbo ck lbo ⊢
  clear hbb
  rw [hk] at ck
  have hW := h.below bx
  have HB1 := hidMk (show B ≤ W.heap.size from Nat.le_trans HB0.out bx.size)
  clear hk
  go_upto_region 6 with fail
  clear ck
  have bd : Below W.heap.size W W.drew := (Below.refl _ _).drew
  have hS : ∀ V, Below W.heap.size W V → (fun V => V.heap[x]? = some (.cells #[.pointer (some ⟨t, 0, none⟩), .pointer (some ⟨d, 0, none⟩), p.bv, p.sv] 32 (0, 0)) ∧ V.heap[bo]? = some (.cells o.c.toArray 39 (0, 0))) V := fun V b => ⟨by rw [← h.x, ← h.t, ← h.d]; exact (hW.below b).ps.cell, (b.block _ lbo).trans hbo⟩
  refine step6 (fun V => V.heap[x]? = some (.cells #[.pointer (some ⟨t, 0, none⟩), .pointer (some ⟨d, 0, none⟩), p.bv, p.sv] 32 (0, 0)) ∧ V.heap[bo]? = some (.cells o.c.toArray 39 (0, 0))) (fun tv v V => tv = .pointer none ∧ v = .int .i64 c ∧ Below W.heap.size W V) x bo (.pointer (some ⟨t, 0, none⟩)) o.id.v o.under.v (.string o.key) _ W _ rfl rfl rfl (hS _ bd) ?_ ?_ ?_ ?_ ?_ ?_
  · have hcall := ps_tree_no (hW.below bd) HC.out (grow_all (hW.below bd).ps.own HB1.out o.id o.under o.key ok.id ok.under)
    rw [h.t, HCC.out] at hcall
    refine hcall.mono ?_
    rintro e w2 ⟨rfl, b2⟩
    exact ⟨_, _, rfl, hS _ (bd.trans (b2.mono bd.size)), rfl, rfl, bd.trans (b2.mono bd.size)⟩
  · exact fun V hV => load_tp (cell_p0 hV.1)
  · exact fun V hV => op_id ok (op_range hV.2)
  · exact fun V hV => op_under ok (op_range hV.2)
  · exact fun V hV => op_key ok (op_range hV.2)
  rintro tv v a' w2 ⟨rfl, rfl, b2⟩ ha
  subst ha
  simp only [Act.put, List.setIfInBounds_toArray, List.set_cons_zero, List.set_cons_succ]
  go_upto_region 7 with fail
  have bd2 : Below W.heap.size W w2.drew := b2.drew
  refine step7 (fun V => V.heap[x]? = some (.cells #[.pointer (some ⟨t, 0, none⟩), .pointer (some ⟨d, 0, none⟩), p.bv, p.sv] 32 (0, 0)) ∧ V.heap[bo]? = some (.cells o.c.toArray 39 (0, 0))) (fun v V => v = .int .i64 c ∧ Below W.heap.size W V) x bo (.pointer (some ⟨d, 0, none⟩)) o.id.v o.under.v (.string o.key) _ w2 _ rfl rfl rfl (hS _ bd2) ?_ ?_ ?_ ?_ ?_ ?_
  · have hr := (hW.below bd2).ps.ref
    have hcall := ps_ref_no (c := gC (lookN p.NL) o.id o.under) (by rw [HE.out]; exact HC.out) (rgrow_all hr (Nat.le_trans HB1.out bd2.size) HNL.out HPL.out o.id ok.id o.under o.key ok.under)
    rw [h.d, HE.out, HCC.out] at hcall
    refine hcall.mono ?_
    rintro e w3 ⟨rfl, b3⟩
    exact ⟨_, rfl, hS _ (bd2.trans (b3.mono bd2.size)), rfl, bd2.trans (b3.mono bd2.size)⟩
  · exact fun V hV => load_dp (cell_p1 hV.1)
  · exact fun V hV => op_id ok (op_range hV.2)
  · exact fun V hV => op_under ok (op_range hV.2)
  · exact fun V hV => op_key ok (op_range hV.2)
  rintro v a' w3 ⟨rfl, b3⟩ ha
  subst ha
  simp only [Act.put, List.setIfInBounds_toArray, List.set_cons_zero, List.set_cons_succ]
  have b03 := bx.trans (b3.mono bx.size)
  obtain ⟨lv, qv, lv2, qv2, w4, w5, w6, w7, w8, w9, e1, e2, e3, e4, e5, e6, e7, fin⟩ := lists_no (h.below b03) (Nat.le_trans HB0.out b03.size) HM.out
  have E0 := hidMk (load_bs (cell_p2 (hS _ b3).1))
  have E1 := hidMk e1
  have E2 := hidMk e2
  have E3 := hidMk e3
  have E4 := hidMk e4
  have E5 := hidMk e5
  have E6 := hidMk e6
  have E7 := hidMk e7
  have FIN := hidMk fin
  have B03 := hidMk b03
  clear e1 e2 e3 e4 e5 e6 e7 fin b03 hS b3 b2 bd bd2
  generalize p.bv = bv at *
  generalize p.sv = sv at *
  go_wp2_with (first
    | (refine wpList_val rfl (exec_load (t := 29) (u := .pointer (some ⟨x, 2, none⟩)) rfl rfl E0.out) ?_)
    | (refine wpList_run rfl (exec_buildSlice (t := 29) (n := 1) (xv := .pointer none) (v := lv) rfl rfl E1.out) ?_)
    | (refine wpList_run rfl (exec_append (ts := #[29, 29]) (xv := bv) (yv := lv) (v := qv) rfl rfl rfl E2.out) ?_)
    | (refine wpList_skip rfl rfl (exec_store (t := 29) (xv := .pointer (some ⟨x, 2, none⟩)) (yv := qv) rfl rfl rfl E3.out) ?_)
    | (refine wpList_val rfl (exec_load (t := 30) (u := .pointer (some ⟨x, 3, none⟩)) rfl rfl E4.out) ?_)
    | (refine wpList_run rfl (exec_buildSlice (t := 30) (n := 1) (xv := .int .i64 0) (v := lv2) rfl rfl E5.out) ?_)
    | (refine wpList_run rfl (exec_append (ts := #[30, 30]) (xv := sv) (yv := lv2) (v := qv2) rfl rfl rfl E6.out) ?_)
    | (refine wpList_skip rfl rfl (exec_store (t := 30) (xv := .pointer (some ⟨x, 3, none⟩)) (yv := qv2) rfl rfl rfl E7.out) ?_)
    | fail)
  go_ret
  obtain ⟨_, g', p', f1, f2, f3⟩ := FIN.out
  exact ⟨rfl, g', p', fun j hj => f1 j (Nat.lt_of_lt_of_le hj B03.out.size), Tch.trans (tch_below B03.out) f2, f3⟩
set_option maxRecDepth 100000 in
set_option maxHeartbeats 4000000 in
theorem step_grow_ok {B x t d m : Nat} {p : Pl} {g : Nat → Nat} {w : World} (h : PX B x t d m p g w) (hB : B ≤ w.heap.size) (hm : m + 1 ≤ 1300000000000) (o : OpV) (ok : o.ok) (hk : o.kind = 0) (hc : gC p.f o.id o.under = 0) : Calls Try.prog 12 #[.pointer (some ⟨x, 0, none⟩), .agg o.c.toArray] w (SPost B x t d m g w) := by
  obtain rfl := h.d
  have HE := hidMk h.ln.eq
  have HNL := hidMk (show p.NL.length ≤ 1300000000000 by have := h.mn; omega)
  have HPL := hidMk (show p.PL.length ≤ 1300000000000 by have := h.mp; omega)
  have HB0 := hidMk hB
  have HM := hidMk hm
  have HC := hidMk hc
  clear hc hB hm
  go_enter Try.func12, Try.ntmps12
  go_upto_region 3 with fail
  obtain ⟨hbo, bx, zx⟩ := op_box w o
  generalize w.alloc (.cells o.c.toArray 39) = W at *
  have lbo : w.heap.size < W.heap.size := by omega
  have ck : W.cell? ⟨w.heap.size, 0, none⟩ = some (.int .i64 o.kind) := op_range hbo 0 _ rfl
  clear zx
  obtain ⟨bo, hbb⟩ : ∃ bo, w.heap.size = bo := ⟨_, rfl⟩
  have HBB := hidMk hbb
  rw [hbb] at hbo ck lbo ⊢
  clear hbb
  rw [hk] at ck
  have hW := h.below bx
  have HB1 := hidMk (show B ≤ W.heap.size from Nat.le_trans HB0.out bx.size)
  clear hk
  go_upto_region 6 with fail
  clear ck
  have bd : Below W.heap.size W W.drew := (Below.refl _ _).drew
  have hd1 := hW.below bd
  have hS0 : (fun V => V.heap[x]? = some (.cells #[.pointer (some ⟨t, 0, none⟩), .pointer (some ⟨p.d, 0, none⟩), p.bv, p.sv] 32 (0, 0)) ∧ V.heap[bo]? = some (.cells o.c.toArray 39 (0, 0))) W.drew := ⟨by rw [← h.x, ← h.t]; exact hd1.ps.cell, hbo⟩
  have gbo : g bo = 0 := by rw [← HBB.out]; exact h.ps.gz _ (Nat.le_refl _)
  have nbo : ¬ Mut g bo := by unfold Mut; rw [gbo]; decide
  have hpx := h.x
  refine step6 (fun V => V.heap[x]? = some (.cells #[.pointer (some ⟨t, 0, none⟩), .pointer (some ⟨p.d, 0, none⟩), p.bv, p.sv] 32 (0, 0)) ∧ V.heap[bo]? = some (.cells o.c.toArray 39 (0, 0))) (fun tv v V => ∃ g' s' r, tv = .pointer (some ⟨r.bk, 0, none⟩) ∧ v = .int .i64 0 ∧ s'.t = t ∧ r.k = o.id ∧ r.o = p.f o.id ∧ W.heap.size ≤ r.bk ∧ Ext W g g' ∧ Tch (Mut g) W V ∧ PS B g' V { p with s := s', H := r :: p.H, f := upd p.f o.id (some ⟨o.under, o.key, false⟩) }) x bo (.pointer (some ⟨t, 0, none⟩)) o.id.v o.under.v (.string o.key) _ W _ rfl rfl rfl hS0 ?_ ?_ ?_ ?_ ?_ ?_
  · have hcall := ps_tree_ok hd1 HB1.out HC.out (grow_all (hd1).ps.own HB1.out o.id o.under o.key ok.id ok.under)
    rw [h.t] at hcall
    refine hcall.mono ?_
    rintro e w2 ⟨g', s', r, rfl, q1, q2, q3, q4, q5, q6, q7⟩
    refine ⟨_, _, rfl, ⟨?_, (q6.block bo (show bo < W.drew.heap.size from lbo) nbo).trans hbo⟩, g', s', r, rfl, rfl, q1, q2, q3, q4, q5, q6.dr, q7⟩
    have := q7.cell
    simp only at this
    rwa [hpx, q1] at this
  · exact fun V hV => load_tp (cell_p0 hV.1)
  · exact fun V hV => op_id ok (op_range hV.2)
  · exact fun V hV => op_under ok (op_range hV.2)
  · exact fun V hV => op_key ok (op_range hV.2)
  rintro tv v a' w2 ⟨g2, s', r, rfl, rfl, q1, q2, q3, q4, q5, q6, q7⟩ ha
  subst ha
  simp only [Act.put, List.setIfInBounds_toArray, List.set_cons_zero, List.set_cons_succ]
  go_upto_region 7 with fail
  have hd2 : PS B g2 w2.drew { p with s := s', H := r :: p.H, f := upd p.f o.id (some ⟨o.under, o.key, false⟩) } := q7.below (Below.refl w2.heap.size w2).drew
  have hbo2 : w2.heap[bo]? = some (.cells o.c.toArray 39 (0, 0)) := (q6.block bo lbo nbo).trans hbo
  have lbo2 : bo < w2.heap.size := Nat.lt_of_lt_of_le lbo q6.size
  have nbo2 : ¬ Mut g2 bo := by unfold Mut; rw [q5 bo lbo, gbo]; decide
  have HB2 := hidMk (show B ≤ w2.heap.size from Nat.le_trans HB1.out q6.size)
  have cell2 : w2.drew.heap[x]? = some (.cells #[.pointer (some ⟨t, 0, none⟩), .pointer (some ⟨p.d, 0, none⟩), p.bv, p.sv] 32 (0, 0)) := by
    have := hd2.cell
    simp only at this
    rwa [hpx, q1] at this
  refine step7 (fun V => V.heap[x]? = some (.cells #[.pointer (some ⟨t, 0, none⟩), .pointer (some ⟨p.d, 0, none⟩), p.bv, p.sv] 32 (0, 0)) ∧ V.heap[bo]? = some (.cells o.c.toArray 39 (0, 0))) (fun v V => v = .int .i64 0 ∧ ∃ g' vn vp us, Ext w2 g2 g' ∧ Tch (Mut g2) w2 V ∧ PS B g' V { p with s := s', H := r :: p.H, f := upd p.f o.id (some ⟨o.under, o.key, false⟩), NL := M.put p.NL o.id ⟨o.under, o.key, false⟩, PL := p.PL ++ [p.NL], vn := vn, vp := vp, us := us }) x bo (.pointer (some ⟨p.d, 0, none⟩)) o.id.v o.under.v (.string o.key) _ w2 _ rfl rfl rfl ⟨cell2, hbo2⟩ ?_ ?_ ?_ ?_ ?_ ?_
  · have hr := hd2.ref
    have hcall := ps_ref_ok hd2 HB2.out (c := gC (lookN p.NL) o.id o.under) (by rw [HE.out]; exact HC.out) (rgrow_all hr (HB2.out) HNL.out HPL.out o.id ok.id o.under o.key ok.under)
    refine hcall.mono ?_
    rintro e w3 ⟨rfl, g3, vn, vp, us, f1, f2, f3⟩
    refine ⟨_, rfl, ⟨?_, (f2.block bo lbo2 nbo2).trans hbo2⟩, rfl, g3, vn, vp, us, f1, f2.dr, f3⟩
    have := f3.cell
    simp only at this
    rwa [hpx, q1] at this
  · exact fun V hV => load_dp (cell_p1 hV.1)
  · exact fun V hV => op_id ok (op_range hV.2)
  · exact fun V hV => op_under ok (op_range hV.2)
  · exact fun V hV => op_key ok (op_range hV.2)
  rintro v a' w3 ⟨rfl, g3, vn, vp, us, f1, f2, f3⟩ ha
  subst ha
  simp only [Act.put, List.setIfInBounds_toArray, List.set_cons_zero, List.set_cons_succ]
  have cell3 : w3.heap[x]? = some (.cells #[.pointer (some ⟨t, 0, none⟩), .pointer (some ⟨p.d, 0, none⟩), p.bv, p.sv] 32 (0, 0)) := by
    have := f3.cell
    simp only at this
    rwa [hpx, q1] at this
  have HS := hidMk (rsteps_any f3.ref)
  simp only [List.length_append, List.length_cons, List.length_nil, Nat.zero_add] at HS
  obtain ⟨N1, hN1⟩ : ∃ N1 : Int, ((p.PL.length + 1 : Nat) : Int) = N1 := ⟨_, rfl⟩
  rw [hN1] at HS
  have HN1 := hidMk hN1
  clear hN1
  have HFIN := hidMk (fun (W4 : World) (b4 : Below w3.heap.size w3 W4) => lists_ok hW (Nat.le_trans HB2.out (Nat.le_trans f2.size b4.size)) HM.out q1 q2 q3 q4 (q5.trans f1 q6.size) (Tch.trans (mut_ext q5 q6 f2) (tch_below b4)) (f3.below b4))
  have HC3 := hidMk (fun (V : World) (b : Below w3.heap.size w3 V) => (b.block x (Array.getElem?_eq_some_iff.1 cell3).1).trans cell3)
  have HL1 := hidMk (load_dp (cell_p1 cell3))
  have HBX := hidMk bx
  clear cell3 cell2 f1 f2 f3 hd2 hbo2 lbo2 nbo2 nbo gbo q2 q3 q4 q5 q6 q7 hd1 hS0 bd hbo lbo hpx bx
  go_upto_region 19 with (first
    | (refine wpList_val rfl (exec_load (t := 27) (u := .pointer (some ⟨x, 1, none⟩)) rfl rfl HL1.out) ?_)
    | (go_at_call 33; refine HS.out.mono ?_; rintro e w4 ⟨rfl, b4⟩; clear HS)
    | fail)
  obtain ⟨lv, qv, lv2, qv2, w5, w6, w7, w8, w9, w10, e1, e2, e3, e4, e5, e6, e7, fin⟩ := HFIN.out w4 b4
  rw [HN1.out] at e5
  have E0 := hidMk (load_bs (cell_p2 (HC3.out _ b4)))
  have E1 := hidMk e1
  have E2 := hidMk e2
  have E3 := hidMk e3
  have E4 := hidMk e4
  have E5 := hidMk e5
  have E6 := hidMk e6
  have E7 := hidMk e7
  have FIN := hidMk fin
  clear e1 e2 e3 e4 e5 e6 e7 fin HFIN HL1 b4
  generalize p.bv = bv at *
  generalize p.sv = sv at *
  go_wp2_with (first
    | (refine wpList_val rfl (exec_load (t := 29) (u := .pointer (some ⟨x, 2, none⟩)) rfl rfl E0.out) ?_)
    | (refine wpList_run rfl (exec_buildSlice (t := 29) (n := 1) (xv := .pointer (some ⟨r.bk, 0, none⟩)) (v := lv) rfl rfl E1.out) ?_)
    | (refine wpList_run rfl (exec_append (ts := #[29, 29]) (xv := bv) (yv := lv) (v := qv) rfl rfl rfl E2.out) ?_)
    | (refine wpList_skip rfl rfl (exec_store (t := 29) (xv := .pointer (some ⟨x, 2, none⟩)) (yv := qv) rfl rfl rfl E3.out) ?_)
    | (refine wpList_val rfl (exec_load (t := 30) (u := .pointer (some ⟨x, 3, none⟩)) rfl rfl E4.out) ?_)
    | (refine wpList_run rfl (exec_buildSlice (t := 30) (n := 1) (xv := .int .i64 N1) (v := lv2) rfl rfl E5.out) ?_)
    | (refine wpList_run rfl (exec_append (ts := #[30, 30]) (xv := sv) (yv := lv2) (v := qv2) rfl rfl rfl E6.out) ?_)
    | (refine wpList_skip rfl rfl (exec_store (t := 30) (xv := .pointer (some ⟨x, 3, none⟩)) (yv := qv2) rfl rfl rfl E7.out) ?_)
    | fail)
  go_ret
  obtain ⟨_, g', p', r1, r2, r3⟩ := FIN.out
  exact ⟨rfl, g', p', fun j hj => r1 j (Nat.lt_of_lt_of_le hj HBX.out.size), Tch.trans (tch_below HBX.out) r2, r3⟩
set_option maxRecDepth 100000 in
set_option maxHeartbeats 4000000 in
theorem step_move_no {B x t d m : Nat} {p : Pl} {g : Nat → Nat} {w : World} (h : PX B x t d m p g w) (hB : B ≤ w.heap.size) (hm : m + 1 ≤ 1300000000000) (o : OpV) (ok : o.ok) (hk : o.kind = 1) (hc : mC p.f o.id o.under ≠ 0) : Calls Try.prog 12 #[.pointer (some ⟨x, 0, none⟩), .agg o.c.toArray] w (SPost B x t d m g w) := by
  have HE := hidMk h.ln.eq
  have HNL := hidMk (show p.NL.length ≤ 1300000000000 by have := h.mn; omega)
  have HPL := hidMk (show p.PL.length ≤ 1300000000000 by have := h.mp; omega)
  have HB0 := hidMk hB
  have HM := hidMk hm
  have HC := hidMk hc
  obtain ⟨c, hcc⟩ : ∃ c, mC p.f o.id o.under = c := ⟨_, rfl⟩
  have HCC := hidMk hcc
  have hc0 : ¬ c = 0 := by rw [← hcc]; exact hc
  clear hcc hc hB hm
  go_enter Try.func12, Try.ntmps12
  go_upto_region 3 with fail
  obtain ⟨hbo, bx, zx⟩ := op_box w o
  generalize w.alloc (.cells o.c.toArray 39) = W at *
  have lbo : w.heap.size < W.heap.size := by omega
  have ck : W.cell? ⟨w.heap.size, 0, none⟩ = some (.int .i64 o.kind) := op_range hbo 0 _ rfl
  clear zx
  obtain ⟨bo, hbb⟩ : ∃ bo, w.heap.size = bo := ⟨_, rfl⟩
  have HBB := hidMk hbb
  rw [hbb] at hbo ck lbo ⊢
  clear hbb
  rw [hk] at ck
  have hW := h.below bx
  have HB1 := hidMk (show B ≤ W.heap.size from Nat.le_trans HB0.out bx.size)
  clear hk
  go_upto_region 9 with fail
  clear ck
  have bd : Below W.heap.size W W.drew := (Below.refl _ _).drew
  have hS : ∀ V, Below W.heap.size W V → (fun V => V.heap[x]? = some (.cells #[.pointer (some ⟨t, 0, none⟩), .pointer (some ⟨d, 0, none⟩), p.bv, p.sv] 32 (0, 0)) ∧ V.heap[bo]? = some (.cells o.c.toArray 39 (0, 0))) V := fun V b => ⟨by rw [← h.x, ← h.t, ← h.d]; exact (hW.below b).ps.cell, (b.block _ lbo).trans hbo⟩
  refine step9 (fun V => V.heap[x]? = some (.cells #[.pointer (some ⟨t, 0, none⟩), .pointer (some ⟨d, 0, none⟩), p.bv, p.sv] 32 (0, 0)) ∧ V.heap[bo]? = some (.cells o.c.toArray 39 (0, 0))) (fun tv v V => tv = .pointer none ∧ v = .int .i64 c ∧ Below W.heap.size W V) x bo (.pointer (some ⟨t, 0, none⟩)) o.id.v o.under.v (.string o.key) _ W _ rfl rfl rfl (hS _ bd) ?_ ?_ ?_ ?_ ?_ ?_
  · have hcall := ps_tree_no (hW.below bd) HC.out (move_all (hW.below bd).ps.own HB1.out o.id o.under o.key ok.id ok.under)
    rw [h.t, HCC.out] at hcall
    refine hcall.mono ?_
    rintro e w2 ⟨rfl, b2⟩
    exact ⟨_, _, rfl, hS _ (bd.trans (b2.mono bd.size)), rfl, rfl, bd.trans (b2.mono bd.size)⟩
  · exact fun V hV => load_tp (cell_p0 hV.1)
  · exact fun V hV => op_id ok (op_range hV.2)
  · exact fun V hV => op_under ok (op_range hV.2)
  · exact fun V hV => op_key ok (op_range hV.2)
  rintro tv v a' w2 ⟨rfl, rfl, b2⟩ ha
  subst ha
  simp only [Act.put, List.setIfInBounds_toArray, List.set_cons_zero, List.set_cons_succ]
  go_upto_region 10 with fail
  have bd2 : Below W.heap.size W w2.drew := b2.drew
  refine step10 (fun V => V.heap[x]? = some (.cells #[.pointer (some ⟨t, 0, none⟩), .pointer (some ⟨d, 0, none⟩), p.bv, p.sv] 32 (0, 0)) ∧ V.heap[bo]? = some (.cells o.c.toArray 39 (0, 0))) (fun v V => v = .int .i64 c ∧ Below W.heap.size W V) x bo (.pointer (some ⟨d, 0, none⟩)) o.id.v o.under.v (.string o.key) _ w2 _ rfl rfl rfl (hS _ bd2) ?_ ?_ ?_ ?_ ?_ ?_
  · have hr := (hW.below bd2).ps.ref
    have hcall := ps_ref_no (c := mC (lookN p.NL) o.id o.under) (by rw [HE.out]; exact HC.out) (rmove_all hr (Nat.le_trans HB1.out bd2.size) HNL.out HPL.out o.id ok.id o.under o.key ok.under (by rw [HE.out]; exact h.ps.own.ft))
    rw [h.d, HE.out, HCC.out] at hcall
    refine hcall.mono ?_
    rintro e w3 ⟨rfl, b3⟩
    exact ⟨_, rfl, hS _ (bd2.trans (b3.mono bd2.size)), rfl, bd2.trans (b3.mono bd2.size)⟩
  · exact fun V hV => load_dp (cell_p1 hV.1)
  · exact fun V hV => op_id ok (op_range hV.2)
  · exact fun V hV => op_under ok (op_range hV.2)
  · exact fun V hV => op_key ok (op_range hV.2)
  rintro v a' w3 ⟨rfl, b3⟩ ha
  subst ha
  simp only [Act.put, List.setIfInBounds_toArray, List.set_cons_zero, List.set_cons_succ]
  have b03 := bx.trans (b3.mono bx.size)
  obtain ⟨lv, qv, lv2, qv2, w4, w5, w6, w7, w8, w9, e1, e2, e3, e4, e5, e6, e7, fin⟩ := lists_no (h.below b03) (Nat.le_trans HB0.out b03.size) HM.out
  have E0 := hidMk (load_bs (cell_p2 (hS _ b3).1))
  have E1 := hidMk e1
  have E2 := hidMk e2
  have E3 := hidMk e3
  have E4 := hidMk e4
  have E5 := hidMk e5
  have E6 := hidMk e6
  have E7 := hidMk e7
  have FIN := hidMk fin
  have B03 := hidMk b03
  clear e1 e2 e3 e4 e5 e6 e7 fin b03 hS b3 b2 bd bd2
  generalize p.bv = bv at *
  generalize p.sv = sv at *
  go_wp2_with (first
    | (refine wpList_val rfl (exec_load (t := 29) (u := .pointer (some ⟨x, 2, none⟩)) rfl rfl E0.out) ?_)
    | (refine wpList_run rfl (exec_buildSlice (t := 29) (n := 1) (xv := .pointer none) (v := lv) rfl rfl E1.out) ?_)
    | (refine wpList_run rfl (exec_append (ts := #[29, 29]) (xv := bv) (yv := lv) (v := qv) rfl rfl rfl E2.out) ?_)
    | (refine wpList_skip rfl rfl (exec_store (t := 29) (xv := .pointer (some ⟨x, 2, none⟩)) (yv := qv) rfl rfl rfl E3.out) ?_)
    | (refine wpList_val rfl (exec_load (t := 30) (u := .pointer (some ⟨x, 3, none⟩)) rfl rfl E4.out) ?_)
    | (refine wpList_run rfl (exec_buildSlice (t := 30) (n := 1) (xv := .int .i64 0) (v := lv2) rfl rfl E5.out) ?_)
    | (refine wpList_run rfl (exec_append (ts := #[30, 30]) (xv := sv) (yv := lv2) (v := qv2) rfl rfl rfl E6.out) ?_)
    | (refine wpList_skip rfl rfl (exec_store (t := 30) (xv := .pointer (some ⟨x, 3, none⟩)) (yv := qv2) rfl rfl rfl E7.out) ?_)
    | fail)
  go_ret
  obtain ⟨_, g', p', f1, f2, f3⟩ := FIN.out
  exact ⟨rfl, g', p', fun j hj => f1 j (Nat.lt_of_lt_of_le hj B03.out.size), Tch.trans (tch_below B03.out) f2, f3⟩
set_option maxRecDepth 100000 in
set_option maxHeartbeats 4000000 in
theorem step_move_ok {B x t d m : Nat} {p : Pl} {g : Nat → Nat} {w : World} (h : PX B x t d m p g w) (hB : B ≤ w.heap.size) (hm : m + 1 ≤ 1300000000000) (o : OpV) (ok : o.ok) (hk : o.kind = 1) (hc : mC p.f o.id o.under = 0) : Calls Try.prog 12 #[.pointer (some ⟨x, 0, none⟩), .agg o.c.toArray] w (SPost B x t d m g w) := by
  obtain rfl := h.d
  have HE := hidMk h.ln.eq
  have HNL := hidMk (show p.NL.length ≤ 1300000000000 by have := h.mn; omega)
  have HPL := hidMk (show p.PL.length ≤ 1300000000000 by have := h.mp; omega)
  have HB0 := hidMk hB
  have HM := hidMk hm
  have HC := hidMk hc
  clear hc hB hm
  go_enter Try.func12, Try.ntmps12
  go_upto_region 3 with fail
  obtain ⟨hbo, bx, zx⟩ := op_box w o
  generalize w.alloc (.cells o.c.toArray 39) = W at *
  have lbo : w.heap.size < W.heap.size := by omega
  have ck : W.cell? ⟨w.heap.size, 0, none⟩ = some (.int .i64 o.kind) := op_range hbo 0 _ rfl
  clear zx
  obtain ⟨bo, hbb⟩ : ∃ bo, w.heap.size = bo := ⟨_, rfl⟩
  have HBB := hidMk hbb
  rw [hbb] at hbo ck lbo ⊢
  clear hbb
  rw [hk] at ck
  have hW := h.below bx
  have HB1 := hidMk (show B ≤ W.heap.size from Nat.le_trans HB0.out bx.size)
  clear hk
  go_upto_region 9 with fail
  clear ck
  have bd : Below W.heap.size W W.drew := (Below.refl _ _).drew
  have hd1 := hW.below bd
  have hS0 : (fun V => V.heap[x]? = some (.cells #[.pointer (some ⟨t, 0, none⟩), .pointer (some ⟨p.d, 0, none⟩), p.bv, p.sv] 32 (0, 0)) ∧ V.heap[bo]? = some (.cells o.c.toArray 39 (0, 0))) W.drew := ⟨by rw [← h.x, ← h.t]; exact hd1.ps.cell, hbo⟩
  have gbo : g bo = 0 := by rw [← HBB.out]; exact h.ps.gz _ (Nat.le_refl _)
  have nbo : ¬ Mut g bo := by unfold Mut; rw [gbo]; decide
  have hpx := h.x
  refine step9 (fun V => V.heap[x]? = some (.cells #[.pointer (some ⟨t, 0, none⟩), .pointer (some ⟨p.d, 0, none⟩), p.bv, p.sv] 32 (0, 0)) ∧ V.heap[bo]? = some (.cells o.c.toArray 39 (0, 0))) (fun tv v V => ∃ g' s' r, tv = .pointer (some ⟨r.bk, 0, none⟩) ∧ v = .int .i64 0 ∧ s'.t = t ∧ r.k = o.id ∧ r.o = p.f o.id ∧ W.heap.size ≤ r.bk ∧ Ext W g g' ∧ Tch (Mut g) W V ∧ PS B g' V { p with s := s', H := r :: p.H, f := upd p.f o.id (some ⟨o.under, o.key, false⟩) }) x bo (.pointer (some ⟨t, 0, none⟩)) o.id.v o.under.v (.string o.key) _ W _ rfl rfl rfl hS0 ?_ ?_ ?_ ?_ ?_ ?_
  · have hcall := ps_tree_ok hd1 HB1.out HC.out (move_all (hd1).ps.own HB1.out o.id o.under o.key ok.id ok.under)
    rw [h.t] at hcall
    refine hcall.mono ?_
    rintro e w2 ⟨g', s', r, rfl, q1, q2, q3, q4, q5, q6, q7⟩
    refine ⟨_, _, rfl, ⟨?_, (q6.block bo (show bo < W.drew.heap.size from lbo) nbo).trans hbo⟩, g', s', r, rfl, rfl, q1, q2, q3, q4, q5, q6.dr, q7⟩
    have := q7.cell
    simp only at this
    rwa [hpx, q1] at this
  · exact fun V hV => load_tp (cell_p0 hV.1)
  · exact fun V hV => op_id ok (op_range hV.2)
  · exact fun V hV => op_under ok (op_range hV.2)
  · exact fun V hV => op_key ok (op_range hV.2)
  rintro tv v a' w2 ⟨g2, s', r, rfl, rfl, q1, q2, q3, q4, q5, q6, q7⟩ ha
  subst ha
  simp only [Act.put, List.setIfInBounds_toArray, List.set_cons_zero, List.set_cons_succ]
  go_upto_region 10 with fail
  have hd2 : PS B g2 w2.drew { p with s := s', H := r :: p.H, f := upd p.f o.id (some ⟨o.under, o.key, false⟩) } := q7.below (Below.refl w2.heap.size w2).drew
  have hbo2 : w2.heap[bo]? = some (.cells o.c.toArray 39 (0, 0)) := (q6.block bo lbo nbo).trans hbo
  have lbo2 : bo < w2.heap.size := Nat.lt_of_lt_of_le lbo q6.size
  have nbo2 : ¬ Mut g2 bo := by unfold Mut; rw [q5 bo lbo, gbo]; decide
  have HB2 := hidMk (show B ≤ w2.heap.size from Nat.le_trans HB1.out q6.size)
  have cell2 : w2.drew.heap[x]? = some (.cells #[.pointer (some ⟨t, 0, none⟩), .pointer (some ⟨p.d, 0, none⟩), p.bv, p.sv] 32 (0, 0)) := by
    have := hd2.cell
    simp only at this
    rwa [hpx, q1] at this
  refine step10 (fun V => V.heap[x]? = some (.cells #[.pointer (some ⟨t, 0, none⟩), .pointer (some ⟨p.d, 0, none⟩), p.bv, p.sv] 32 (0, 0)) ∧ V.heap[bo]? = some (.cells o.c.toArray 39 (0, 0))) (fun v V => v = .int .i64 0 ∧ ∃ g' vn vp us, Ext w2 g2 g' ∧ Tch (Mut g2) w2 V ∧ PS B g' V { p with s := s', H := r :: p.H, f := upd p.f o.id (some ⟨o.under, o.key, false⟩), NL := M.put p.NL o.id ⟨o.under, o.key, false⟩, PL := p.PL ++ [p.NL], vn := vn, vp := vp, us := us }) x bo (.pointer (some ⟨p.d, 0, none⟩)) o.id.v o.under.v (.string o.key) _ w2 _ rfl rfl rfl ⟨cell2, hbo2⟩ ?_ ?_ ?_ ?_ ?_ ?_
  · have hr := hd2.ref
    have hcall := ps_ref_ok hd2 HB2.out (c := mC (lookN p.NL) o.id o.under) (by rw [HE.out]; exact HC.out) (rmove_all hr (HB2.out) HNL.out HPL.out o.id ok.id o.under o.key ok.under (by show Forest (lookN p.NL); rw [HE.out]; exact h.ps.own.ft))
    refine hcall.mono ?_
    rintro e w3 ⟨rfl, g3, vn, vp, us, f1, f2, f3⟩
    refine ⟨_, rfl, ⟨?_, (f2.block bo lbo2 nbo2).trans hbo2⟩, rfl, g3, vn, vp, us, f1, f2.dr, f3⟩
    have := f3.cell
    simp only at this
    rwa [hpx, q1] at this
  · exact fun V hV => load_dp (cell_p1 hV.1)
  · exact fun V hV => op_id ok (op_range hV.2)
  · exact fun V hV => op_under ok (op_range hV.2)
  · exact fun V hV => op_key ok (op_range hV.2)
  rintro v a' w3 ⟨rfl, g3, vn, vp, us, f1, f2, f3⟩ ha
  subst ha
  simp only [Act.put, List.setIfInBounds_toArray, List.set_cons_zero, List.set_cons_succ]
  have cell3 : w3.heap[x]? = some (.cells #[.pointer (some ⟨t, 0, none⟩), .pointer (some ⟨p.d, 0, none⟩), p.bv, p.sv] 32 (0, 0)) := by
    have := f3.cell
    simp only at this
    rwa [hpx, q1] at this
  have HS := hidMk (rsteps_any f3.ref)
  simp only [List.length_append, List.length_cons, List.length_nil, Nat.zero_add] at HS
  obtain ⟨N1, hN1⟩ : ∃ N1 : Int, ((p.PL.length + 1 : Nat) : Int) = N1 := ⟨_, rfl⟩
  rw [hN1] at HS
  have HN1 := hidMk hN1
  clear hN1
  have HFIN := hidMk (fun (W4 : World) (b4 : Below w3.heap.size w3 W4) => lists_ok hW (Nat.le_trans HB2.out (Nat.le_trans f2.size b4.size)) HM.out q1 q2 q3 q4 (q5.trans f1 q6.size) (Tch.trans (mut_ext q5 q6 f2) (tch_below b4)) (f3.below b4))
  have HC3 := hidMk (fun (V : World) (b : Below w3.heap.size w3 V) => (b.block x (Array.getElem?_eq_some_iff.1 cell3).1).trans cell3)
  have HL1 := hidMk (load_dp (cell_p1 cell3))
  have HBX := hidMk bx
  clear cell3 cell2 f1 f2 f3 hd2 hbo2 lbo2 nbo2 nbo gbo q2 q3 q4 q5 q6 q7 hd1 hS0 bd hbo lbo hpx bx
  go_upto_region 19 with (first
    | (refine wpList_val rfl (exec_load (t := 27) (u := .pointer (some ⟨x, 1, none⟩)) rfl rfl HL1.out) ?_)
    | (go_at_call 33; refine HS.out.mono ?_; rintro e w4 ⟨rfl, b4⟩; clear HS)
    | fail)
  obtain ⟨lv, qv, lv2, qv2, w5, w6, w7, w8, w9, w10, e1, e2, e3, e4, e5, e6, e7, fin⟩ := HFIN.out w4 b4
  rw [HN1.out] at e5
  have E0 := hidMk (load_bs (cell_p2 (HC3.out _ b4)))
  have E1 := hidMk e1
  have E2 := hidMk e2
  have E3 := hidMk e3
  have E4 := hidMk e4
  have E5 := hidMk e5
  have E6 := hidMk e6
  have E7 := hidMk e7
  have FIN := hidMk fin
  clear e1 e2 e3 e4 e5 e6 e7 fin HFIN HL1 b4
  generalize p.bv = bv at *
  generalize p.sv = sv at *
  go_wp2_with (first
    | (refine wpList_val rfl (exec_load (t := 29) (u := .pointer (some ⟨x, 2, none⟩)) rfl rfl E0.out) ?_)
    | (refine wpList_run rfl (exec_buildSlice (t := 29) (n := 1) (xv := .pointer (some ⟨r.bk, 0, none⟩)) (v := lv) rfl rfl E1.out) ?_)
    | (refine wpList_run rfl (exec_append (ts := #[29, 29]) (xv := bv) (yv := lv) (v := qv) rfl rfl rfl E2.out) ?_)
    | (refine wpList_skip rfl rfl (exec_store (t := 29) (xv := .pointer (some ⟨x, 2, none⟩)) (yv := qv) rfl rfl rfl E3.out) ?_)
    | (refine wpList_val rfl (exec_load (t := 30) (u := .pointer (some ⟨x, 3, none⟩)) rfl rfl E4.out) ?_)
    | (refine wpList_run rfl (exec_buildSlice (t := 30) (n := 1) (xv := .int .i64 N1) (v := lv2) rfl rfl E5.out) ?_)
    | (refine wpList_run rfl (exec_append (ts := #[30, 30]) (xv := sv) (yv := lv2) (v := qv2) rfl rfl rfl E6.out) ?_)
    | (refine wpList_skip rfl rfl (exec_store (t := 30) (xv := .pointer (some ⟨x, 3, none⟩)) (yv := qv2) rfl rfl rfl E7.out) ?_)
    | fail)
  go_ret
  obtain ⟨_, g', p', r1, r2, r3⟩ := FIN.out
  exact ⟨rfl, g', p', fun j hj => r1 j (Nat.lt_of_lt_of_le hj HBX.out.size), Tch.trans (tch_below HBX.out) r2, r3⟩
set_option maxRecDepth 100000 in
set_option maxHeartbeats 4000000 in
theorem step_prune_no {B x t d m : Nat} {p : Pl} {g : Nat → Nat} {w : World} (h : PX B x t d m p g w) (hB : B ≤ w.heap.size) (hm : m + 1 ≤ 1300000000000) (o : OpV) (ok : o.ok) (hk : o.kind = 2) (hc : pC p.f o.id ≠ 0) : Calls Try.prog 12 #[.pointer (some ⟨x, 0, none⟩), .agg o.c.toArray] w (SPost B x t d m g w) := by
  have HE := hidMk h.ln.eq
  have HNL := hidMk (show p.NL.length ≤ 1300000000000 by have := h.mn; omega)
  have HPL := hidMk (show p.PL.length ≤ 1300000000000 by have := h.mp; omega)
  have HB0 := hidMk hB
  have HM := hidMk hm
  have HC := hidMk hc
  obtain ⟨c, hcc⟩ : ∃ c, pC p.f o.id = c := ⟨_, rfl⟩
  have HCC := hidMk hcc
  have hc0 : ¬ c = 0 := by rw [← hcc]; exact hc
  clear hcc hc hB hm
  go_enter Try.func12, Try.ntmps12
  go_upto_region 3 with fail
  obtain ⟨hbo, bx, zx⟩ := op_box w o
  generalize w.alloc (.cells o.c.toArray 39) = W at *
  have lbo : w.heap.size < W.heap.size := by omega
  have ck : W.cell? ⟨w.heap.size, 0, none⟩ = some (.int .i64 o.kind) := op_range hbo 0 _ rfl
  clear zx
  obtain ⟨bo, hbb⟩ : ∃ bo, w.heap.size = bo := ⟨_, rfl⟩
  have HBB := hidMk hbb
  rw [hbb] at hbo ck lbo ⊢
  clear hbb
  rw [hk] at ck
  have hW := h.below bx
  have HB1 := hidMk (show B ≤ W.heap.size from Nat.le_trans HB0.out bx.size)
  clear hk
  go_upto_region 12 with fail
  clear ck
  have bd : Below W.heap.size W W.drew := (Below.refl _ _).drew
  have hS : ∀ V, Below W.heap.size W V → (fun V => V.heap[x]? = some (.cells #[.pointer (some ⟨t, 0, none⟩), .pointer (some ⟨d, 0, none⟩), p.bv, p.sv] 32 (0, 0)) ∧ V.heap[bo]? = some (.cells o.c.toArray 39 (0, 0))) V := fun V b => ⟨by rw [← h.x, ← h.t, ← h.d]; exact (hW.below b).ps.cell, (b.block _ lbo).trans hbo⟩
  refine step12 (fun V => V.heap[x]? = some (.cells #[.pointer (some ⟨t, 0, none⟩), .pointer (some ⟨d, 0, none⟩), p.bv, p.sv] 32 (0, 0)) ∧ V.heap[bo]? = some (.cells o.c.toArray 39 (0, 0))) (fun tv v V => tv = .pointer none ∧ v = .int .i64 c ∧ Below W.heap.size W V) x bo (.pointer (some ⟨t, 0, none⟩)) o.id.v _ W _ rfl rfl rfl (hS _ bd) ?_ ?_ ?_ ?_
  · have hcall := ps_tree_no (hW.below bd) HC.out (prune_all (hW.below bd).ps.own HB1.out o.id ok.id)
    rw [h.t, HCC.out] at hcall
    refine hcall.mono ?_
    rintro e w2 ⟨rfl, b2⟩
    exact ⟨_, _, rfl, hS _ (bd.trans (b2.mono bd.size)), rfl, rfl, bd.trans (b2.mono bd.size)⟩
  · exact fun V hV => load_tp (cell_p0 hV.1)
  · exact fun V hV => op_id ok (op_range hV.2)
  rintro tv v a' w2 ⟨rfl, rfl, b2⟩ ha
  subst ha
  simp only [Act.put, List.setIfInBounds_toArray, List.set_cons_zero, List.set_cons_succ]
  go_upto_region 13 with fail
  have bd2 : Below W.heap.size W w2.drew := b2.drew
  refine step13 (fun V => V.heap[x]? = some (.cells #[.pointer (some ⟨t, 0, none⟩), .pointer (some ⟨d, 0, none⟩), p.bv, p.sv] 32 (0, 0)) ∧ V.heap[bo]? = some (.cells o.c.toArray 39 (0, 0))) (fun v V => v = .int .i64 c ∧ Below W.heap.size W V) x bo (.pointer (some ⟨d, 0, none⟩)) o.id.v _ w2 _ rfl rfl rfl (hS _ bd2) ?_ ?_ ?_ ?_
  · have hr := (hW.below bd2).ps.ref
    have hcall := ps_ref_no (c := pC (lookN p.NL) o.id) (by rw [HE.out]; exact HC.out) (rprune_all hr (Nat.le_trans HB1.out bd2.size) HNL.out HPL.out o.id ok.id)
    rw [h.d, HE.out, HCC.out] at hcall
    refine hcall.mono ?_
    rintro e w3 ⟨rfl, b3⟩
    exact ⟨_, rfl, hS _ (bd2.trans (b3.mono bd2.size)), rfl, bd2.trans (b3.mono bd2.size)⟩
  · exact fun V hV => load_dp (cell_p1 hV.1)
  · exact fun V hV => op_id ok (op_range hV.2)
  rintro v a' w3 ⟨rfl, b3⟩ ha
  subst ha
  simp only [Act.put, List.setIfInBounds_toArray, List.set_cons_zero, List.set_cons_succ]
  have b03 := bx.trans (b3.mono bx.size)
  obtain ⟨lv, qv, lv2, qv2, w4, w5, w6, w7, w8, w9, e1, e2, e3, e4, e5, e6, e7, fin⟩ := lists_no (h.below b03) (Nat.le_trans HB0.out b03.size) HM.out
  have E0 := hidMk (load_bs (cell_p2 (hS _ b3).1))
  have E1 := hidMk e1
  have E2 := hidMk e2
  have E3 := hidMk e3
  have E4 := hidMk e4
  have E5 := hidMk e5
  have E6 := hidMk e6
  have E7 := hidMk e7
  have FIN := hidMk fin
  have B03 := hidMk b03
  clear e1 e2 e3 e4 e5 e6 e7 fin b03 hS b3 b2 bd bd2
  generalize p.bv = bv at *
  generalize p.sv = sv at *
  go_wp2_with (first
    | (refine wpList_val rfl (exec_load (t := 29) (u := .pointer (some ⟨x, 2, none⟩)) rfl rfl E0.out) ?_)
    | (refine wpList_run rfl (exec_buildSlice (t := 29) (n := 1) (xv := .pointer none) (v := lv) rfl rfl E1.out) ?_)
    | (refine wpList_run rfl (exec_append (ts := #[29, 29]) (xv := bv) (yv := lv) (v := qv) rfl rfl rfl E2.out) ?_)
    | (refine wpList_skip rfl rfl (exec_store (t := 29) (xv := .pointer (some ⟨x, 2, none⟩)) (yv := qv) rfl rfl rfl E3.out) ?_)
    | (refine wpList_val rfl (exec_load (t := 30) (u := .pointer (some ⟨x, 3, none⟩)) rfl rfl E4.out) ?_)
    | (refine wpList_run rfl (exec_buildSlice (t := 30) (n := 1) (xv := .int .i64 0) (v := lv2) rfl rfl E5.out) ?_)
    | (refine wpList_run rfl (exec_append (ts := #[30, 30]) (xv := sv) (yv := lv2) (v := qv2) rfl rfl rfl E6.out) ?_)
    | (refine wpList_skip rfl rfl (exec_store (t := 30) (xv := .pointer (some ⟨x, 3, none⟩)) (yv := qv2) rfl rfl rfl E7.out) ?_)
    | fail)
  go_ret
  obtain ⟨_, g', p', f1, f2, f3⟩ := FIN.out
  exact ⟨rfl, g', p', fun j hj => f1 j (Nat.lt_of_lt_of_le hj B03.out.size), Tch.trans (tch_below B03.out) f2, f3⟩
set_option maxRecDepth 100000 in
set_option maxHeartbeats 4000000 in
theorem step_prune_ok {B x t d m : Nat} {p : Pl} {g : Nat → Nat} {w : World} (h : PX B x t d m p g w) (hB : B ≤ w.heap.size) (hm : m + 1 ≤ 1300000000000) (o : OpV) (ok : o.ok) (hk : o.kind = 2) (hc : pC p.f o.id = 0) : Calls Try.prog 12 #[.pointer (some ⟨x, 0, none⟩), .agg o.c.toArray] w (SPost B x t d m g w) := by
  obtain rfl := h.d
  have HE := hidMk h.ln.eq
  have HNL := hidMk (show p.NL.length ≤ 1300000000000 by have := h.mn; omega)
  have HPL := hidMk (show p.PL.length ≤ 1300000000000 by have := h.mp; omega)
  have HB0 := hidMk hB
  have HM := hidMk hm
  have HC := hidMk hc
  clear hc hB hm
  go_enter Try.func12, Try.ntmps12
  go_upto_region 3 with fail
  obtain ⟨hbo, bx, zx⟩ := op_box w o
  generalize w.alloc (.cells o.c.toArray 39) = W at *
  have lbo : w.heap.size < W.heap.size := by omega
  have ck : W.cell? ⟨w.heap.size, 0, none⟩ = some (.int .i64 o.kind) := op_range hbo 0 _ rfl
  clear zx
  obtain ⟨bo, hbb⟩ : ∃ bo, w.heap.size = bo := ⟨_, rfl⟩
  have HBB := hidMk hbb
  rw [hbb] at hbo ck lbo ⊢
  clear hbb
  rw [hk] at ck
  have hW := h.below bx
  have HB1 := hidMk (show B ≤ W.heap.size from Nat.le_trans HB0.out bx.size)
  clear hk
  go_upto_region 12 with fail
  clear ck
  have bd : Below W.heap.size W W.drew := (Below.refl _ _).drew
  have hd1 := hW.below bd
  have hS0 : (fun V => V.heap[x]? = some (.cells #[.pointer (some ⟨t, 0, none⟩), .pointer (some ⟨p.d, 0, none⟩), p.bv, p.sv] 32 (0, 0)) ∧ V.heap[bo]? = some (.cells o.c.toArray 39 (0, 0))) W.drew := ⟨by rw [← h.x, ← h.t]; exact hd1.ps.cell, hbo⟩
  have gbo : g bo = 0 := by rw [← HBB.out]; exact h.ps.gz _ (Nat.le_refl _)
  have nbo : ¬ Mut g bo := by unfold Mut; rw [gbo]; decide
  have hpx := h.x
  refine step12 (fun V => V.heap[x]? = some (.cells #[.pointer (some ⟨t, 0, none⟩), .pointer (some ⟨p.d, 0, none⟩), p.bv, p.sv] 32 (0, 0)) ∧ V.heap[bo]? = some (.cells o.c.toArray 39 (0, 0))) (fun tv v V => ∃ g' s' r, tv = .pointer (some ⟨r.bk, 0, none⟩) ∧ v = .int .i64 0 ∧ s'.t = t ∧ r.k = o.id ∧ r.o = p.f o.id ∧ W.heap.size ≤ r.bk ∧ Ext W g g' ∧ Tch (Mut g) W V ∧ PS B g' V { p with s := s', H := r :: p.H, f := upd p.f o.id (some ⟨zId, ⟨#[]⟩, true⟩) }) x bo (.pointer (some ⟨t, 0, none⟩)) o.id.v _ W _ rfl rfl rfl hS0 ?_ ?_ ?_ ?_
  · have hcall := ps_tree_ok hd1 HB1.out HC.out (prune_all (hd1).ps.own HB1.out o.id ok.id)
    rw [h.t] at hcall
    refine hcall.mono ?_
    rintro e w2 ⟨g', s', r, rfl, q1, q2, q3, q4, q5, q6, q7⟩
    refine ⟨_, _, rfl, ⟨?_, (q6.block bo (show bo < W.drew.heap.size from lbo) nbo).trans hbo⟩, g', s', r, rfl, rfl, q1, q2, q3, q4, q5, q6.dr, q7⟩
    have := q7.cell
    simp only at this
    rwa [hpx, q1] at this
  · exact fun V hV => load_tp (cell_p0 hV.1)
  · exact fun V hV => op_id ok (op_range hV.2)
  rintro tv v a' w2 ⟨g2, s', r, rfl, rfl, q1, q2, q3, q4, q5, q6, q7⟩ ha
  subst ha
  simp only [Act.put, List.setIfInBounds_toArray, List.set_cons_zero, List.set_cons_succ]
  go_upto_region 13 with fail
  have hd2 : PS B g2 w2.drew { p with s := s', H := r :: p.H, f := upd p.f o.id (some ⟨zId, ⟨#[]⟩, true⟩) } := q7.below (Below.refl w2.heap.size w2).drew
  have hbo2 : w2.heap[bo]? = some (.cells o.c.toArray 39 (0, 0)) := (q6.block bo lbo nbo).trans hbo
  have lbo2 : bo < w2.heap.size := Nat.lt_of_lt_of_le lbo q6.size
  have nbo2 : ¬ Mut g2 bo := by unfold Mut; rw [q5 bo lbo, gbo]; decide
  have HB2 := hidMk (show B ≤ w2.heap.size from Nat.le_trans HB1.out q6.size)
  have cell2 : w2.drew.heap[x]? = some (.cells #[.pointer (some ⟨t, 0, none⟩), .pointer (some ⟨p.d, 0, none⟩), p.bv, p.sv] 32 (0, 0)) := by
    have := hd2.cell
    simp only at this
    rwa [hpx, q1] at this
  refine step13 (fun V => V.heap[x]? = some (.cells #[.pointer (some ⟨t, 0, none⟩), .pointer (some ⟨p.d, 0, none⟩), p.bv, p.sv] 32 (0, 0)) ∧ V.heap[bo]? = some (.cells o.c.toArray 39 (0, 0))) (fun v V => v = .int .i64 0 ∧ ∃ g' vn vp us, Ext w2 g2 g' ∧ Tch (Mut g2) w2 V ∧ PS B g' V { p with s := s', H := r :: p.H, f := upd p.f o.id (some ⟨zId, ⟨#[]⟩, true⟩), NL := M.put p.NL o.id ⟨zId, ⟨#[]⟩, true⟩, PL := p.PL ++ [p.NL], vn := vn, vp := vp, us := us }) x bo (.pointer (some ⟨p.d, 0, none⟩)) o.id.v _ w2 _ rfl rfl rfl ⟨cell2, hbo2⟩ ?_ ?_ ?_ ?_
  · have hr := hd2.ref
    have hcall := ps_ref_ok hd2 HB2.out (c := pC (lookN p.NL) o.id) (by rw [HE.out]; exact HC.out) (rprune_all hr (HB2.out) HNL.out HPL.out o.id ok.id)
    refine hcall.mono ?_
    rintro e w3 ⟨rfl, g3, vn, vp, us, f1, f2, f3⟩
    refine ⟨_, rfl, ⟨?_, (f2.block bo lbo2 nbo2).trans hbo2⟩, rfl, g3, vn, vp, us, f1, f2.dr, f3⟩
    have := f3.cell
    simp only at this
    rwa [hpx, q1] at this
  · exact fun V hV => load_dp (cell_p1 hV.1)
  · exact fun V hV => op_id ok (op_range hV.2)
  rintro v a' w3 ⟨rfl, g3, vn, vp, us, f1, f2, f3⟩ ha
  subst ha
  simp only [Act.put, List.setIfInBounds_toArray, List.set_cons_zero, List.set_cons_succ]
  have cell3 : w3.heap[x]? = some (.cells #[.pointer (some ⟨t, 0, none⟩), .pointer (some ⟨p.d, 0, none⟩), p.bv, p.sv] 32 (0, 0)) := by
    have := f3.cell
    simp only at this
    rwa [hpx, q1] at this
  have HS := hidMk (rsteps_any f3.ref)
  simp only [List.length_append, List.length_cons, List.length_nil, Nat.zero_add] at HS
  obtain ⟨N1, hN1⟩ : ∃ N1 : Int, ((p.PL.length + 1 : Nat) : Int) = N1 := ⟨_, rfl⟩
  rw [hN1] at HS
  have HN1 := hidMk hN1
  clear hN1
  have HFIN := hidMk (fun (W4 : World) (b4 : Below w3.heap.size w3 W4) => lists_ok hW (Nat.le_trans HB2.out (Nat.le_trans f2.size b4.size)) HM.out q1 q2 q3 q4 (q5.trans f1 q6.size) (Tch.trans (mut_ext q5 q6 f2) (tch_below b4)) (f3.below b4))
  have HC3 := hidMk (fun (V : World) (b : Below w3.heap.size w3 V) => (b.block x (Array.getElem?_eq_some_iff.1 cell3).1).trans cell3)
  have HL1 := hidMk (load_dp (cell_p1 cell3))
  have HBX := hidMk bx
  clear cell3 cell2 f1 f2 f3 hd2 hbo2 lbo2 nbo2 nbo gbo q2 q3 q4 q5 q6 q7 hd1 hS0 bd hbo lbo hpx bx
  go_upto_region 19 with (first
    | (refine wpList_val rfl (exec_load (t := 27) (u := .pointer (some ⟨x, 1, none⟩)) rfl rfl HL1.out) ?_)
    | (go_at_call 33; refine HS.out.mono ?_; rintro e w4 ⟨rfl, b4⟩; clear HS)
    | fail)
  obtain ⟨lv, qv, lv2, qv2, w5, w6, w7, w8, w9, w10, e1, e2, e3, e4, e5, e6, e7, fin⟩ := HFIN.out w4 b4
  rw [HN1.out] at e5
  have E0 := hidMk (load_bs (cell_p2 (HC3.out _ b4)))
  have E1 := hidMk e1
  have E2 := hidMk e2
  have E3 := hidMk e3
  have E4 := hidMk e4
  have E5 := hidMk e5
  have E6 := hidMk e6
  have E7 := hidMk e7
  have FIN := hidMk fin
  clear e1 e2 e3 e4 e5 e6 e7 fin HFIN HL1 b4
  generalize p.bv = bv at *
  generalize p.sv = sv at *
  go_wp2_with (first
    | (refine wpList_val rfl (exec_load (t := 29) (u := .pointer (some ⟨x, 2, none⟩)) rfl rfl E0.out) ?_)
    | (refine wpList_run rfl (exec_buildSlice (t := 29) (n := 1) (xv := .pointer (some ⟨r.bk, 0, none⟩)) (v := lv) rfl rfl E1.out) ?_)
    | (refine wpList_run rfl (exec_append (ts := #[29, 29]) (xv := bv) (yv := lv) (v := qv) rfl rfl rfl E2.out) ?_)
    | (refine wpList_skip rfl rfl (exec_store (t := 29) (xv := .pointer (some ⟨x, 2, none⟩)) (yv := qv) rfl rfl rfl E3.out) ?_)
    | (refine wpList_val rfl (exec_load (t := 30) (u := .pointer (some ⟨x, 3, none⟩)) rfl rfl E4.out) ?_)
    | (refine wpList_run rfl (exec_buildSlice (t := 30) (n := 1) (xv := .int .i64 N1) (v := lv2) rfl rfl E5.out) ?_)
    | (refine wpList_run rfl (exec_append (ts := #[30, 30]) (xv := sv) (yv := lv2) (v := qv2) rfl rfl rfl E6.out) ?_)
    | (refine wpList_skip rfl rfl (exec_store (t := 30) (xv := .pointer (some ⟨x, 3, none⟩)) (yv := qv2) rfl rfl rfl E7.out) ?_)
    | fail)
  go_ret
  obtain ⟨_, g', p', r1, r2, r3⟩ := FIN.out
  exact ⟨rfl, g', p', fun j hj => r1 j (Nat.lt_of_lt_of_le hj HBX.out.size), Tch.trans (tch_below HBX.out) r2, r3⟩
set_option maxRecDepth 100000 in
set_option maxHeartbeats 4000000 in
theorem step_undo {B x t d m : Nat} {p : Pl} {g : Nat → Nat} {w : World} (h : PX B x t d m p g w) (hB : B ≤ w.heap.size) (hm : m + 1 ≤ 1300000000000) (o : OpV) (ok : o.ok) (hk : o.kind = 3) : Calls Try.prog 12 #[.pointer (some ⟨x, 0, none⟩), .agg o.c.toArray] w (SPost B x t d m g w) := by
  have HU := hidMk (fun (V : World) (b : Below w.heap.size w V) => undo_any (h.below b) (Nat.le_trans hB b.size) (by omega) o.back)
  clear hB hm
  go_enter Try.func12, Try.ntmps12
  go_upto_region 3 with fail
  obtain ⟨hbo, bx, zx⟩ := op_box w o
  generalize w.alloc (.cells o.c.toArray 39) = W at *
  have lbo : w.heap.size < W.heap.size := by omega
  have ck : W.cell? ⟨w.heap.size, 0, none⟩ = some (.int .i64 o.kind) := op_range hbo 0 _ rfl
  clear zx
  obtain ⟨bo, hbb⟩ : ∃ bo, w.heap.size = bo := ⟨_, rfl⟩
  have HBB := hidMk hbb
  rw [hbb] at hbo ck lbo ⊢
  clear hbb
  have HLB := hidMk (op_back ok (op_range hbo))
  have BX := hidMk bx
  rw [hk] at ck
  clear hk hbo lbo
  go_upto_region 15 with fail
  clear ck
  go_wp2_with (first
    | (refine wpList_val rfl (exec_load (t := 3) (u := .pointer (some ⟨bo, 0 + 68, none⟩)) rfl rfl HLB.out) ?_)
    | (go_at_call 27; refine (HU.out _ BX.out).mono ?_; rintro e w2 ⟨rfl, g', p', r1, r2, r3, r4⟩)
    | fail)
  go_ret
  exact ⟨rfl, g', p', fun j hj => r1 j (Nat.lt_of_lt_of_le hj BX.out.size), Tch.trans (tch_below BX.out) r2, r3.mono (Nat.le_succ _)⟩
set_option maxRecDepth 100000 in
set_option maxHeartbeats 4000000 in
theorem step_other {B x t d m : Nat} {p : Pl} {g : Nat → Nat} {w : World} (h : PX B x t d m p g w) (hB : B ≤ w.heap.size) (hm : m + 1 ≤ 1300000000000) (o : OpV) (ok : o.ok) (h0 : ¬ o.kind = 0) (h1 : ¬ o.kind = 1) (h2 : ¬ o.kind = 2) (h3 : ¬ o.kind = 3) : Calls Try.prog 12 #[.pointer (some ⟨x, 0, none⟩), .agg o.c.toArray] w (SPost B x t d m g w) := by
  go_enter Try.func12, Try.ntmps12
  go_upto_region 3 with fail
  obtain ⟨hbo, bx, zx⟩ := op_box w o
  generalize w.alloc (.cells o.c.toArray 39) = W at *
  have lbo : w.heap.size < W.heap.size := by omega
  have ck : W.cell? ⟨w.heap.size, 0, none⟩ = some (.int .i64 o.kind) := op_range hbo 0 _ rfl
  clear zx
  obtain ⟨bo, hbb⟩ : ∃ bo, w.heap.size = bo := ⟨_, rfl⟩
  have HBB := hidMk hbb
  rw [hbb] at hbo ck lbo ⊢
  clear hbb
  generalize o.kind = kz at *
  have BX := hidMk bx
  clear hbo lbo bx
  go_wp2
  go_ret
  exact ⟨rfl, g, p, Ext.refl _ _, tch_below BX.out, (h.below BX.out).mono (Nat.le_succ _)⟩
/-- A step of the play. -/
theorem play_step {B x t d m : Nat} {p : Pl} {g : Nat → Nat} {w : World} (h : PX B x t d m p g w) (hB : B ≤ w.heap.size) (hm : m + 1 ≤ 1300000000000) (o : OpV) (ok : o.ok) : Calls Try.prog 12 #[.pointer (some ⟨x, 0, none⟩), .agg o.c.toArray] w (SPost B x t d m g w) := by
  by_cases h0 : o.kind = 0
  · by_cases hc : gC p.f o.id o.under = 0
    · exact step_grow_ok h hB hm o ok h0 hc
    · exact step_grow_no h hB hm o ok h0 hc
  · by_cases h1 : o.kind = 1
    · by_cases hc : mC p.f o.id o.under = 0
      · exact step_move_ok h hB hm o ok h1 hc
      · exact step_move_no h hB hm o ok h1 hc
    · by_cases h2 : o.kind = 2
      · by_cases hc : pC p.f o.id = 0
        · exact step_prune_ok h hB hm o ok h2 hc
        · exact step_prune_no h hB hm o ok h2 hc
      · by_cases h3 : o.kind = 3
        · exact step_undo h hB hm o ok h3
        · exact step_other h hB hm o ok h0 h1 h2 h3
end Go.Proofs.Ytoofljkgdjjllaa

namespace Go.Proofs.Ytoofljkgdjjllaa
open Go.RowKit
set_option linter.unusedVariables false
set_option linter.unusedSimpArgs false

theorem szOp : (Try.prog.info? 39).map (·.size) = some 69 := by kernel_rfl
theorem load_op {w : World} {b o : Nat} {x : OpV} (hx : x.ok) (h : w.rangeAt b o x.c) : (Instr.loadAt 39 (.pointer (some ⟨b, o, none⟩))).run Try.prog w = .ok (.agg x.c.toArray) w :=
  run_loadAt_mid (P := Try.prog) w b o 39 x.c _ h Try.underlying39 rfl (by rw [OpV.len hx]; exact szOp)
/-- alike of a play. -/
theorem px_alike {B x t d m : Nat} {p : Pl} {g : Nat → Nat} {w : World} (h : PX B x t d m p g w) (hm : m ≤ 1300000000000) (a : Option Addr) (c : Nat) (I : List IdK) (hI : IdsAt w a I) (oI : ∀ y ∈ I, y.ok) (lI : I.length ≤ 7000000000000) :
    Calls Try.prog 13 #[.pointer (some ⟨t, 0, none⟩), .pointer (some ⟨d, 0, none⟩), .slice a I.length c] w fun e w' => e = .returned (.bool true) ∧ Below w.heap.size w w' := by
  have hr := h.ps.ref.ref
  have hmn := h.mn
  have hD := ref_dom _ _ _ hr
  have hR := tells_ref _ _ _ hr (by rw [h.ln.eq]; exact h.ps.own.ft) (by omega)
  rw [h.ln.eq, h.d] at hR
  rw [h.ln.eq] at hD
  have hT := tells_own h.ps.own hD (by rw [List.length_map]; omega)
  rw [h.t] at hT
  refine alike_any w _ _ p.f _ h.ps.own.ft hD (by rw [List.length_map]; omega) (fun k => ?_) a c I hI oI lI hT hR
  have hE := h.ps.own.eq
  unfold nd
  cases hq : p.f k with
  | none => exact zId_ok
  | some n =>
    rw [← hE] at hq
    obtain ⟨j, _, hj, _⟩ := fPos_some hq
    exact h.ps.own.tree.tr.uok _ (List.mem_of_getElem? hj)
/-- How a play begins. -/
def p0 (s : Tr) (d x : Nat) : Pl := ⟨x, s, [], fun _ => none, d, [], [], .slice none 0 0, .slice none 0 0, [], .slice none 0 0, [], .slice none 0 0, []⟩
open Classical in
noncomputable def g0 (s : Tr) (d x : Nat) (j : Nat) : Nat := if j ∈ s.bl then 1 else if j = d then 3 else if j = x then 4 else 0
theorem px_start {w w1 w2 w3 : World} {s : Tr} {d : Nat} (b1 : Below w.heap.size w w1) (hs : Own w1.heap.size w2 s [] (fun _ => none)) (b2 : Below w1.heap.size w1 w2) (hd : RefP w2.heap.size w3 d [] [] (.slice none 0 0) (.slice none 0 0) []) (b3 : Below w2.heap.size w2 w3) :
    PX w.heap.size w3.heap.size s.t d 0 (p0 s d w3.heap.size) (g0 s d w3.heap.size) (w3.alloc (.cells #[.pointer (some ⟨s.t, 0, none⟩), .pointer (some ⟨d, 0, none⟩), .slice none 0 0, .slice none 0 0] 32)) ∧
    Below w.heap.size w (w3.alloc (.cells #[.pointer (some ⟨s.t, 0, none⟩), .pointer (some ⟨d, 0, none⟩), .slice none 0 0, .slice none 0 0] 32)) := by
  have z1 := b1.size
  have z2 := b2.size
  have z3 := b3.size
  have b4 : Below w3.heap.size w3 (w3.alloc (.cells #[.pointer (some ⟨s.t, 0, none⟩), .pointer (some ⟨d, 0, none⟩), .slice none 0 0, .slice none 0 0] 32)) := (Below.refl _ _).alloc (Nat.le_refl _) _
  have z4 : (w3.alloc (.cells #[.pointer (some ⟨s.t, 0, none⟩), .pointer (some ⟨d, 0, none⟩), .slice none 0 0, .slice none 0 0] 32)).heap.size = w3.heap.size + 1 := by simp
  have hx := heap_alloc_new w3 (.cells #[.pointer (some ⟨s.t, 0, none⟩), .pointer (some ⟨d, 0, none⟩), .slice none 0 0, .slice none 0 0] 32)
  generalize w3.alloc (.cells #[.pointer (some ⟨s.t, 0, none⟩), .pointer (some ⟨d, 0, none⟩), .slice none 0 0, .slice none 0 0] 32) = w4 at *
  have sl : ∀ j ∈ s.bl, w1.heap.size ≤ j ∧ j < w2.heap.size := fun j hj => ⟨hs.ge j hj, hs.tree.tr.lt j hj⟩
  have dl := hd.ge d (Or.inl rfl)
  have hs4 := (hs.below b3).below b4
  have hd4 := hd.below b4
  have G1 : ∀ j ∈ s.bl, g0 s d w3.heap.size j = 1 := fun j hj => by unfold g0; rw [if_pos hj]
  have Gd : g0 s d w3.heap.size d = 3 := by unfold g0; rw [if_neg (fun q => by have := sl d q; omega), if_pos rfl]
  have Gx : g0 s d w3.heap.size w3.heap.size = 4 := by unfold g0; rw [if_neg (fun q => by have := sl _ q; omega), if_neg (by omega), if_pos rfl]
  refine ⟨⟨rfl, rfl, rfl, ⟨⟨hs4.tree, hs4.eq, hs4.ft, fun j hj => by have := sl j hj; omega, by simp [p0]⟩, ⟨hd4.cell, ⟨rfl, Or.inl ⟨rfl, rfl⟩⟩, ⟨rfl, Or.inl ⟨rfl, rfl⟩⟩, rfl, by simp [p0], by show w.heap.size ≤ d; omega, by simp [p0], by simp [p0], by simp [p0], by simp [p0], by simp [p0], by simp [p0]⟩, hx, ⟨rfl, Or.inl ⟨rfl, rfl⟩⟩, ⟨rfl, Or.inl ⟨rfl, rfl⟩⟩, by simp [p0], G1, by simp [p0], ?_, ?_, ?_, ?_⟩, ⟨by funext y; rfl, HM.nil, rfl, by simp [p0], by simp [p0], by simp [p0], ?_⟩, by simp [p0], by simp [p0], by simp [p0], by simp [p0]⟩, b1.trans ((b2.mono z1).trans ((b3.mono (by omega)).trans (b4.mono (by omega))))⟩
  · rintro j (rfl | q | q | ⟨i, u, hu, q⟩)
    · exact Gd
    · cases q
    · cases q
    · simp [p0] at hu
  · rintro j (rfl | q | q)
    · exact Gx
    · cases q
    · cases q
  · intro j hj
    unfold g0
    rw [if_neg (fun q => by have := sl j q; omega), if_neg (by omega), if_neg (by omega)]
  · intro j hj
    unfold g0 at hj
    by_cases q1 : j ∈ s.bl
    · have := sl j q1; omega
    · rw [if_neg q1] at hj
      by_cases q2 : j = d
      · omega
      · rw [if_neg q2] at hj
        by_cases q3 : j = w3.heap.size
        · omega
        · rw [if_neg q3] at hj; exact absurd rfl hj
  · intro n h1 h2
    simp [p0] at h2
    omega
theorem px_below {B : Nat} {g : Nat → Nat} {w0 w w' : World} {x t d m : Nat} {p : Pl} (h : PX w0.heap.size x t d m p g w) (b : Below w0.heap.size w0 w) (tc : Tch (Mut g) w w') : Below w0.heap.size w0 w' :=
  b.trans (tc.below b.size fun j hj => h.ps.gB j (by rcases hj with q | q | q <;> rw [q] <;> decide))
set_option maxRecDepth 100000 in
set_option maxHeartbeats 4000000 in
theorem seldom_all (a : Option Addr) (c : Nat) (L : List OpV) (w : World) (hL : RowAt 69 OpV.c w a L) (ok : ∀ x ∈ L, x.ok) (hn : L.length ≤ 1256584717422) :
    Calls Try.prog 5 #[.slice a L.length c] w fun e w' => e = .returned (.bool true) ∧ Below w.heap.size w w' := by
  obtain ⟨n, hnn⟩ : ∃ n, L.length = n := ⟨_, rfl⟩
  have HNn := hidMk hnn
  have HLn := hidMk hn
  have HNM := hidMk (fun (W : World) (b : Below w.heap.size w W) => named_any a c L W (hL.below b) ok hn)
  rw [hnn] at HNM
  rw [hnn]
  clear hnn hn
  have HA := hidMk (alive_any w)
  have HR := hidMk rnew_own
  have HN1 := hidMk new_own
  go_enter Try.func5, Try.ntmps5
  go_wp2_with (first
    | (go_at_call 9; refine HA.out.mono ?_; rintro e w1 ⟨rfl, b1⟩; clear HA)
    | (go_at_call 10; refine (HN1.out _).mono ?_; rintro e w2 ⟨s, rfl, hs, b2⟩; clear HN1)
    | (go_at_call 11; refine (HR.out _).mono ?_; rintro e w3 ⟨d, rfl, hd, b3⟩; clear HR)
    | fail)
  obtain ⟨hpx, hbl⟩ := px_start b1 hs b2 hd b3
  clear hs hd b1 b2 b3
  generalize w3.alloc (.cells #[.pointer (some ⟨s.t, 0, none⟩), .pointer (some ⟨d, 0, none⟩), .slice none 0 0, .slice none 0 0] 32) = w4 at *
  generalize w3.heap.size = x at *
  generalize p0 s d x = pp at *
  generalize g0 s d x = gg at *
  generalize s.t = t at *
  go_loopw [4] (fun v4 wr => ∃ i : Nat, v4 = .int .i64 (i : Int) ∧ i ≤ n ∧ (∃ g p, PX w.heap.size x t d i p g wr) ∧ Below w.heap.size w wr) (fun v4 wr => n - (match v4 with | .int _ i => i.toNat | _ => 0))
  case atStart => exact ⟨0, rfl, Nat.zero_le _, ⟨_, _, hpx⟩, hbl⟩
  case round =>
    clear hpx hbl
    obtain ⟨i, rfl, hin, ⟨g, p, px⟩, bel⟩ := hrel
    have hLn := HNn.out
    have hbig := HLn.out
    by_cases hi : i < n
    · have hxi : L[i]? = some L[i] := List.getElem?_eq_getElem (by omega)
      generalize L[i] = o at hxi
      have hxo : o.ok := ok o (List.mem_of_getElem? hxi)
      obtain ⟨b, off, rfl, lb, hr⟩ : ∃ b o', a = some ⟨b, o', none⟩ ∧ b < w.heap.size ∧ w.rangeAt b (o' + i * 69) o.c := by
        rcases hL with rfl | ⟨b, o', e, h1, h2⟩
        · simp at hxi
        · exact ⟨b, o', e, h1, h2 i o hxi⟩
      have HO := hidMk (load_op hxo (rangeAt_keep hr (bel.block _ lb)))
      have HS := hidMk (play_step px bel.size (by omega) o hxo)
      clear hxi hr lb
      go_wp2_with (first
        | (refine wpList_val rfl (exec_load (t := 39) (u := .pointer (some ⟨b, off + i * 69, none⟩)) rfl rfl HO.out) ?_)
        | (go_at_call 12; refine HS.out.mono ?_; rintro e wB ⟨rfl, g', p', ex, tc, px'⟩; clear HS)
        | fail)
      rw [show ((i : Int) + 1) = ((i + 1 : Nat) : Int) by omega]
      refine ⟨⟨i + 1, rfl, hi, ⟨g', p', px'⟩, px_below (B := 0) px bel tc⟩, ?_⟩
      show n - ((i + 1 : Nat) : Int).toNat < n - (i : Int).toNat
      omega
    · obtain rfl : i = n := by omega
      have HM := hidMk HNM.out
      have cell : wr.heap[x]? = some (.cells #[.pointer (some ⟨t, 0, none⟩), .pointer (some ⟨d, 0, none⟩), p.bv, p.sv] 32 (0, 0)) := by rw [← px.x, ← px.t, ← px.d]; exact px.ps.cell
      have lx := (Array.getElem?_eq_some_iff.1 cell).1
      clear hLn hin hi
      go_upto_region 9 with fail
      have bd : Below wr.heap.size wr wr.drew := (Below.refl _ _).drew
      refine seldom9 (fun W => Below wr.heap.size wr W) (fun v W => Below wr.heap.size wr W ∧ IdsIs (namedL L) W v) x (.slice a i c) (.pointer (some ⟨t, 0, none⟩)) (.pointer (some ⟨d, 0, none⟩)) _ wr _ rfl rfl rfl bd ?_ ?_ ?_ ?_ ?_
      · intro W bW
        refine (HM.out W (bel.trans (bW.mono bel.size))).mono ?_
        rintro e w' ⟨v, rfl, ov, bn⟩
        exact ⟨v, rfl, bW.trans (bn.mono bW.size), bW.trans (bn.mono bW.size), own_is ov (namedL_ok ok)⟩
      · rintro W v ⟨bW, av, cv, rfl, hv⟩
        refine (px_alike (px.below bW) (by have := HNn.out; have := HLn.out; omega) av cv (namedL L) hv (namedL_ok ok) (by have := HLn.out; rw [namedL, List.length_cons, pairs_len]; omega)).mono ?_
        rintro e w' ⟨rfl, b⟩
        exact ⟨rfl, bW.trans (b.mono bW.size)⟩
      · exact fun W bW => load_tp (cell_p0 ((bW.block _ lx).trans cell))
      · exact fun W bW => load_dp (cell_p1 ((bW.block _ lx).trans cell))
      intro v a' w' hw' ha
      subst ha
      simp only [Act.put, List.setIfInBounds_toArray, List.set_cons_zero, List.set_cons_succ]
      go_wp2
      go_ret
      exact ⟨rfl, bel.trans (hw'.mono bel.size)⟩
set_option maxRecDepth 100000 in
set_option maxHeartbeats 4000000 in
theorem plays_all (a : Option Addr) (c : Nat) (L : List OpV) (w : World) (hL : RowAt 69 OpV.c w a L) (ok : ∀ x ∈ L, x.ok) (hn : L.length ≤ 1256584717422) :
    Calls Try.prog 4 #[.slice a L.length c] w fun e w' => e = .returned (.bool true) ∧ Below w.heap.size w w' := by
  obtain ⟨n, hnn⟩ : ∃ n, L.length = n := ⟨_, rfl⟩
  have HNn := hidMk hnn
  have HLn := hidMk hn
  have HNM := hidMk (fun (W : World) (b : Below w.heap.size w W) => named_any a c L W (hL.below b) ok hn)
  rw [hnn] at HNM
  rw [hnn]
  clear hnn hn
  have HA := hidMk (alive_any w)
  have HR := hidMk rnew_own
  have HN1 := hidMk new_own
  go_enter Try.func4, Try.ntmps4
  go_wp2_with (first
    | (go_at_call 9; refine HA.out.mono ?_; rintro e w1 ⟨rfl, b1⟩; clear HA)
    | (go_at_call 10; refine (HN1.out _).mono ?_; rintro e w2 ⟨s, rfl, hs, b2⟩; clear HN1)
    | (go_at_call 11; refine (HR.out _).mono ?_; rintro e w3 ⟨d, rfl, hd, b3⟩; clear HR)
    | fail)
  obtain ⟨hpx, hbl⟩ := px_start b1 hs b2 hd b3
  clear hs hd b1 b2 b3
  generalize w3.alloc (.cells #[.pointer (some ⟨s.t, 0, none⟩), .pointer (some ⟨d, 0, none⟩), .slice none 0 0, .slice none 0 0] 32) = w4 at *
  generalize w3.heap.size = x at *
  generalize p0 s d x = pp at *
  generalize g0 s d x = gg at *
  generalize s.t = t at *
  go_loopw [4] (fun v4 wr => ∃ i : Nat, v4 = .int .i64 (i : Int) ∧ i ≤ n ∧ (∃ g p, PX w.heap.size x t d i p g wr) ∧ Below w.heap.size w wr) (fun v4 wr => n - (match v4 with | .int _ i => i.toNat | _ => 0))
  case atStart => exact ⟨0, rfl, Nat.zero_le _, ⟨_, _, hpx⟩, hbl⟩
  case round =>
    clear hpx hbl
    obtain ⟨i, rfl, hin, ⟨g, p, px⟩, bel⟩ := hrel
    have hLn := HNn.out
    have hbig := HLn.out
    by_cases hi : i < n
    · have hxi : L[i]? = some L[i] := List.getElem?_eq_getElem (by omega)
      generalize L[i] = o at hxi
      have hxo : o.ok := ok o (List.mem_of_getElem? hxi)
      obtain ⟨b, off, rfl, lb, hr⟩ : ∃ b o', a = some ⟨b, o', none⟩ ∧ b < w.heap.size ∧ w.rangeAt b (o' + i * 69) o.c := by
        rcases hL with rfl | ⟨b, o', e, h1, h2⟩
        · simp at hxi
        · exact ⟨b, o', e, h1, h2 i o hxi⟩
      have HO := hidMk (fun (W : World) (bw : Below w.heap.size w W) => load_op hxo (rangeAt_keep hr (bw.block _ lb)))
      have HM := hidMk HNM.out
      clear hxi hr lb
      have hcell : ∀ (W : World) (m : Nat) (g : Nat → Nat) (p : Pl), PX w.heap.size x t d m p g W → W.cell? ⟨x, 0, none⟩ = some (.pointer (some ⟨t, 0, none⟩)) ∧ W.cell? ⟨x, 1, none⟩ = some (.pointer (some ⟨d, 0, none⟩)) := fun W m g p q => by
        refine ⟨?_, ?_⟩
        · rw [← q.x, ← q.t]; exact cell_p0 q.ps.cell
        · rw [← q.x, ← q.d]; exact cell_p1 q.ps.cell
      go_upto_region 7 with fail
      have bd : Below wr.heap.size wr wr.drew := (Below.refl _ _).drew
      have pd := px.below bd
      have beld := bel.trans (bd.mono bel.size)
      refine plays7 (fun W => Below w.heap.size w W ∧ ∃ g p, PX w.heap.size x t d (i + 1) p g W) (fun v W => (Below w.heap.size w W ∧ ∃ g p, PX w.heap.size x t d (i + 1) p g W) ∧ IdsIs (namedL L) W v) x b (off + i * 69) (.slice (some ⟨b, off, none⟩) n c) (.int .i64 (i : Int)) (.agg o.c.toArray) (.pointer (some ⟨t, 0, none⟩)) (.pointer (some ⟨d, 0, none⟩)) _ wr _ rfl rfl rfl rfl ⟨beld, g, p, pd.mono (Nat.le_succ _)⟩ ?_ ?_ ?_ ?_ ?_ ?_ ?_ ?_
      · rintro W ⟨bW, g1, p1, h1⟩
        refine (HM.out W bW).mono ?_
        rintro e w' ⟨v, rfl, ov, bn⟩
        have hq : Below w.heap.size w w' ∧ ∃ g p, PX w.heap.size x t d (i + 1) p g w' := ⟨bW.trans (bn.mono bW.size), g1, p1, h1.below bn⟩
        exact ⟨v, rfl, hq, hq, own_is ov (namedL_ok ok)⟩
      · rintro W v ⟨⟨bW, g1, p1, h1⟩, av, cv, rfl, hv⟩
        refine (px_alike h1 (by omega) av cv (namedL L) hv (namedL_ok ok) (by have := HLn.out; rw [namedL, List.length_cons, pairs_len]; omega)).mono ?_
        rintro e w' ⟨rfl, b⟩
        exact ⟨rfl, bW.trans (b.mono bW.size), g1, p1, h1.below b⟩
      · refine (play_step pd beld.size (by omega) o hxo).mono ?_
        rintro e wB ⟨rfl, g', p', ex, tc, px'⟩
        exact ⟨rfl, px_below (B := 0) pd beld tc, g', p', px'⟩
      · exact fun W => ix_op hi (by omega) W
      · exact fun W hW => HO.out W hW.1
      · rintro W ⟨_, g1, p1, h1⟩; exact load_tp (hcell W _ g1 p1 h1).1
      · rintro W ⟨_, g1, p1, h1⟩; exact load_dp (hcell W _ g1 p1 h1).2
      rintro v a' w' hw' ha
      subst ha
      simp only [Act.put, List.setIfInBounds_toArray, List.set_cons_zero, List.set_cons_succ]
      have HW := hidMk hw'
      clear hw' hcell pd beld bd
      go_wp2
      rw [show ((i : Int) + 1) = ((i + 1 : Nat) : Int) by omega]
      refine ⟨⟨i + 1, rfl, hi, HW.out.2, HW.out.1⟩, ?_⟩
      show n - ((i + 1 : Nat) : Int).toNat < n - (i : Int).toNat
      omega
    · obtain rfl : i = n := by omega
      clear hLn hin hi
      go_wp2
      go_ret
      exact ⟨rfl, bel⟩
end Go.Proofs.Ytoofljkgdjjllaa

