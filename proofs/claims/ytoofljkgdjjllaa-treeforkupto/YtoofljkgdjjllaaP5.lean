import Derived.Test.YtoofljkgdjjllaaP4
import Derived.Test.YtoofljkgdjjllaaP3
import Derived.Test.YtoofljkgdjjllaaRg
import Derived.Test.YtoofljkgdjjllaaP2
set_option maxRecDepth 100000
set_option maxHeartbeats 4000000
namespace Go.Proofs.Ytoofljkgdjjllaa
open Go.RowKit
set_option linter.unusedVariables false
set_option linter.unusedSimpArgs false
theorem own_nilN (w : World) (B : Nat) (hB : B ≤ w.heap.size) : OwnN (w.alloc (.cells #[] 114)) B (.slice (some ⟨w.heap.size, 0, none⟩) 0 0) [] :=
  ⟨by simp [flatN], Or.inr ⟨w.heap.size, 0, #[], rfl, hB, heap_alloc_new _ _, by simp, by unfold maxLen; omega, by simp, by simp [flatN]⟩⟩
theorem past_not {B : Nat} {w : World} {d : Nat} {vn vp v : Value} {us : List Value} (hc : w.heap[d]? = some (.cells #[vn, vp] 86 (0, 0))) (hp : OwnV w B 83 v us) : v.ownBlock ≠ some d := by
  intro e
  obtain ⟨_, c, h⟩ := hp.ge d e
  rw [hc] at h
  simp at h
theorem nodes_not {B : Nat} {w : World} {d : Nat} {vn vp v : Value} {L : List RN} (hc : w.heap[d]? = some (.cells #[vn, vp] 86 (0, 0))) (hp : OwnN w B v L) : v.ownBlock ≠ some d := by
  intro e
  obtain ⟨_, c, h⟩ := hp.ge d e
  rw [hc] at h
  simp at h
theorem nodes_past {B : Nat} {w : World} {vp v : Value} {L : List RN} {us : List Value} (hn : OwnN w B v L) (hp : OwnV w B 83 vp us) {j : Nat} (h1 : v.ownBlock = some j) : vp.ownBlock ≠ some j := by
  intro e
  obtain ⟨_, c, h⟩ := hp.ge j e
  obtain ⟨_, c', h'⟩ := hn.ge j h1
  rw [h'] at h
  simp at h
theorem mark_runs {B : Nat} {w : World} {d : Nat} {NL : List RN} {PL : List (List RN)} {vn vp : Value} {us : List Value} (h : RefP B w d NL PL vn vp us) (hB : B ≤ w.heap.size) (hn : NL.length ≤ 1300000000000) (hp : PL.length ≤ 1300000000000) :
    ∃ (ev cv lv qv : Value) (w1 w2 w3 w4 : World), (Instr.buildSlice 83 0 #[]).run Try.prog w = .ok ev w1 ∧ (Builtin.append_ #[83, 83] 83 #[ev, vn]).run Try.prog w1 = .ok cv w2 ∧
      (Instr.buildSlice 84 1 #[(0, cv)]).run Try.prog w2 = .ok lv w3 ∧ (Builtin.append_ #[84, 84] 84 #[vp, lv]).run Try.prog w3 = .ok qv w4 ∧
      (Instr.storeAt 84 (.pointer (some ⟨d, 1, none⟩)) qv).run Try.prog w4 = .ok () (w4.setCell ⟨d, 1, none⟩ qv) ∧
      Below w.heap.size w w1 ∧ Below w.heap.size w w2 ∧ Below w.heap.size w w3 ∧ Tch (fun j => vp.ownBlock = some j) w w4 ∧ w4.heap[d]? = some (.cells #[vn, vp] 86 (0, 0)) ∧
      RefP B (w4.setCell ⟨d, 1, none⟩ qv) d NL (PL ++ [NL]) vn qv (us ++ [cv]) ∧ (∀ j, refB d vn qv (us ++ [cv]) j → refB d vn vp us j ∨ w.heap.size ≤ j) := by
  obtain ⟨an, cn, en, hrn, _⟩ := h.nodes.open h.ok
  have ld := (Array.getElem?_eq_some_iff.1 h.cell).1
  have e0 := run_bs0 w
  have own1 := own_nilN w B hB
  have b1 : Below w.heap.size w (w.alloc (.cells #[] 114)) := (Below.refl _ _).alloc (Nat.le_refl _) _
  have z1 : (w.alloc (.cells #[] 114)).heap.size = w.heap.size + 1 := by simp
  generalize w.alloc (.cells #[] 114) = w1 at *
  obtain ⟨cv, w2, e1, own2, g2, o2⟩ := run_appN w1 B _ [] an NL cn own1 (hrn.below b1) h.ok (by simp; omega) (by omega)
  rw [List.nil_append] at own2
  have b2 : Below w.heap.size w w2 := b1.trans ⟨g2.os, g2.tape, g2.output, g2.size, fun j hj => g2.block j (by omega) (by simp [Value.ownBlock]; omega)⟩
  have ocv : ∀ j, cv.ownBlock = some j → w.heap.size ≤ j := by
    intro j hj
    rcases o2 with q | q
    · rw [q] at hj; simp [Value.ownBlock] at hj; omega
    · rw [q] at hj; simp at hj; omega
  obtain ⟨a2, c2, ecv, _, _⟩ := own2.open h.ok
  have e2 := run_bsV cv (by rw [ecv]; simp [Value.oneCell']) (by rw [ecv]; rfl) w2
  have b3' : Below w2.heap.size w2 (w2.alloc (.cells #[cv] 83)) := (Below.refl _ _).alloc (Nat.le_refl _) _
  have v3 : Vals (w2.alloc (.cells #[cv] 83)) (some ⟨w2.heap.size, 0, none⟩) [cv] := Or.inr ⟨_, _, rfl, fun j u hj => by
    rw [Nat.zero_add, cell_of_row _ _ _ _ _ _ (heap_alloc_new _ _)]
    simpa using hj⟩
  generalize w2.alloc (.cells #[cv] 83) = w3 at *
  have b3 : Below w.heap.size w w3 := b2.trans (b3'.mono b2.size)
  have z3 := b3.size
  have p3 := h.past.below b3
  obtain ⟨qv, w4, e3, own4, g4, o4⟩ := run_appV 84 83 24 _ Try.underlying84 infoNs (Or.inr rfl) rfl w3 B 84 vp us _ [cv] 1 p3 v3 (by intro u hu; simp at hu; subst hu; rw [ecv]; simp [Value.oneCell']) (by rw [h.len]; simp; omega) (by omega)
  have r3 := h.below b3
  have t4 : Tch (fun j => vp.ownBlock = some j) w w4 := by
    refine Tch.trans ⟨b3.os, b3.tape, b3.output, b3.size, fun j hj _ => b3.block j hj⟩ ⟨g4.os, g4.tape, g4.output, g4.size, fun j hj hO => g4.block j hj (fun q => hO q.symm)⟩
  have hd4 : w4.heap[d]? = some (.cells #[vn, vp] 86 (0, 0)) := (t4.block d ld (past_not h.cell h.past)).trans h.cell
  obtain ⟨a4, c4, eqv, _⟩ := own4.open
  have es := store_ref1 a4 (us ++ [cv]).length c4 hd4
  rw [← eqv] at es
  have ts := set_tch w4 d 1 qv
  have oqv : ∀ j, qv.ownBlock = some j → vp.ownBlock = some j ∨ w.heap.size ≤ j := by
    intro j hj
    rcases o4 with q | q
    · exact Or.inl (by rw [← q]; exact hj)
    · rw [q] at hj; simp at hj; exact Or.inr (by omega)
  have own2' := (own2.below b3').keep (w' := w4) fun j hj => g4.block j (by obtain ⟨_, c, q⟩ := (own2.below b3').ge j hj; exact (Array.getElem?_eq_some_iff.1 q).1) (fun q => nodes_past (own2.below b3') p3 hj q.symm)
  have n4 := h.nodes.keep (w' := w4) fun j hj => t4.block j (by obtain ⟨_, c, q⟩ := h.nodes.ge j hj; exact (Array.getElem?_eq_some_iff.1 q).1) (nodes_past h.nodes h.past hj)
  have l4 : ∀ (i : Nat) u P, us[i]? = some u → PL[i]? = some P → OwnN w4 B u P := fun i u P hu hP => (h.lists i u P hu hP).keep fun j hj => t4.block j (by obtain ⟨_, c, q⟩ := (h.lists i u P hu hP).ge j hj; exact (Array.getElem?_eq_some_iff.1 q).1) (nodes_past (h.lists i u P hu hP) h.past hj)
  have k5 : ∀ (v : Value) (L : List RN), OwnN w4 B v L → OwnN (w4.setCell ⟨d, 1, none⟩ qv) B v L := fun v L q => q.keep fun j hj => ts.block j (by obtain ⟨_, c, q⟩ := q.ge j hj; exact (Array.getElem?_eq_some_iff.1 q).1) (fun e => nodes_not hd4 q (by rw [← e]; exact hj))
  have lu : ∀ (i : Nat) u j, us[i]? = some u → u.ownBlock = some j → j < w.heap.size := fun i u j hu hj => (h.ge j (Or.inr (Or.inr (Or.inr ⟨i, u, hu, hj⟩)))).2
  have hus : ∀ (i : Nat) u, (us ++ [cv])[i]? = some u → (us[i]? = some u ∧ i < us.length) ∨ (u = cv ∧ i = us.length) := by
    intro i u hu
    by_cases hi : i < us.length
    · rw [List.getElem?_append_left hi] at hu; exact Or.inl ⟨hu, hi⟩
    · rw [List.getElem?_append_right (by omega)] at hu
      have := (List.getElem?_eq_some_iff.1 hu).1
      simp at this
      obtain rfl : i = us.length := by omega
      simp at hu
      exact Or.inr ⟨hu.symm, rfl⟩
  refine ⟨_, cv, _, qv, w1, w2, w3, w4, e0, by rw [en]; exact e1, e2, e3, es, b1, b2, b3, t4, hd4, ⟨set_ref1 hd4 qv, k5 _ _ n4, own4.keep fun j hj => ts.block j (by obtain ⟨_, c, q⟩ := own4.ge j hj; exact (Array.getElem?_eq_some_iff.1 q).1) (fun e => past_not hd4 own4 (by rw [← e]; exact hj)), by simp [h.len], fun i u P hu hP => ?_, h.dB, fun i u j hu hj => ?_, fun i i' u u' j hu hu' hne hj => ?_, h.ok, fun P hP => ?_, h.nd, fun P hP => ?_⟩, fun j hj => ?_⟩
  · rcases hus i u hu with ⟨q, hi⟩ | ⟨rfl, rfl⟩
    · rw [List.getElem?_append_left (by rw [← h.len]; exact hi)] at hP; exact k5 _ _ (l4 i u P q hP)
    · rw [h.len] at hP; simp at hP; subst hP; exact k5 _ _ own2'
  · rcases hus i u hu with ⟨q, _⟩ | ⟨rfl, _⟩
    · exact h.ap i u j q hj
    · have := ocv j hj
      intro e
      have := (h.ge j (Or.inr (Or.inl e))).2
      omega
  · rcases hus i u hu with ⟨q, _⟩ | ⟨rfl, e1⟩ <;> rcases hus i' u' hu' with ⟨q', _⟩ | ⟨rfl, e2⟩
    · exact h.ap2 i i' u u' j q q' hne hj
    · intro e; have := ocv j e; have := lu i u j q hj; omega
    · intro e; have := ocv j hj; have := lu i' u' j q' e; omega
    · omega
  · rcases List.mem_append.1 hP with q | q
    · exact h.okP P q
    · simp at q; subst q; exact h.ok
  · rcases List.mem_append.1 hP with q | q
    · exact h.ndP P q
    · simp at q; subst q; exact h.nd
  · rcases hj with rfl | q | q | ⟨i, u, hu, q⟩
    · exact Or.inl (Or.inl rfl)
    · exact Or.inl (Or.inr (Or.inl q))
    · rcases oqv j q with q | q
      · exact Or.inl (Or.inr (Or.inr (Or.inl q)))
      · exact Or.inr q
    · rcases hus i u hu with ⟨p, _⟩ | ⟨rfl, _⟩
      · exact Or.inl (Or.inr (Or.inr (Or.inr ⟨i, u, p, q⟩)))
      · exact Or.inr (ocv j q)
theorem mark_any {B : Nat} {w : World} {d : Nat} {NL : List RN} {PL : List (List RN)} {vn vp : Value} {us : List Value} (h : RefP B w d NL PL vn vp us) (hB : B ≤ w.heap.size) (hn : NL.length ≤ 1300000000000) (hp : PL.length ≤ 1300000000000) :
    Calls Try.prog 75 #[.pointer (some ⟨d, 0, none⟩)] w fun e w' => e = .returned (.tuple #[]) ∧ ∃ qv cv, RefP B w' d NL (PL ++ [NL]) vn qv (us ++ [cv]) ∧ Tch (fun j => j = d ∨ vp.ownBlock = some j) w w' ∧ (∀ j, refB d vn qv (us ++ [cv]) j → refB d vn vp us j ∨ w.heap.size ≤ j) := by
  have bd : Below w.heap.size w w.drew := (Below.refl _ _).drew
  have hd := h.below bd
  have ld := (Array.getElem?_eq_some_iff.1 hd.cell).1
  obtain ⟨ev, cv, lv, qv, w1, w2, w3, w4, e0, e1, e2, e3, es, b1, b2, b3, t4, hd4, hr, hbl⟩ := mark_runs hd hB hn hp
  have fin1 : Tch (fun j => j = d ∨ vp.ownBlock = some j) w w4 := (Tch.refl _ w).drew.trans (Tch.mono (w := w.drew) t4 fun k _ q => Or.inr q)
  have fin : Tch (fun j => j = d ∨ vp.ownBlock = some j) w (w4.setCell ⟨d, 1, none⟩ qv) := fin1.trans ((set_tch w4 d 1 qv).mono fun k _ q => Or.inl q)
  obtain ⟨an, cn, en, _⟩ := h.nodes.open h.ok
  obtain ⟨ap, cp, ep, _⟩ := h.past.open
  obtain ⟨w5, hw5⟩ : ∃ w5, w4.setCell ⟨d, 1, none⟩ qv = w5 := ⟨_, rfl⟩
  have s5 : w5.cell? ⟨d, 0, none⟩ = some vn := by rw [← hw5, cell_of_row _ _ 0 _ _ _ (set_ref1 hd4 qv)]; rfl
  have s4 : w4.cell? ⟨d, 0, none⟩ = some vn := by rw [cell_of_row _ _ 0 _ _ _ hd4]; rfl
  have c0 : w.drew.cell? ⟨d, 0, none⟩ = some vn := by rw [cell_of_row _ _ 0 _ _ _ hd.cell]; rfl
  have c1 : w.drew.cell? ⟨d, 1, none⟩ = some vp := by rw [cell_of_row _ _ 1 _ _ _ hd.cell]; rfl
  have f0 : ∀ W, Below w.drew.heap.size w.drew W → W.cell? ⟨d, 0, none⟩ = some vn := fun W b => (b.cell (p := ⟨d, 0, none⟩) ld).trans c0
  have f1 : ∀ W, Below w.drew.heap.size w.drew W → (Instr.loadAt 84 (.pointer (some ⟨d, 1, none⟩))).run Try.prog W = .ok vp W := fun W b => by
    have hc := (b.cell (p := ⟨d, 1, none⟩) ld).trans c1
    rw [ep] at hc ⊢
    go_simp
  rw [hw5] at es hr fin
  go_enter Try.func75, Try.ntmps75
  go_upto_region 0 with fail
  refine mark0 d (.pointer (some ⟨d, 0, none⟩)) (.pointer (some ⟨d, 1, none⟩)) vn vp ev cv lv qv w1 w2 w3 w4 w5 (fun W => W.cell? ⟨d, 0, none⟩ = some vn) _ w _ rfl rfl (fun W => by go_simp) (fun W => by go_simp) (fun W hw => by rw [en] at hw ⊢; go_simp) c0 (f0 _ b1) (f0 _ b2) (f0 _ b3) s4 s5 (f1 _ (Below.refl _ _)) (f1 _ b1) (f1 _ b2) (f1 _ b3) e0 e1 e2 e3 es ?_ ?_ ?_ ?_
  all_goals
    intro a' w' hw' ha
    subst hw' ha
    simp only [Act.put, List.setIfInBounds_toArray, List.set_cons_zero, List.set_cons_succ]
    refine bodyPost_end (results_none rfl _ _ _) rfl ?_
    exact ⟨rfl, qv, cv, hr, fin, hbl⟩
theorem past_runs {B : Nat} {w : World} {d : Nat} {NL : List RN} {PL : List (List RN)} {vn vp : Value} {us : List Value} (h : RefP B w d NL PL vn vp us) (hB : B ≤ w.heap.size) {an : Option Addr} {cn : Nat} {L : List RN} (hrn : RnsAt w an L) (okL : ∀ p ∈ L, RnOk p) (ndL : (L.map (·.1)).Nodup) (hn : L.length ≤ 1300000000000) (hp : PL.length ≤ 1300000000000) :
    ∃ (ev cv lv qv : Value) (w1 w2 w3 w4 : World), (Instr.buildSlice 83 0 #[]).run Try.prog w = .ok ev w1 ∧ (Builtin.append_ #[83, 83] 83 #[ev, .slice an L.length cn]).run Try.prog w1 = .ok cv w2 ∧
      (Instr.buildSlice 84 1 #[(0, cv)]).run Try.prog w2 = .ok lv w3 ∧ (Builtin.append_ #[84, 84] 84 #[vp, lv]).run Try.prog w3 = .ok qv w4 ∧
      (Instr.storeAt 84 (.pointer (some ⟨d, 1, none⟩)) qv).run Try.prog w4 = .ok () (w4.setCell ⟨d, 1, none⟩ qv) ∧
      Below w.heap.size w w1 ∧ Below w.heap.size w w2 ∧ Below w.heap.size w w3 ∧ Tch (fun j => vp.ownBlock = some j) w w4 ∧ w4.heap[d]? = some (.cells #[vn, vp] 86 (0, 0)) ∧
      RefP B (w4.setCell ⟨d, 1, none⟩ qv) d NL (PL ++ [L]) vn qv (us ++ [cv]) ∧ (∀ j, refB d vn qv (us ++ [cv]) j → refB d vn vp us j ∨ w.heap.size ≤ j) := by
  have ld := (Array.getElem?_eq_some_iff.1 h.cell).1
  have e0 := run_bs0 w
  have own1 := own_nilN w B hB
  have b1 : Below w.heap.size w (w.alloc (.cells #[] 114)) := (Below.refl _ _).alloc (Nat.le_refl _) _
  have z1 : (w.alloc (.cells #[] 114)).heap.size = w.heap.size + 1 := by simp
  generalize w.alloc (.cells #[] 114) = w1 at *
  obtain ⟨cv, w2, e1, own2, g2, o2⟩ := run_appN w1 B _ [] an L cn own1 (hrn.below b1) okL (by simp; omega) (by omega)
  rw [List.nil_append] at own2
  have b2 : Below w.heap.size w w2 := b1.trans ⟨g2.os, g2.tape, g2.output, g2.size, fun j hj => g2.block j (by omega) (by simp [Value.ownBlock]; omega)⟩
  have ocv : ∀ j, cv.ownBlock = some j → w.heap.size ≤ j := by
    intro j hj
    rcases o2 with q | q
    · rw [q] at hj; simp [Value.ownBlock] at hj; omega
    · rw [q] at hj; simp at hj; omega
  obtain ⟨a2, c2, ecv, _, _⟩ := own2.open okL
  have e2 := run_bsV cv (by rw [ecv]; simp [Value.oneCell']) (by rw [ecv]; rfl) w2
  have b3' : Below w2.heap.size w2 (w2.alloc (.cells #[cv] 83)) := (Below.refl _ _).alloc (Nat.le_refl _) _
  have v3 : Vals (w2.alloc (.cells #[cv] 83)) (some ⟨w2.heap.size, 0, none⟩) [cv] := Or.inr ⟨_, _, rfl, fun j u hj => by
    rw [Nat.zero_add, cell_of_row _ _ _ _ _ _ (heap_alloc_new _ _)]
    simpa using hj⟩
  generalize w2.alloc (.cells #[cv] 83) = w3 at *
  have b3 : Below w.heap.size w w3 := b2.trans (b3'.mono b2.size)
  have z3 := b3.size
  have p3 := h.past.below b3
  obtain ⟨qv, w4, e3, own4, g4, o4⟩ := run_appV 84 83 24 _ Try.underlying84 infoNs (Or.inr rfl) rfl w3 B 84 vp us _ [cv] 1 p3 v3 (by intro u hu; simp at hu; subst hu; rw [ecv]; simp [Value.oneCell']) (by rw [h.len]; simp; omega) (by omega)
  have r3 := h.below b3
  have t4 : Tch (fun j => vp.ownBlock = some j) w w4 := by
    refine Tch.trans ⟨b3.os, b3.tape, b3.output, b3.size, fun j hj _ => b3.block j hj⟩ ⟨g4.os, g4.tape, g4.output, g4.size, fun j hj hO => g4.block j hj (fun q => hO q.symm)⟩
  have hd4 : w4.heap[d]? = some (.cells #[vn, vp] 86 (0, 0)) := (t4.block d ld (past_not h.cell h.past)).trans h.cell
  obtain ⟨a4, c4, eqv, _⟩ := own4.open
  have es := store_ref1 a4 (us ++ [cv]).length c4 hd4
  rw [← eqv] at es
  have ts := set_tch w4 d 1 qv
  have oqv : ∀ j, qv.ownBlock = some j → vp.ownBlock = some j ∨ w.heap.size ≤ j := by
    intro j hj
    rcases o4 with q | q
    · exact Or.inl (by rw [← q]; exact hj)
    · rw [q] at hj; simp at hj; exact Or.inr (by omega)
  have own2' := (own2.below b3').keep (w' := w4) fun j hj => g4.block j (by obtain ⟨_, c, q⟩ := (own2.below b3').ge j hj; exact (Array.getElem?_eq_some_iff.1 q).1) (fun q => nodes_past (own2.below b3') p3 hj q.symm)
  have n4 := h.nodes.keep (w' := w4) fun j hj => t4.block j (by obtain ⟨_, c, q⟩ := h.nodes.ge j hj; exact (Array.getElem?_eq_some_iff.1 q).1) (nodes_past h.nodes h.past hj)
  have l4 : ∀ (i : Nat) u P, us[i]? = some u → PL[i]? = some P → OwnN w4 B u P := fun i u P hu hP => (h.lists i u P hu hP).keep fun j hj => t4.block j (by obtain ⟨_, c, q⟩ := (h.lists i u P hu hP).ge j hj; exact (Array.getElem?_eq_some_iff.1 q).1) (nodes_past (h.lists i u P hu hP) h.past hj)
  have k5 : ∀ (v : Value) (L : List RN), OwnN w4 B v L → OwnN (w4.setCell ⟨d, 1, none⟩ qv) B v L := fun v L q => q.keep fun j hj => ts.block j (by obtain ⟨_, c, q⟩ := q.ge j hj; exact (Array.getElem?_eq_some_iff.1 q).1) (fun e => nodes_not hd4 q (by rw [← e]; exact hj))
  have lu : ∀ (i : Nat) u j, us[i]? = some u → u.ownBlock = some j → j < w.heap.size := fun i u j hu hj => (h.ge j (Or.inr (Or.inr (Or.inr ⟨i, u, hu, hj⟩)))).2
  have hus : ∀ (i : Nat) u, (us ++ [cv])[i]? = some u → (us[i]? = some u ∧ i < us.length) ∨ (u = cv ∧ i = us.length) := by
    intro i u hu
    by_cases hi : i < us.length
    · rw [List.getElem?_append_left hi] at hu; exact Or.inl ⟨hu, hi⟩
    · rw [List.getElem?_append_right (by omega)] at hu
      have := (List.getElem?_eq_some_iff.1 hu).1
      simp at this
      obtain rfl : i = us.length := by omega
      simp at hu
      exact Or.inr ⟨hu.symm, rfl⟩
  refine ⟨_, cv, _, qv, w1, w2, w3, w4, e0, e1, e2, e3, es, b1, b2, b3, t4, hd4, ⟨set_ref1 hd4 qv, k5 _ _ n4, own4.keep fun j hj => ts.block j (by obtain ⟨_, c, q⟩ := own4.ge j hj; exact (Array.getElem?_eq_some_iff.1 q).1) (fun e => past_not hd4 own4 (by rw [← e]; exact hj)), by simp [h.len], fun i u P hu hP => ?_, h.dB, fun i u j hu hj => ?_, fun i i' u u' j hu hu' hne hj => ?_, h.ok, fun P hP => ?_, h.nd, fun P hP => ?_⟩, fun j hj => ?_⟩
  · rcases hus i u hu with ⟨q, hi⟩ | ⟨rfl, rfl⟩
    · rw [List.getElem?_append_left (by rw [← h.len]; exact hi)] at hP; exact k5 _ _ (l4 i u P q hP)
    · rw [h.len] at hP; simp at hP; subst hP; exact k5 _ _ own2'
  · rcases hus i u hu with ⟨q, _⟩ | ⟨rfl, _⟩
    · exact h.ap i u j q hj
    · have := ocv j hj
      intro e
      have := (h.ge j (Or.inr (Or.inl e))).2
      omega
  · rcases hus i u hu with ⟨q, _⟩ | ⟨rfl, e1⟩ <;> rcases hus i' u' hu' with ⟨q', _⟩ | ⟨rfl, e2⟩
    · exact h.ap2 i i' u u' j q q' hne hj
    · intro e; have := ocv j e; have := lu i u j q hj; omega
    · intro e; have := ocv j hj; have := lu i' u' j q' e; omega
    · omega
  · rcases List.mem_append.1 hP with q | q
    · exact h.okP P q
    · simp at q; subst q; exact okL
  · rcases List.mem_append.1 hP with q | q
    · exact h.ndP P q
    · simp at q; subst q; exact ndL
  · rcases hj with rfl | q | q | ⟨i, u, hu, q⟩
    · exact Or.inl (Or.inl rfl)
    · exact Or.inl (Or.inr (Or.inl q))
    · rcases oqv j q with q | q
      · exact Or.inl (Or.inr (Or.inr (Or.inl q)))
      · exact Or.inr q
    · rcases hus i u hu with ⟨p, _⟩ | ⟨rfl, _⟩
      · exact Or.inl (Or.inr (Or.inr (Or.inr ⟨i, u, p, q⟩)))
      · exact Or.inr (ocv j q)
theorem box_ref (vn : Value) (w : World) : (Instr.box 86 (.agg #[vn, .slice none 0 0])).run Try.prog w = .ok (.pointer (some ⟨w.heap.size, 0, none⟩)) (w.alloc (.cells #[vn, .slice none 0 0] 86)) := by go_simp
theorem build_ref (a : Option Addr) (n c : Nat) (w : World) : (Instr.build 86 #[(0, .slice a n c)]).run Try.prog w = .ok (.agg #[.slice a n c, .slice none 0 0]) w := by go_simp
theorem ix_past {b o n c i : Nat} (h : i < n) (hn : n ≤ 9223372036854775807) (w : World) : (Instr.indexAt 84 (.slice (some ⟨b, o, none⟩) n c) (.int .i64 (i : Int))).run Try.prog w = .ok (.pointer (some ⟨b, o + i, none⟩)) w := by go_simp
theorem fork_ref {B : Nat} {w : World} {d : Nat} {NL : List RN} {PL : List (List RN)} {vn vp : Value} {us : List Value} (h : RefP B w d NL PL vn vp us) (hB : B ≤ w.heap.size) (hn : NL.length ≤ 1300000000000) (hp : PL.length ≤ 1300000000000) (hP : ∀ P ∈ PL, P.length ≤ 1300000000000) :
    Calls Try.prog 16 #[.pointer (some ⟨d, 0, none⟩)] w fun e w' => ∃ f vn' vp' us', e = .returned (.pointer (some ⟨f, 0, none⟩)) ∧ RefP B w' f NL PL vn' vp' us' ∧ Below w.heap.size w w' ∧ ∀ j, refB f vn' vp' us' j → w.heap.size ≤ j := by
  obtain ⟨an, cn, en, hrn, _⟩ := h.nodes.open h.ok
  obtain ⟨ap, cp, ep, hcp, hvp, _⟩ := h.past.open
  have ld := (Array.getElem?_eq_some_iff.1 h.cell).1
  have e0 := run_bs0 w
  have own1 := own_nilN w B hB
  have b1 : Below w.heap.size w (w.alloc (.cells #[] 114)) := (Below.refl _ _).alloc (Nat.le_refl _) _
  have z1 : (w.alloc (.cells #[] 114)).heap.size = w.heap.size + 1 := by simp
  generalize w.alloc (.cells #[] 114) = w1 at *
  obtain ⟨cv, w2, e1, own2, g2, o2⟩ := run_appN w1 B _ [] an NL cn own1 (hrn.below b1) h.ok (by simp; omega) (by omega)
  rw [List.nil_append] at own2
  have b2 : Below w.heap.size w w2 := b1.trans ⟨g2.os, g2.tape, g2.output, g2.size, fun j hj => g2.block j (by omega) (by simp [Value.ownBlock]; omega)⟩
  have ocv : ∀ j, cv.ownBlock = some j → w.heap.size ≤ j := by
    intro j hj
    rcases o2 with q | q
    · rw [q] at hj; simp [Value.ownBlock] at hj; omega
    · rw [q] at hj; simp at hj; omega
  obtain ⟨a2, c2, ecv, _, _⟩ := own2.open h.ok
  have e3 := box_ref cv w2
  have b3' : Below w2.heap.size w2 (w2.alloc (.cells #[cv, .slice none 0 0] 86)) := (Below.refl _ _).alloc (Nat.le_refl _) _
  have hf3 := heap_alloc_new w2 (.cells #[cv, .slice none 0 0] 86)
  generalize w2.alloc (.cells #[cv, .slice none 0 0] 86) = w3 at *
  have b3 : Below w.heap.size w w3 := b2.trans (b3'.mono b2.size)
  obtain ⟨f, hf⟩ : ∃ f, w2.heap.size = f := ⟨_, rfl⟩
  rw [hf] at e3 hf3
  have gf : w.heap.size ≤ f := by rw [← hf]; exact b2.size
  have r3 : RefP B w3 f NL [] cv (.slice none 0 0) [] := ⟨hf3, own2.below b3', ⟨rfl, Or.inl ⟨rfl, rfl⟩⟩, rfl, by simp, by omega, by simp, by simp, h.ok, by simp, h.nd, by simp⟩
  have rb3 : ∀ j, refB f cv (.slice none 0 0) [] j → w.heap.size ≤ j := by
    rintro j (rfl | q | q | ⟨i, u, hu, q⟩)
    · exact gf
    · exact ocv j q
    · cases q
    · simp at hu
  have ld1 : (Instr.loadAt 83 (.pointer (some ⟨d, 0 + 0, none⟩))).run Try.prog w1 = .ok (.slice an NL.length cn) w1 := by
    have c0 : w1.cell? ⟨d, 0, none⟩ = some (.slice an NL.length cn) := by rw [cell_of_row _ _ 0 _ _ _ ((b1.block d ld).trans h.cell), ← en]; rfl
    go_simp
  have gb : ∀ W, (Instr.build 86 #[(0, cv)]).run Try.prog W = .ok (.agg #[cv, .slice none 0 0]) W := fun W => by rw [ecv]; exact build_ref _ _ _ W
  have HH := hidMk h
  have R3 := hidMk r3
  have RB3 := hidMk rb3
  have B3 := hidMk b3
  have HV := hidMk hvp
  have HP := hidMk hP
  have HPL := hidMk hp
  obtain ⟨m, hm⟩ : ∃ m, us.length = m := ⟨_, rfl⟩
  have HM := hidMk hm
  have mb : m ≤ 1300000000000 := by rw [← hm, h.len]; exact hp
  have EP := hidMk ep
  rw [hm] at ep
  have C1 : ∀ W, Below w.heap.size w W → W.cell? ⟨d, 1, none⟩ = some (.slice ap m cp) := fun W b => by rw [cell_of_row _ _ 1 _ _ _ ((b.block d ld).trans h.cell), ← ep]; rfl
  have HC1 := hidMk C1
  have HCV := hidMk ecv
  have HLD := hidMk ld
  have HE0 := hidMk e0
  have HE1 := hidMk e1
  have HE3 := hidMk e3
  have HL1 := hidMk ld1
  have HGB := hidMk gb
  clear h hrn hvp hP hp hn hm own1 b1 z1 own2 g2 o2 b2 ocv b3' hf3 b3 hf gf r3 rb3 ep C1 ecv ld e0 e1 e3 ld1 gb en hcp
  go_enter Try.func16, Try.ntmps16
  go_upto_region 3 with fail
  refine rfork3 d (.slice an NL.length cn) _ cv (.agg #[cv, .slice none 0 0]) (.pointer (some ⟨f, 0, none⟩)) w1 w2 w3 _ w _ rfl rfl HE0.out HL1.out HE1.out HGB.out HE3.out ?_
  intro a' w' hw' ha
  obtain rfl : w3 = w' := hw'.symm
  subst ha
  simp only [Act.put, List.setIfInBounds_toArray, List.set_cons_zero, List.set_cons_succ]
  clear HE0 HL1 HE1 HGB HE3
  go_upto_region 5 with fail
  go_loopw [4] (fun v4 wr => ∃ (i : Nat) (vq : Value) (uq : List Value), v4 = .int .i64 (i : Int) ∧ i ≤ m ∧ RefP B wr f NL (PL.take i) cv vq uq ∧ Below w.heap.size w wr ∧ (∀ j, refB f cv vq uq j → w.heap.size ≤ j)) (fun v4 wr => m - (match v4 with | .int _ i => i.toNat | _ => 0))
  case atStart => exact ⟨0, _, _, rfl, Nat.zero_le _, by simpa using R3.out, B3.out, RB3.out⟩
  case round =>
    obtain ⟨i, vq, uq, rfl, him, hr, bel, hrb⟩ := hrel
    have c1 := HC1.out _ bel
    have HBEL := hidMk bel
    have HR := hidMk hr
    have HRB := hidMk hrb
    have hm := HM.out
    by_cases hi : i < m
    · obtain ⟨u, hu⟩ : ∃ u, us[i]? = some u := ⟨_, List.getElem?_eq_getElem (by omega)⟩
      obtain ⟨L, hL⟩ : ∃ L, PL[i]? = some L := ⟨_, List.getElem?_eq_getElem (by rw [← HH.out.len]; omega)⟩
      have memL : L ∈ PL := List.mem_of_getElem? hL
      have hln := HP.out L memL
      have okL := HH.out.okP L memL
      have ndL := HH.out.ndP L memL
      have beld : Below w.heap.size w wr.drew := bel.drew
      have hd := hr.below (Below.refl _ wr).drew
      obtain ⟨au, cu, eu, hru, _⟩ := (HH.out.lists i u L hu hL).open okL
      have hdz : B ≤ wr.drew.heap.size := Nat.le_trans hB beld.size
      obtain ⟨ev, cv2, lv, qv, y1, y2, y3, y4, f0, f1, f2, f3, fs, d1, d2, d3, t4, hd4, hr5, hbl⟩ := past_runs hd hdz (cn := cu) (hru.below beld) okL ndL hln (by rw [List.length_take]; omega)
      obtain ⟨bo, oo, ea, hcell⟩ : ∃ b o, ap = some ⟨b, o, none⟩ ∧ ∀ j u, us[j]? = some u → w.cell? ⟨b, o + j, none⟩ = some u := by
        rcases HV.out with q | ⟨b, o, e, hc⟩
        · rw [q] at hu; simp at hu
        · exact ⟨b, o, e, hc⟩
      subst ea
      have hcu := hcell i u hu
      have lbo := block_lt_of_cell hcu
      have fge : w.heap.size ≤ f := HRB.out f (Or.inl rfl)
      have vge : ∀ j, vq.ownBlock = some j → w.heap.size ≤ j := fun j hj => HRB.out j (Or.inr (Or.inr (Or.inl hj)))
      have B4 : Below w.heap.size w y4 := beld.trans (t4.below beld.size vge)
      have B5 : Below w.heap.size w (y4.setCell ⟨f, 1, none⟩ qv) := B4.setCell (p := ⟨f, 1, none⟩) fge qv
      have c1d := HC1.out _ beld
      have hs1 := beld.trans (d1.mono beld.size)
      have hs2 := beld.trans (d2.mono beld.size)
      have hs3 := beld.trans (d3.mono beld.size)
      obtain ⟨y5, hy5⟩ : ∃ y5, y4.setCell ⟨f, 1, none⟩ qv = y5 := ⟨_, rfl⟩
      rw [hy5] at fs hr5 B5
      obtain ⟨aq, cq, eq, _⟩ := hd.past.open
      have lf : ∀ W, Below wr.drew.heap.size wr.drew W → (Instr.loadAt 84 (.pointer (some ⟨f, 1, none⟩))).run Try.prog W = .ok vq W := fun W b => by
        have hc := cell_of_row _ _ 1 _ _ _ ((b.block f (Array.getElem?_eq_some_iff.1 hd.cell).1).trans hd.cell)
        have hc2 : W.cell? ⟨f, 1, none⟩ = some vq := hc
        rw [eq] at hc2 ⊢
        go_simp
      have HF0 := hidMk f0
      have HF1 := hidMk f1
      have HF2 := hidMk f2
      have HF3 := hidMk f3
      have HFS := hidMk fs
      have HR5 := hidMk hr5
      have HB5 := hidMk B5
      have HBL := hidMk hbl
      have HLF := hidMk lf
      have HTK := hidMk (show PL.take (i + 1) = PL.take i ++ [L] by rw [List.take_add_one, hL]; rfl)
      have HSS := hidMk (And.intro hs1 (And.intro hs2 (And.intro hs3 (And.intro B4 (And.intro B5 beld)))))
      have HD := hidMk (And.intro d1 (And.intro d2 d3))
      have HGE := hidMk (And.intro hcu lbo)
      clear hd hru memL okL ndL hln f0 f1 f2 f3 fs d1 d2 d3 t4 hd4 hr5 hbl hcell hcu B4 B5 c1d hs1 hs2 hs3 hy5 lf vge eq hr hrb bel hdz
      go_upto_region 7 with fail
      refine rfork7 d f (.pointer (some ⟨f, 1, none⟩)) (.pointer (some ⟨d, 1, none⟩)) (.slice (some ⟨bo, oo, none⟩) m cp) (.int .i64 (i : Int)) (.pointer (some ⟨bo, oo + i, none⟩)) (.slice au L.length cu) vq ev cv2 lv qv y1 y2 y3 y4 y5 (fun W => Below w.heap.size w W) _ wr _ rfl rfl rfl rfl (fun W => by go_simp) (fun W => by go_simp) (fun W hw => by have := HC1.out _ hw; go_simp) (fun W => ix_past hi (by omega) W) ?_ HSS.out.2.2.2.2.2 HSS.out.1 HSS.out.2.1 HSS.out.2.2.1 HSS.out.2.2.2.1 HSS.out.2.2.2.2.1 (HLF.out _ (Below.refl _ _)) (HLF.out _ HD.out.1) (HLF.out _ HD.out.2.1) (HLF.out _ HD.out.2.2) HF0.out HF1.out HF2.out HF3.out HFS.out ?_ ?_ ?_ ?_
      · intro W hw
        have hc : W.cell? ⟨bo, oo + i, none⟩ = some (.slice au L.length cu) := by rw [← eu]; exact (hw.cell (p := ⟨bo, oo + i, none⟩) HGE.out.2).trans HGE.out.1
        go_simp
      all_goals
        intro a' w' hw' ha
        obtain rfl : y5 = w' := hw'.symm
        subst ha
        simp only [Act.put, List.setIfInBounds_toArray, List.set_cons_zero, List.set_cons_succ]
        go_wp2
        rw [show ((i : Int) + 1) = ((i + 1 : Nat) : Int) by omega]
        refine ⟨⟨i + 1, qv, uq ++ [cv2], rfl, hi, ?_, HB5.out, fun j hj => ?_⟩, ?_⟩
        · rw [HTK.out]; exact HR5.out
        · rcases HBL.out j hj with q | q
          · exact HRB.out j q
          · exact Nat.le_trans beld.size q
        · show m - ((i + 1 : Nat) : Int).toNat < m - (i : Int).toNat
          omega
    · obtain rfl : i = m := by omega
      clear hm him hi hr bel hrb
      go_wp2
      go_ret
      refine ⟨f, cv, vq, uq, rfl, ?_, HBEL.out, HRB.out⟩
      have := HR.out
      rwa [List.take_of_length_le (by rw [← HH.out.len, HM.out]; exact Nat.le_refl _)] at this
theorem OwnV.front {w : World} {B : Nat} {e : TypeId} {v : Value} {X : List Value} {y : Value} (h : OwnV w B e v (X ++ [y])) :
    ∃ g c, v = .slice (some ⟨g, 0, none⟩) (X.length + 1) c ∧ X.length + 1 ≤ c ∧ OwnV w B e (.slice (some ⟨g, 0, none⟩) X.length c) X ∧ w.cell? ⟨g, X.length, none⟩ = some y := by
  rcases h.2 with ⟨_, hn⟩ | ⟨g, cap, cur, rfl, hbg, hg, hnc, hcm, hcs, htake⟩
  · simp at hn
  · have hl : (X ++ [y]).length = X.length + 1 := by simp
    rw [hl] at hnc htake ⊢
    refine ⟨g, cap, rfl, hnc, ⟨by simp, Or.inr ⟨g, cap, cur, rfl, hbg, hg, by omega, hcm, hcs, ?_⟩⟩, ?_⟩
    · have q := congrArg (List.take X.length) htake
      rw [List.take_take, Nat.mul_one, Nat.min_eq_left (Nat.le_succ _), List.take_left] at q
      rw [Nat.mul_one]
      exact q
    · rw [cell_of_row w g _ cur e (0, 0) hg]
      have : (X ++ [y])[X.length]? = some y := by simp
      rw [← htake, List.getElem?_take] at this
      split at this
      · simpa using this
      · cases this
theorem rundo_no {B : Nat} {w : World} {d : Nat} {NL : List RN} {PL : List (List RN)} {vn vp : Value} {us : List Value} (h : RefP B w d NL PL vn vp us) (z : Int) (hz : z < 1 ∨ z ≠ (PL.length : Int)) :
    Calls Try.prog 72 #[.pointer (some ⟨d, 0, none⟩), .int .i64 z] w fun e w' => e = .returned (.int .i64 2) ∧ Below w.heap.size w w' := by
  obtain ⟨a, c, e, _⟩ := h.past.open
  rw [h.len] at e
  subst e
  have hd := h.cell
  generalize PL.length = n at *
  have C1 : w.cell? ⟨d, 1, none⟩ = some (.slice a n c) := by rw [cell_of_row _ _ 1 _ _ _ hd]; rfl
  clear hd h
  go_enter Try.func72, Try.ntmps72
  by_cases h1 : z < 1
  · clear hz
    go_wp2
    go_ret
    exact ⟨rfl, Below.refl _ _⟩
  · have h2 : z ≠ (n : Int) := by rcases hz with q | q; · exact absurd q h1
                                  · exact q
    clear hz
    go_wp2
    go_ret
    exact ⟨rfl, Below.refl _ _⟩
theorem rundo_ok {B : Nat} {w : World} {d : Nat} {NL L : List RN} {P0 : List (List RN)} {vn vp : Value} {us : List Value} (h : RefP B w d NL (P0 ++ [L]) vn vp us) (hn : P0.length ≤ 1300000000000) :
    Calls Try.prog 72 #[.pointer (some ⟨d, 0, none⟩), .int .i64 ((P0.length + 1 : Nat) : Int)] w fun e w' => e = .returned (.int .i64 0) ∧ ∃ u vp' us0, us = us0 ++ [u] ∧ RefP B w' d L P0 u vp' us0 ∧ Tch (fun j => j = d) w w' ∧ vp'.ownBlock = vp.ownBlock := by
  obtain ⟨us0, u, rfl⟩ : ∃ us0 u, us = us0 ++ [u] := by
    rcases List.eq_nil_or_concat us with rfl | ⟨a, b, e⟩
    · have := h.len; simp at this
    · exact ⟨a, b, by simpa using e⟩
  have l0 : us0.length = P0.length := by have := h.len; simp at this; exact this
  obtain ⟨g, c, rfl, hle, own0, cu⟩ := h.past.front
  have hu : OwnN w B u L := h.lists us0.length u L (by simp) (by rw [l0]; simp)
  obtain ⟨au, cu', eu, _⟩ := hu.open (h.okP L (by simp))
  have fin : RefP B ((w.setCell ⟨d, 0, none⟩ u).setCell ⟨d, 1, none⟩ (.slice (some ⟨g, 0, none⟩) us0.length c)) d L P0 u (.slice (some ⟨g, 0, none⟩) us0.length c) us0 ∧ Tch (fun j => j = d) w ((w.setCell ⟨d, 0, none⟩ u).setCell ⟨d, 1, none⟩ (.slice (some ⟨g, 0, none⟩) us0.length c)) := by
    have t := (set_tch w d 0 u).trans (set_tch (w.setCell ⟨d, 0, none⟩ u) d 1 (.slice (some ⟨g, 0, none⟩) us0.length c))
    have hc := set_ref1 (set_ref0 h.cell u) (.slice (some ⟨g, 0, none⟩) us0.length c)
    generalize (w.setCell ⟨d, 0, none⟩ u).setCell ⟨d, 1, none⟩ (.slice (some ⟨g, 0, none⟩) us0.length c) = W at *
    have k : ∀ (v : Value) (M : List RN), OwnN w B v M → OwnN W B v M := fun v M q => q.keep fun j hj => t.block j (by obtain ⟨_, c, q⟩ := q.ge j hj; exact (Array.getElem?_eq_some_iff.1 q).1) (fun e => nodes_not h.cell q (by rw [← e]; exact hj))
    have e1 : ∀ (i : Nat) v, us0[i]? = some v → (us0 ++ [u])[i]? = some v ∧ i ≠ us0.length := fun i v hv => by
      have hi := (List.getElem?_eq_some_iff.1 hv).1
      exact ⟨by rw [List.getElem?_append_left hi]; exact hv, by omega⟩
    have e2 : ∀ (i : Nat) P, P0[i]? = some P → (P0 ++ [L])[i]? = some P := fun i P hP => by
      have hi := (List.getElem?_eq_some_iff.1 hP).1
      rw [List.getElem?_append_left hi]; exact hP
    refine ⟨⟨hc, k _ _ hu, own0.keep fun j hj => t.block j (by obtain ⟨_, c, q⟩ := own0.ge j hj; exact (Array.getElem?_eq_some_iff.1 q).1) (fun e => past_not h.cell own0 (by rw [← e]; exact hj)), l0, fun i v P hv hP => k _ _ (h.lists i v P (e1 i v hv).1 (e2 i P hP)), h.dB, fun i v j hv hj => ?_, fun i i' v v' j hv hv' hne hj => h.ap2 i i' v v' j (e1 i v hv).1 (e1 i' v' hv').1 hne hj, h.okP L (by simp), fun P hP => h.okP P (by simp [hP]), h.ndP L (by simp), fun P hP => h.ndP P (by simp [hP])⟩, t⟩
    exact h.ap2 i us0.length v u j (e1 i v hv).1 (by simp) (e1 i v hv).2 hj
  have hd := h.cell
  have hd1 := set_ref0 h.cell u
  rw [eu] at fin hd1 cu
  rw [l0] at fin cu hd hd1
  have HF := hidMk fin
  have C1 : w.cell? ⟨d, 1, none⟩ = some (.slice (some ⟨g, 0, none⟩) (P0.length + 1) c) := by rw [cell_of_row _ _ 1 _ _ _ hd]; rfl
  have C0 : w.cell? ⟨d, 0, none⟩ = some vn := by rw [cell_of_row _ _ 0 _ _ _ hd]; rfl
  have F0 := frozen_of_row w d 0 _ _ hd
  have D1 : (w.setCell ⟨d, 0, none⟩ (.slice au L.length cu')).cell? ⟨d, 1, none⟩ = some (.slice (some ⟨g, 0, none⟩) (P0.length + 1) c) := by rw [cell_of_row _ _ 1 _ _ _ hd1]; rfl
  have G1 := frozen_of_row _ d 1 _ _ hd1
  rw [l0] at hle
  clear hd hd1 fin h own0 hu
  obtain ⟨n, hnn⟩ : ∃ n, P0.length = n := ⟨_, rfl⟩
  have HN := hidMk hnn
  rw [hnn] at hn hle HF C1 D1 cu ⊢
  clear hnn
  go_enter Try.func72, Try.ntmps72
  go_upto_region 6 with fail
  clear C1 C0 F0 cu
  go_wp2
  go_ret
  exact ⟨rfl, _, _, us0, by rw [eu], HF.out.1, HF.out.2, rfl⟩
theorem exec_b3 {P : Program} {w : World} {a : Act} {o : Oper} {t : TypeId} {x y z : Operand} {xv yv zv v : Value} (ho : o.op = .build t #[(0, x), (1, y), (2, z)]) (hx : a.eval x = xv) (hy : a.eval y = yv) (hz : a.eval z = zv) (hl : (Instr.build t #[(0, xv), (1, yv), (2, zv)]).run P w = .ok v w) : (execOp a.eval o).run P w = .ok (.value v) w :=
  exec_build ho (by simp [hx, hy, hz]) hl
def rgrow10_o0 : Oper := ⟨some 32, .move (.tmp 0), 27, "ref.go:72", #[], none⟩
def rgrow10_o1 : Oper := ⟨some 33, .move (.tmp 0), 27, "ref.go:72", #[], none⟩
def rgrow10_o2 : Oper := ⟨some 34, .nilCheck (.tmp 33), 0, "ref.go:72", #[⟨1, .data⟩], none⟩
def rgrow10_o3 : Oper := ⟨some 35, .fieldAddr 86 (.tmp 34) 0, 0, "ref.go:72", #[⟨2, .data⟩], none⟩
def rgrow10_o4 : Oper := ⟨some 36, .load 83 (.tmp 35), 83, "ref.go:72", #[⟨3, .data⟩], none⟩
def rgrow10_o5 : Oper := ⟨some 37, .load 37 (.tmp 5), 37, "ref.go:72", #[], none⟩
def rgrow10_o6 : Oper := ⟨some 38, .load 37 (.tmp 6), 37, "ref.go:72", #[], none⟩
def rgrow10_o7 : Oper := ⟨some 39, .move (.tmp 3), 9, "ref.go:72", #[], none⟩
def rgrow10_o8 : Oper := ⟨some 40, .build 114 #[(0, .tmp 37), (1, .tmp 38), (2, .tmp 39)], 114, "ref.go:72", #[⟨5, .data⟩, ⟨6, .data⟩, ⟨7, .data⟩], none⟩
def rgrow10_o9 : Oper := ⟨some 41, .buildSlice 83 1 #[(0, .tmp 40)], 83, "ref.go:72", #[⟨8, .data⟩], none⟩
def rgrow10_o10 : Oper := ⟨some 42, .call { callee := Callee.builtin Builtin.append, args := #[.tmp 36, .tmp 41], argTypes := #[83, 83] }, 83, "ref.go:72", #[⟨4, .data⟩, ⟨9, .data⟩], none⟩
def rgrow10_o11 : Oper := ⟨some 43, .nilCheck (.tmp 32), 0, "ref.go:72", #[⟨0, .data⟩, ⟨0, .phase⟩, ⟨1, .phase⟩, ⟨2, .phase⟩, ⟨3, .phase⟩, ⟨4, .phase⟩, ⟨5, .phase⟩, ⟨6, .phase⟩, ⟨7, .phase⟩, ⟨8, .phase⟩, ⟨9, .phase⟩, ⟨10, .phase⟩], none⟩
def rgrow10_o12 : Oper := ⟨some 44, .fieldAddr 86 (.tmp 43) 0, 0, "ref.go:72", #[⟨11, .data⟩, ⟨0, .phase⟩, ⟨1, .phase⟩, ⟨2, .phase⟩, ⟨3, .phase⟩, ⟨4, .phase⟩, ⟨5, .phase⟩, ⟨6, .phase⟩, ⟨7, .phase⟩, ⟨8, .phase⟩, ⟨9, .phase⟩, ⟨10, .phase⟩], none⟩
def rgrow10_o13 : Oper := ⟨none, .store 83 (.tmp 44) (.tmp 42), 0, "ref.go:72", #[⟨12, .data⟩, ⟨10, .data⟩, ⟨10, .chain⟩, ⟨0, .phase⟩, ⟨1, .phase⟩, ⟨2, .phase⟩, ⟨3, .phase⟩, ⟨4, .phase⟩, ⟨5, .phase⟩, ⟨6, .phase⟩, ⟨7, .phase⟩, ⟨8, .phase⟩, ⟨9, .phase⟩, ⟨10, .phase⟩], none⟩
def rgrow10_ops : Array Oper := #[rgrow10_o0, rgrow10_o1, rgrow10_o2, rgrow10_o3, rgrow10_o4, rgrow10_o5, rgrow10_o6, rgrow10_o7, rgrow10_o8, rgrow10_o9, rgrow10_o10, rgrow10_o11, rgrow10_o12, rgrow10_o13]
theorem rgrow10 (d : Nat) (f0 pkv pu kv uv sv xv nv lv qv : Value) (w1 w2 w3 : World) (S : World → Prop) (a : Act) (w : World) (Q : Exit → Act → World → Prop) (hsz : a.tmps.size = 45)
    (t0 : a.tmps.getD 0 undef = .pointer (some ⟨d, 0, none⟩))
    (t3 : a.tmps.getD 3 undef = sv)
    (t5 : a.tmps.getD 5 undef = pkv)
    (t6 : a.tmps.getD 6 undef = pu)
    (GF0 : ∀ W, (Instr.fieldAt 86 (.pointer (some ⟨d, 0, none⟩)) 0).run Try.prog W = .ok f0 W) (GB : ∀ W, (Instr.build 114 #[(0, kv), (1, uv), (2, sv)]).run Try.prog W = .ok xv W)
    (GK : ∀ W, S W → (Instr.loadAt 37 pkv).run Try.prog W = .ok kv W) (GU : ∀ W, S W → (Instr.loadAt 37 pu).run Try.prog W = .ok uv W)
    (S0 : S w.drew) (S1 : S w1) (S2 : S w2) (S3 : S w3)
    (K0 : (Instr.loadAt 83 f0).run Try.prog w.drew = .ok nv w.drew) (K1 : (Instr.loadAt 83 f0).run Try.prog w1 = .ok nv w1)
    (EB : (Instr.buildSlice 83 1 #[(0, xv)]).run Try.prog w.drew = .ok lv w1) (EA : (Builtin.append_ #[83, 83] 83 #[nv, lv]).run Try.prog w1 = .ok qv w2) (ES : (Instr.storeAt 83 f0 qv).run Try.prog w2 = .ok () w3)
    (h1 : ∀ (a' : Act) (w' : World), w' = w3 → a' = (((((((((((((a).put (some 32) (.pointer (some ⟨d, 0, none⟩))).put (some 33) (.pointer (some ⟨d, 0, none⟩))).put (some 34) (.pointer (some ⟨d, 0, none⟩))).put (some 35) (f0)).put (some 37) (kv)).put (some 38) (uv)).put (some 39) (sv)).put (some 40) (xv)).put (some 36) (nv)).put (some 41) (lv)).put (some 42) (qv)).put (some 43) (.pointer (some ⟨d, 0, none⟩))).put (some 44) (f0) → Q .normal a' w')
    (h2 : ∀ (a' : Act) (w' : World), w' = w3 → a' = (((((((((((((a).put (some 32) (.pointer (some ⟨d, 0, none⟩))).put (some 33) (.pointer (some ⟨d, 0, none⟩))).put (some 34) (.pointer (some ⟨d, 0, none⟩))).put (some 35) (f0)).put (some 37) (kv)).put (some 38) (uv)).put (some 39) (sv)).put (some 40) (xv)).put (some 41) (lv)).put (some 36) (nv)).put (some 42) (qv)).put (some 43) (.pointer (some ⟨d, 0, none⟩))).put (some 44) (f0) → Q .normal a' w') :
    (Code.region 10 rgrow10_ops true).wp Try.prog Q a w := by
  refine wp_region_noPanic ?_
  refine wp_region_held_drew (S := fun w' => S w') (by kernel_rfl) (S0) (fun hHeld => ?_)
  refine tk 0 rgrow10_o0 (.pointer (some ⟨d, 0, none⟩)) (by rfl) (fun w1 hw => exec_move rfl t0) hHeld (fun a1 e1 => ?_)
  rw [← e1] at h1 h2
  have z1 := pz e1 hsz
  replace t0 := pk e1 t0
  replace t3 := pk e1 t3
  replace t5 := pk e1 t5
  replace t6 := pk e1 t6
  have t32 := pq e1 hsz
  clear e1 hsz
  refine tk 1 rgrow10_o1 (.pointer (some ⟨d, 0, none⟩)) (by rfl) (fun w1 hw => exec_move rfl t0) hHeld (fun a2 e2 => ?_)
  rw [← e2] at h1 h2
  have z2 := pz e2 z1
  clear t0
  replace t3 := pk e2 t3
  replace t5 := pk e2 t5
  replace t6 := pk e2 t6
  replace t32 := pk e2 t32
  have t33 := pq e2 z1
  clear e2 z1
  refine tk 2 rgrow10_o2 (.pointer (some ⟨d, 0, none⟩)) (by rfl) (fun w1 hw => exec_nilCheck rfl t33) hHeld (fun a3 e3 => ?_)
  rw [← e3] at h1 h2
  have z3 := pz e3 z2
  replace t3 := pk e3 t3
  replace t5 := pk e3 t5
  replace t6 := pk e3 t6
  replace t32 := pk e3 t32
  clear t33
  have t34 := pq e3 z2
  clear e3 z2
  refine tk 3 rgrow10_o3 (f0) (by rfl) (fun w1 hw => exec_fieldAt rfl t34 (GF0 _)) hHeld (fun a4 e4 => ?_)
  rw [← e4] at h1 h2
  have z4 := pz e4 z3
  replace t3 := pk e4 t3
  replace t5 := pk e4 t5
  replace t6 := pk e4 t6
  replace t32 := pk e4 t32
  clear t34
  have t35 := pq e4 z3
  clear e4 z3
  refine tk 5 rgrow10_o5 (kv) (by rfl) (fun w1 hw => exec_load rfl t5 (GK _ hw)) hHeld (fun a5 e5 => ?_)
  rw [← e5] at h1 h2
  have z5 := pz e5 z4
  replace t3 := pk e5 t3
  clear t5
  replace t6 := pk e5 t6
  replace t32 := pk e5 t32
  replace t35 := pk e5 t35
  have t37 := pq e5 z4
  clear e5 z4
  refine tk 6 rgrow10_o6 (uv) (by rfl) (fun w1 hw => exec_load rfl t6 (GU _ hw)) hHeld (fun a6 e6 => ?_)
  rw [← e6] at h1 h2
  have z6 := pz e6 z5
  replace t3 := pk e6 t3
  clear t6
  replace t32 := pk e6 t32
  replace t35 := pk e6 t35
  replace t37 := pk e6 t37
  have t38 := pq e6 z5
  clear e6 z5
  refine tk 7 rgrow10_o7 (sv) (by rfl) (fun w1 hw => exec_move rfl t3) hHeld (fun a7 e7 => ?_)
  rw [← e7] at h1 h2
  have z7 := pz e7 z6
  clear t3
  replace t32 := pk e7 t32
  replace t35 := pk e7 t35
  replace t37 := pk e7 t37
  replace t38 := pk e7 t38
  have t39 := pq e7 z6
  clear e7 z6
  refine tk 8 rgrow10_o8 (xv) (by rfl) (fun w1 hw => exec_b3 rfl t37 t38 t39 (GB _)) hHeld (fun a8 e8 => ?_)
  rw [← e8] at h1 h2
  have z8 := pz e8 z7
  replace t32 := pk e8 t32
  replace t35 := pk e8 t35
  clear t37
  clear t38
  clear t39
  have t40 := pq e8 z7
  clear e8 z7
  refine wpAnyH_ready (rs := [4, 9]) (by kernel_rfl) (by simp) ?_
  refine AllReadyH.cons (o := rgrow10_o4) rfl (fun K hK => ?_) (AllReadyH.cons (o := rgrow10_o9) rfl (fun K hK => ?_) (AllReadyH.nil))
  · clear h2
    skip
    have X := exec_load (P := Try.prog) (a := a8) (o := rgrow10_o4) rfl t35 K0
    rw [if_pos (by rfl), Oper.wp, X]
    show K _ _
    clear X
    refine hK.out _ _ (S0) (fun hHeld => ?_)
    clear hK K
    change wpAnyH _ _ _ _ _ _ _ (a8.put (some 36) (nv)) _
    obtain ⟨a9, e9⟩ : ∃ act, act = a8.put (some 36) (nv) := ⟨_, rfl⟩
    rw [← e9] at h1 ⊢
    have z9 := pz e9 z8
    replace t32 := pk e9 t32
    clear t35
    replace t40 := pk e9 t40
    have t36 := pq e9 z8
    clear e9 z8
    refine wpAnyH_ready (rs := [9]) (by kernel_rfl) (by simp) ?_
    refine AllReadyH.cons (o := rgrow10_o9) rfl (fun K hK => ?_) AllReadyH.nil
    skip
    have X := exec_buildSlice (P := Try.prog) (a := a9) (o := rgrow10_o9) rfl t40 EB
    rw [if_pos (by rfl), Oper.wp, X]
    show K _ _
    clear X
    refine hK.out _ _ (S1) (fun hHeld => ?_)
    clear hK K
    change wpAnyH _ _ _ _ _ _ _ (a9.put (some 41) (lv)) _
    obtain ⟨a10, e10⟩ : ∃ act, act = a9.put (some 41) (lv) := ⟨_, rfl⟩
    rw [← e10] at h1 ⊢
    have z10 := pz e10 z9
    replace t32 := pk e10 t32
    clear t40
    replace t36 := pk e10 t36
    have t41 := pq e10 z9
    clear e10 z9
    refine wpAnyH_ready (rs := [10]) (by kernel_rfl) (by simp) ?_
    refine AllReadyH.cons (o := rgrow10_o10) rfl (fun K hK => ?_) AllReadyH.nil
    skip
    have X := exec_append (P := Try.prog) (a := a10) (o := rgrow10_o10) rfl t36 t41 EA
    rw [if_pos (by rfl), Oper.wp, X]
    show K _ _
    clear X
    refine hK.out _ _ (S2) (fun hHeld => ?_)
    clear hK K
    change wpAnyH _ _ _ _ _ _ _ (a10.put (some 42) (qv)) _
    obtain ⟨a11, e11⟩ : ∃ act, act = a10.put (some 42) (qv) := ⟨_, rfl⟩
    rw [← e11] at h1 ⊢
    have z11 := pz e11 z10
    replace t32 := pk e11 t32
    clear t36
    clear t41
    have t42 := pq e11 z10
    clear e11 z10
    refine tk 11 rgrow10_o11 (.pointer (some ⟨d, 0, none⟩)) (by rfl) (fun w1 hw => exec_nilCheck rfl t32) hHeld (fun a12 e12 => ?_)
    rw [← e12] at h1
    have z12 := pz e12 z11
    clear t32
    replace t42 := pk e12 t42
    have t43 := pq e12 z11
    clear e12 z11
    refine tk 12 rgrow10_o12 (f0) (by rfl) (fun w1 hw => exec_fieldAt rfl t43 (GF0 _)) hHeld (fun a13 e13 => ?_)
    rw [← e13] at h1
    have z13 := pz e13 z12
    replace t42 := pk e13 t42
    clear t43
    have t44 := pq e13 z12
    clear e13 z12
    refine wpAnyH_ready (rs := [13]) (by kernel_rfl) (by simp) ?_
    refine AllReadyH.cons (o := rgrow10_o13) rfl (fun K hK => ?_) AllReadyH.nil
    skip
    have X := exec_store (P := Try.prog) (a := a13) (o := rgrow10_o13) rfl t44 t42 ES
    rw [if_pos (by rfl), Oper.wp, X]
    show K _ _
    clear X
    refine hK.out _ _ (S3) (fun hHeld => ?_)
    clear hK K
    exact wpAnyH_done (by kernel_rfl) (NoPanic.normal (h1 _ _ (rfl) rfl)) _
  · clear h1
    skip
    have X := exec_buildSlice (P := Try.prog) (a := a8) (o := rgrow10_o9) rfl t40 EB
    rw [if_pos (by rfl), Oper.wp, X]
    show K _ _
    clear X
    refine hK.out _ _ (S1) (fun hHeld => ?_)
    clear hK K
    change wpAnyH _ _ _ _ _ _ _ (a8.put (some 41) (lv)) _
    obtain ⟨a15, e15⟩ : ∃ act, act = a8.put (some 41) (lv) := ⟨_, rfl⟩
    rw [← e15] at h2 ⊢
    have z15 := pz e15 z8
    replace t32 := pk e15 t32
    replace t35 := pk e15 t35
    clear t40
    have t41 := pq e15 z8
    clear e15 z8
    refine wpAnyH_ready (rs := [4]) (by kernel_rfl) (by simp) ?_
    refine AllReadyH.cons (o := rgrow10_o4) rfl (fun K hK => ?_) AllReadyH.nil
    skip
    have X := exec_load (P := Try.prog) (a := a15) (o := rgrow10_o4) rfl t35 K1
    rw [if_pos (by rfl), Oper.wp, X]
    show K _ _
    clear X
    refine hK.out _ _ (S1) (fun hHeld => ?_)
    clear hK K
    change wpAnyH _ _ _ _ _ _ _ (a15.put (some 36) (nv)) _
    obtain ⟨a16, e16⟩ : ∃ act, act = a15.put (some 36) (nv) := ⟨_, rfl⟩
    rw [← e16] at h2 ⊢
    have z16 := pz e16 z15
    replace t32 := pk e16 t32
    clear t35
    replace t41 := pk e16 t41
    have t36 := pq e16 z15
    clear e16 z15
    refine wpAnyH_ready (rs := [10]) (by kernel_rfl) (by simp) ?_
    refine AllReadyH.cons (o := rgrow10_o10) rfl (fun K hK => ?_) AllReadyH.nil
    skip
    have X := exec_append (P := Try.prog) (a := a16) (o := rgrow10_o10) rfl t36 t41 EA
    rw [if_pos (by rfl), Oper.wp, X]
    show K _ _
    clear X
    refine hK.out _ _ (S2) (fun hHeld => ?_)
    clear hK K
    change wpAnyH _ _ _ _ _ _ _ (a16.put (some 42) (qv)) _
    obtain ⟨a17, e17⟩ : ∃ act, act = a16.put (some 42) (qv) := ⟨_, rfl⟩
    rw [← e17] at h2 ⊢
    have z17 := pz e17 z16
    replace t32 := pk e17 t32
    clear t41
    clear t36
    have t42 := pq e17 z16
    clear e17 z16
    refine tk 11 rgrow10_o11 (.pointer (some ⟨d, 0, none⟩)) (by rfl) (fun w1 hw => exec_nilCheck rfl t32) hHeld (fun a18 e18 => ?_)
    rw [← e18] at h2
    have z18 := pz e18 z17
    clear t32
    replace t42 := pk e18 t42
    have t43 := pq e18 z17
    clear e18 z17
    refine tk 12 rgrow10_o12 (f0) (by rfl) (fun w1 hw => exec_fieldAt rfl t43 (GF0 _)) hHeld (fun a19 e19 => ?_)
    rw [← e19] at h2
    have z19 := pz e19 z18
    replace t42 := pk e19 t42
    clear t43
    have t44 := pq e19 z18
    clear e19 z18
    refine wpAnyH_ready (rs := [13]) (by kernel_rfl) (by simp) ?_
    refine AllReadyH.cons (o := rgrow10_o13) rfl (fun K hK => ?_) AllReadyH.nil
    skip
    have X := exec_store (P := Try.prog) (a := a19) (o := rgrow10_o13) rfl t44 t42 ES
    rw [if_pos (by rfl), Oper.wp, X]
    show K _ _
    clear X
    refine hK.out _ _ (S3) (fun hHeld => ?_)
    clear hK K
    exact wpAnyH_done (by kernel_rfl) (NoPanic.normal (h2 _ _ (rfl) rfl)) _
end Go.Proofs.Ytoofljkgdjjllaa
namespace Go.Proofs.Ytoofljkgdjjllaa
open Go.RowKit
set_option linter.unusedVariables false
set_option linter.unusedSimpArgs false
set_option linter.unusedSectionVars false
section
variable (d : Nat) (NL : List RN) (pv : Value) (k u : IdK) (key : ByteArray) (w : World) (h : RefAt w d NL pv) (hk : k.ok) (hu : u.ok) (hn : NL.length ≤ 1300000000000)
include h hk hu hn
theorem rgrow_zero (hz : k = zId) : Calls Try.prog 30 #[.pointer (some ⟨d, 0, none⟩), k.v, u.v, .string key] w fun e w' => e = .returned (.int .i64 2) ∧ Below w.heap.size w w' := by
  have hq : ∀ w : World, (binOp .eql 37 k.v zId.v).run Try.prog w = .ok (.bool true) w := fun w => by rw [eql_id k zId hk zId_ok, decide_eq_true hz]
  clear hz h hn
  unfold IdK.v
  go_enter Try.func30, Try.ntmps30
  go_upto_region 1 with fail
  obtain ⟨hx, hy, bx, zx⟩ := two_boxes w k u
  generalize (w.alloc (.cells k.c.toArray 37)).alloc (.cells u.c.toArray 37) = W at *
  go_wp2_with (first
    | (refine wpList_val rfl (exec_load rfl rfl (load_id hk hx)) ?_)
    | (refine wpList_val rfl (exec_build0 rfl (build_id _)) ?_)
    | (refine wpList_val rfl (exec_binOp rfl rfl rfl (guard_id _ _ k zId _ _) (hq _)) ?_)
    | fail)
  go_ret
  exact ⟨rfl, bx⟩
theorem rgrow_known (hz : k ≠ zId) (hh : (lookN NL k).isSome = true) : Calls Try.prog 30 #[.pointer (some ⟨d, 0, none⟩), k.v, u.v, .string key] w fun e w' => e = .returned (.int .i64 5) ∧ Below w.heap.size w w' := by
  have hq : ∀ w : World, (binOp .eql 37 k.v zId.v).run Try.prog w = .ok (.bool false) w := fun w => by rw [eql_id k zId hk zId_ok, decide_eq_false hz]
  have H1 : Hid (∀ W, Below w.heap.size w W → Calls Try.prog 74 #[.pointer (some ⟨d, 0, none⟩), k.v] W fun e w' => e = .returned (.bool true) ∧ Below W.heap.size W w') := fun W b => by
    have := rhas_any d NL pv k W (h.below b) hk hn
    rwa [hh] at this
  clear hz hh h hn
  unfold IdK.v
  go_enter Try.func30, Try.ntmps30
  go_upto_region 1 with fail
  obtain ⟨hx, hy, bx, zx⟩ := two_boxes w k u
  generalize (w.alloc (.cells k.c.toArray 37)).alloc (.cells u.c.toArray 37) = W at *
  go_wp2_with (first
    | (refine wpList_val rfl (exec_load rfl rfl (load_id hk hx)) ?_)
    | (refine wpList_val rfl (exec_build0 rfl (build_id _)) ?_)
    | (refine wpList_val rfl (exec_binOp rfl rfl rfl (guard_id _ _ k zId _ _) (hq _)) ?_)
    | (go_at_call 74; refine (H1.out _ bx).mono ?_; rintro e w' ⟨rfl, b'⟩)
    | fail)
  go_ret
  exact ⟨rfl, bx.trans (b'.mono (by omega))⟩
theorem rgrow_none (hz : k ≠ zId) (hh : (lookN NL k).isSome = false) (hb : Bears (lookN NL) u = false) : Calls Try.prog 30 #[.pointer (some ⟨d, 0, none⟩), k.v, u.v, .string key] w fun e w' => e = .returned (.int .i64 4) ∧ Below w.heap.size w w' := by
  have hb2 : u ≠ zId ∧ (lookN NL u).isSome = false := by simpa [Bears] using hb
  have hq : ∀ w : World, (binOp .eql 37 k.v zId.v).run Try.prog w = .ok (.bool false) w := fun w => by rw [eql_id k zId hk zId_ok, decide_eq_false hz]
  have hq2 : ∀ w : World, (binOp .neq 37 u.v zId.v).run Try.prog w = .ok (.bool true) w := fun w => by rw [neq_id u zId hu zId_ok, decide_eq_false hb2.1]; rfl
  have H1 : Hid (∀ W, Below w.heap.size w W → Calls Try.prog 74 #[.pointer (some ⟨d, 0, none⟩), k.v] W fun e w' => e = .returned (.bool false) ∧ Below W.heap.size W w') := fun W b => by
    have := rhas_any d NL pv k W (h.below b) hk hn
    rwa [hh] at this
  have H2 : Hid (∀ W, Below w.heap.size w W → Calls Try.prog 74 #[.pointer (some ⟨d, 0, none⟩), u.v] W fun e w' => e = .returned (.bool false) ∧ Below W.heap.size W w') := fun W b => by
    have := rhas_any d NL pv u W (h.below b) hu hn
    rwa [hb2.2] at this
  clear hz hh h hn hb hb2
  unfold IdK.v
  go_enter Try.func30, Try.ntmps30
  go_upto_region 1 with fail
  obtain ⟨hx, hy, bx, zx⟩ := two_boxes w k u
  have ZX := hidMk zx
  clear zx
  generalize (w.alloc (.cells k.c.toArray 37)).alloc (.cells u.c.toArray 37) = W at *
  have HX := hidMk (load_id hk hx)
  go_wp2_with (first
    | (refine wpList_val rfl (exec_load (t := 37) (u := .pointer (some ⟨w.heap.size, 0, none⟩)) rfl rfl HX.out) ?_)
    | (refine wpList_val rfl (exec_load (t := 37) (u := .pointer (some ⟨w.heap.size + 1, 0, none⟩)) rfl rfl HY.out) ?_)
    | (refine wpList_val rfl (exec_build0 rfl (build_id _)) ?_)
    | (refine wpList_val rfl (exec_binOp rfl rfl rfl (guard_id _ _ k zId _ _) (hq _)) ?_)
    | (refine wpList_val rfl (exec_binOp rfl rfl rfl (guard_id _ _ u zId _ _) (hq2 _)) ?_)
    | (go_at_call 74; refine (H1.out _ bx).mono ?_; rintro e w1 ⟨rfl, b1⟩; have HY := hidMk (load_id hu ((b1.block _ (by have := ZX.out; omega)).trans hy)); clear H1)
    | (go_at_call 74; refine (H2.out _ (bx.trans (b1.mono bx.size))).mono ?_; rintro e w2 ⟨rfl, b2⟩)
    | fail)
  go_ret
  have c1 := bx.trans (b1.mono bx.size)
  exact ⟨rfl, c1.trans (b2.mono c1.size)⟩
end
end Go.Proofs.Ytoofljkgdjjllaa
namespace Go.Proofs.Ytoofljkgdjjllaa
open Go.RowKit
set_option linter.unusedVariables false
set_option linter.unusedSimpArgs false
section
variable {B : Nat} {w : World} {d : Nat} {NL : List RN} {PL : List (List RN)} {vn vp : Value} {us : List Value}
theorem RefP.nodes' (h : RefP B w d NL PL vn vp us) {W : World} {qv : Value} {NL' : List RN} (t : Tch (fun j => j = d ∨ vn.ownBlock = some j) w W) (hc : W.heap[d]? = some (.cells #[qv, vp] 86 (0, 0))) (ho : OwnN W B qv NL')
    (hq : ∀ j, qv.ownBlock = some j → vn.ownBlock = some j ∨ w.heap.size ≤ j) (ok : ∀ p ∈ NL', RnOk p) (nd : (NL'.map (·.1)).Nodup) : RefP B W d NL' PL qv vp us ∧ (∀ j, refB d qv vp us j → refB d vn vp us j ∨ w.heap.size ≤ j) := by
  have lu : ∀ (i : Nat) u j, us[i]? = some u → u.ownBlock = some j → j < w.heap.size := fun i u j hu hj => (h.ge j (Or.inr (Or.inr (Or.inr ⟨i, u, hu, hj⟩)))).2
  refine ⟨⟨hc, ho, h.past.keep fun j hj => t.block j ?_ ?_, h.len, fun i u P hu hP => (h.lists i u P hu hP).keep fun j hj => t.block j (lu i u j hu hj) ?_, h.dB, fun i u j hu hj => ?_, h.ap2, ok, h.okP, nd, h.ndP⟩, fun j hj => ?_⟩
  · obtain ⟨_, c, q⟩ := h.past.ge j hj; exact (Array.getElem?_eq_some_iff.1 q).1
  · rintro (rfl | q)
    · exact past_not h.cell h.past hj
    · exact nodes_past h.nodes h.past q hj
  · rintro (rfl | q)
    · exact nodes_not h.cell (h.lists i u P hu hP) hj
    · exact h.ap i u j hu hj q
  · intro q
    rcases hq j q with e | e
    · exact h.ap i u j hu hj e
    · have := lu i u j hu hj; omega
  · rcases hj with rfl | q | q | q
    · exact Or.inl (Or.inl rfl)
    · rcases hq j q with e | e
      · exact Or.inl (Or.inr (Or.inl e))
      · exact Or.inr e
    · exact Or.inl (Or.inr (Or.inr (Or.inl q)))
    · exact Or.inl (Or.inr (Or.inr (Or.inr q)))
theorem more_runs (h : RefP B w d NL PL vn vp us) (hB : B ≤ w.heap.size) (hn : NL.length ≤ 1300000000000) (p : RN) (hp : RnOk p) (hk : p.1 ∉ NL.map (·.1)) :
    ∃ (lv qv : Value) (w1 w2 : World), (Instr.buildSlice 83 1 #[(0, .agg (rnC p).toArray)]).run Try.prog w = .ok lv w1 ∧ (Builtin.append_ #[83, 83] 83 #[vn, lv]).run Try.prog w1 = .ok qv w2 ∧
      (Instr.storeAt 83 (.pointer (some ⟨d, 0, none⟩)) qv).run Try.prog w2 = .ok () (w2.setCell ⟨d, 0, none⟩ qv) ∧ Below w.heap.size w w1 ∧ Tch (fun j => vn.ownBlock = some j) w w2 ∧ Tch (fun j => j = d ∨ vn.ownBlock = some j) w (w2.setCell ⟨d, 0, none⟩ qv) ∧
      RefP B (w2.setCell ⟨d, 0, none⟩ qv) d (NL ++ [p]) PL qv vp us ∧ (∀ j, refB d qv vp us j → refB d vn vp us j ∨ w.heap.size ≤ j) := by
  have ld := (Array.getElem?_eq_some_iff.1 h.cell).1
  have e1 := run_bsN p hp w
  have r1 := rns_lit w p 114
  have b1 : Below w.heap.size w (w.alloc (.cells (rnC p).toArray 114)) := (Below.refl _ _).alloc (Nat.le_refl _) _
  generalize w.alloc (.cells (rnC p).toArray 114) = w1 at *
  have z1 := b1.size
  obtain ⟨qv, w2, e2, own2, g2, o2⟩ := run_appN w1 B vn NL _ [p] 1 (h.nodes.below b1) r1 (by simpa using hp) (by simp; omega) (by omega)
  have t2 : Tch (fun j => vn.ownBlock = some j) w w2 := Tch.trans ⟨b1.os, b1.tape, b1.output, b1.size, fun j hj _ => b1.block j hj⟩ ⟨g2.os, g2.tape, g2.output, g2.size, fun j hj hO => g2.block j hj (fun q => hO q.symm)⟩
  have hd2 : w2.heap[d]? = some (.cells #[vn, vp] 86 (0, 0)) := (t2.block d ld (nodes_not h.cell h.nodes)).trans h.cell
  have okN : ∀ x ∈ NL ++ [p], RnOk x := fun x hx => by
    rcases List.mem_append.1 hx with q | q
    · exact h.ok x q
    · simp at q; subst q; exact hp
  obtain ⟨a2, c2, eqv, _⟩ := own2.open okN
  have es := store_ref0 a2 (NL ++ [p]).length c2 hd2
  rw [← eqv] at es
  have ts := set_tch w2 d 0 qv
  have t3 : Tch (fun j => j = d ∨ vn.ownBlock = some j) w (w2.setCell ⟨d, 0, none⟩ qv) := (t2.mono fun k _ q => Or.inr q).trans (ts.mono fun k _ q => Or.inl q)
  have oqv : ∀ j, qv.ownBlock = some j → vn.ownBlock = some j ∨ w.heap.size ≤ j := by
    intro j hj
    rcases o2 with q | q
    · exact Or.inl (by rw [← q]; exact hj)
    · rw [q] at hj; simp at hj; exact Or.inr (by omega)
  have own3 : OwnN (w2.setCell ⟨d, 0, none⟩ qv) B qv (NL ++ [p]) := own2.keep fun j hj => ts.block j (by obtain ⟨_, c, q⟩ := own2.ge j hj; exact (Array.getElem?_eq_some_iff.1 q).1) (fun e => nodes_not hd2 own2 (by rw [← e]; exact hj))
  obtain ⟨hr, hb⟩ := h.nodes' t3 (set_ref0 hd2 qv) own3 oqv okN (by
    rw [List.map_append, List.nodup_append]
    refine ⟨h.nd, by simp, fun a ha b hb e => ?_⟩
    simp at hb
    subst hb e
    exact hk ha)
  exact ⟨_, qv, w1, w2, e1, e2, es, b1, t2, t3, hr, hb⟩
theorem other_runs (h : RefP B w d NL PL vn vp us) (i : Nat) (hi : i < NL.length) (p : RN) (hp : RnOk p) (hk : (NL.map (·.1))[i]? = some p.1) :
    ∃ g c w1, vn = .slice (some ⟨g, 0, none⟩) NL.length c ∧ (Instr.storeAt 114 (.pointer (some ⟨g, i * 68, none⟩)) (.agg (rnC p).toArray)).run Try.prog w = .ok () w1 ∧ Tch (fun j => vn.ownBlock = some j) w w1 ∧ RefP B w1 d (NL.set i p) PL vn vp us := by
  obtain ⟨g, c, e, hg, w1, e1, own1, t1, z1⟩ := own_setN h.nodes h.ok hi hp
  have ld := (Array.getElem?_eq_some_iff.1 h.cell).1
  refine ⟨g, c, w1, e, e1, t1, (h.nodes' (t1.mono fun k _ q => Or.inr q) ((t1.block d ld (nodes_not h.cell h.nodes)).trans h.cell) own1 (fun j hj => Or.inl hj) (fun x hx => ?_) ?_).1⟩
  · rcases List.mem_or_eq_of_mem_set hx with q | rfl
    · exact h.ok x q
    · exact hp
  · have : (NL.set i p).map (·.1) = NL.map (·.1) := by
      rw [List.map_set]
      obtain ⟨hl, hv⟩ := List.getElem?_eq_some_iff.1 hk
      rw [← hv, List.set_getElem_self]
    rw [this]
    exact h.nd
end
def RStep (B : Nat) (w : World) (d : Nat) (NL : List RN) (PL : List (List RN)) (vn vp : Value) (us : List Value) (k : IdK) (n : NodeV) (c : Int) (e : Ending) (w' : World) : Prop :=
  (c ≠ 0 ∧ e = .returned (.int .i64 c) ∧ Below w.heap.size w w') ∨ (c = 0 ∧ e = .returned (.int .i64 0) ∧ ∃ vn' vp' us', RefP B w' d (M.put NL k n) (PL ++ [NL]) vn' vp' us' ∧ Tch (fun j => refB d vn vp us j) w w' ∧ ∀ j, refB d vn' vp' us' j → refB d vn vp us j ∨ w.heap.size ≤ j)
theorem put_none {NL : List RN} {k : IdK} (h : lookN NL k = none) (n : NodeV) : M.put NL k n = NL ++ [(k, n)] := by
  unfold M.put
  cases hf : M.fnd NL k 0 with
  | none => rfl
  | some q => unfold lookN M.look at h; rw [hf] at h; cases h
theorem put_some {NL : List RN} {k : IdK} {m : NodeV} (h : lookN NL k = some m) (n : NodeV) : ∃ j : Nat, fPos NL k = (j : Int) ∧ NL[j]? = some (k, m) ∧ j < NL.length ∧ M.put NL k n = NL.set j (k, n) := by
  unfold M.put fPos
  unfold lookN M.look at h
  cases hf : M.fnd NL k 0 with
  | none => rw [hf] at h; cases h
  | some q =>
    obtain ⟨j, m'⟩ := q
    rw [hf] at h
    cases h
    have := M.fnd_some hf
    exact ⟨j, rfl, this.1, this.2, rfl⟩
theorem look_no {NL : List RN} {k : IdK} (h : lookN NL k = none) : k ∉ NL.map (·.1) := by
  intro hm
  obtain ⟨p, hp, e⟩ := List.mem_map.1 hm
  unfold lookN M.look at h
  cases hf : M.fnd NL k 0 with
  | some q => rw [hf] at h; cases h
  | none =>
    clear h hm
    have : ∀ (E : List RN) (i : Nat), M.fnd E k i = none → ∀ p ∈ E, p.1 ≠ k := by
      intro E
      induction E with
      | nil => intro i _ p hp; cases hp
      | cons q E ih =>
        intro i hq p hp
        unfold M.fnd at hq
        split at hq
        · cases hq
        · next hne =>
          rcases List.mem_cons.1 hp with rfl | hp
          · exact fun e => hne e.symm
          · exact ih _ hq p hp
    exact this NL 0 hf p hp e
structure Pl where
  x : Nat
  s : Tr
  H : List Rec
  f : Fn
  d : Nat
  NL : List RN
  PL : List (List RN)
  vn : Value
  vp : Value
  us : List Value
  bv : Value
  BL : List (Option Nat)
  sv : Value
  SL : List Int
def bkV : Option Nat → Value
  | none => .pointer none
  | some b => .pointer (some ⟨b, 0, none⟩)
def inV (z : Int) : Value := .int .i64 z
structure PS (B : Nat) (g : Nat → Nat) (w : World) (p : Pl) : Prop where
  own : Own B w p.s p.H p.f
  ref : RefP B w p.d p.NL p.PL p.vn p.vp p.us
  cell : w.heap[p.x]? = some (.cells #[.pointer (some ⟨p.s.t, 0, none⟩), .pointer (some ⟨p.d, 0, none⟩), p.bv, p.sv] 32 (0, 0))
  backs : OwnV w B 45 p.bv (p.BL.map bkV)
  steps : OwnV w B 3 p.sv (p.SL.map inV)
  bk : ∀ b, some b ∈ p.BL → g b = 2 ∧ ∃ c, w.heap[b]? = some (.cells c 103 (0, 0))
  g1 : ∀ j ∈ p.s.bl, g j = 1
  g2 : ∀ r ∈ p.H, ∀ b ∈ r.bl, g b = 2
  g3 : ∀ j, refB p.d p.vn p.vp p.us j → g j = 3
  g4 : ∀ j, (j = p.x ∨ p.bv.ownBlock = some j ∨ p.sv.ownBlock = some j) → g j = 4
  gz : ∀ j, w.heap.size ≤ j → g j = 0
  gB : ∀ j, g j ≠ 0 → B ≤ j
def Mut (g : Nat → Nat) (j : Nat) : Prop := g j = 1 ∨ g j = 3 ∨ g j = 4
def Ext (w : World) (g g' : Nat → Nat) : Prop := ∀ j, j < w.heap.size → g' j = g j
theorem Ext.refl (w : World) (g : Nat → Nat) : Ext w g g := fun _ _ => rfl
theorem Ext.trans {w w' : World} {g g' g'' : Nat → Nat} (h : Ext w g g') (h' : Ext w' g' g'') (z : w.heap.size ≤ w'.heap.size) : Ext w g g'' := fun j hj => (h' j (by omega)).trans (h j hj)
theorem mut_ext {w w1 w2 : World} {g g' : Nat → Nat} (h : Ext w g g') (t : Tch (Mut g) w w1) (t2 : Tch (Mut g') w1 w2) : Tch (Mut g) w w2 :=
  t.trans' t2 fun i hi q => by unfold Mut at q ⊢; rwa [h i hi] at q
section
variable {B : Nat} {g : Nat → Nat} {w w' : World} {p : Pl}
theorem PS.lt (h : PS B g w p) {j : Nat} (q : g j ≠ 0) : j < w.heap.size := by
  rcases Nat.lt_or_ge j w.heap.size with hl | hl
  · exact hl
  · exact absurd (h.gz j hl) q
theorem PS.keep {Q : Nat → Prop} (h : PS B g w p) (t : Tch Q w w') (hQ : ∀ j, g j ≠ 0 → ¬ Q j) : PS B g w' p := by
  have k : ∀ j, g j ≠ 0 → w'.heap[j]? = w.heap[j]? := fun j q => t.block j (h.lt q) (hQ j q)
  have n1 : ∀ {j}, g j = 1 → g j ≠ 0 := fun q e => by rw [q] at e; cases e
  have n2 : ∀ {j}, g j = 2 → g j ≠ 0 := fun q e => by rw [q] at e; cases e
  have n3 : ∀ {j}, g j = 3 → g j ≠ 0 := fun q e => by rw [q] at e; cases e
  have n4 : ∀ {j}, g j = 4 → g j ≠ 0 := fun q e => by rw [q] at e; cases e
  exact ⟨h.own.keep t (fun j hj => hQ j (n1 (h.g1 j hj))) (fun r hr b hb => hQ b (n2 (h.g2 r hr b hb))), h.ref.keep t (fun j hj => hQ j (n3 (h.g3 j hj))), (k _ (n4 (h.g4 _ (Or.inl rfl)))).trans h.cell,
    h.backs.keep fun j hj => k j (n4 (h.g4 j (Or.inr (Or.inl hj)))), h.steps.keep fun j hj => k j (n4 (h.g4 j (Or.inr (Or.inr hj)))), fun b hb => ⟨(h.bk b hb).1, by obtain ⟨q, c, hc⟩ := h.bk b hb; exact ⟨c, (k b (n2 q)).trans hc⟩⟩,
    h.g1, h.g2, h.g3, h.g4, fun j hj => h.gz j (Nat.le_trans t.size hj), h.gB⟩
theorem PS.below (h : PS B g w p) (b : Below w.heap.size w w') : PS B g w' p :=
  h.keep (Q := fun _ => False) ⟨b.os, b.tape, b.output, b.size, fun k hk _ => b.block k hk⟩ fun _ _ q => q
def newG (w w' : World) (g : Nat → Nat) (m : Nat → Nat) (j : Nat) : Nat := if j < w.heap.size then g j else if j < w'.heap.size then m j else 0
theorem newG_old {g m : Nat → Nat} {j : Nat} (h : j < w.heap.size) : newG w w' g m j = g j := by unfold newG; rw [if_pos h]
theorem newG_new {g m : Nat → Nat} {j : Nat} (h : w.heap.size ≤ j) (h' : j < w'.heap.size) : newG w w' g m j = m j := by unfold newG; rw [if_neg (by omega), if_pos h']
theorem newG_ext (w w' : World) (g m : Nat → Nat) : Ext w g (newG w w' g m) := fun j hj => newG_old hj
theorem newG_z {g m : Nat → Nat} (hs : w.heap.size ≤ w'.heap.size) : ∀ j, w'.heap.size ≤ j → newG w w' g m j = 0 := fun j hj => by unfold newG; rw [if_neg (by omega), if_neg (by omega)]
theorem newG_B {g m : Nat → Nat} (h : ∀ j, g j ≠ 0 → B ≤ j) (hB : B ≤ w.heap.size) : ∀ j, newG w w' g m j ≠ 0 → B ≤ j := fun j hj => by
  rcases Nat.lt_or_ge j w.heap.size with hl | hl
  · rw [newG_old hl] at hj; exact h j hj
  · omega
theorem PS.done (h : PS B g w p) (hB : B ≤ w.heap.size) {k : IdK} {n : NodeV} {e : Ending} {s' : Tr} {r : Rec} (hd : Done B w p.s p.H p.f k n e w' s' r) :
    ∃ g', Ext w g g' ∧ Tch (Mut g) w w' ∧ PS B g' w' { p with s := s', H := r :: p.H, f := upd p.f k (some n) } ∧ w.heap.size ≤ r.bk := by
  have t := hd.tch
  have hs := t.size
  have no : ∀ j, g j ≠ 1 → j ∉ p.s.bl := fun j q hj => q (h.g1 j hj)
  have k' : ∀ j, g j ≠ 0 → g j ≠ 1 → w'.heap[j]? = w.heap[j]? := fun j q q1 => t.block j (h.lt q) (no j q1)
  have ex := newG_ext w w' g (fun j => if j ∈ r.bl then 2 else 1)
  have old : ∀ j, g j ≠ 0 → newG w w' g (fun j => if j ∈ r.bl then 2 else 1) j = g j := fun j q => newG_old (h.lt q)
  have hap := hd.own.tree.apart r (List.mem_cons_self ..)
  have o4 : ∀ j, g j = 4 → w'.heap[j]? = w.heap[j]? := fun j q => k' j (by rw [q]; decide) (by rw [q]; decide)
  refine ⟨newG w w' g (fun j => if j ∈ r.bl then 2 else 1), ex, t.mono fun j _ hj => Or.inl (h.g1 j hj), ⟨hd.own, h.ref.keep t fun j hj => no j (by rw [h.g3 j hj]; decide), ?_, h.backs.keep fun j hj => o4 j (h.g4 j (Or.inr (Or.inl hj))), h.steps.keep fun j hj => o4 j (h.g4 j (Or.inr (Or.inr hj))), fun b hb => ?_, fun j hj => ?_, fun q hq b hb => ?_, fun j hj => ?_, fun j hj => ?_, newG_z hs, newG_B h.gB hB⟩, hd.rb r.bk (by simp [Rec.bl])⟩
  · simp only
    rw [hd.t]
    exact (o4 _ (h.g4 _ (Or.inl rfl))).trans h.cell
  · obtain ⟨q, c, hc⟩ := h.bk b hb
    exact ⟨by rw [old b (by rw [q]; decide)]; exact q, c, (k' b (by rw [q]; decide) (by rw [q]; decide)).trans hc⟩
  · rcases hd.bl j hj with q | q
    · have := h.g1 j q
      rw [old j (by rw [this]; decide)]; exact this
    · rw [newG_new q (hd.own.tree.tr.lt j hj), if_neg (fun e => hap j e hj)]
  · rcases List.mem_cons.1 hq with rfl | hq
    · rw [newG_new (hd.rb b hb) (hd.own.tree.hist.lt _ (List.mem_cons_self ..) b hb), if_pos hb]
    · have := h.g2 q hq b hb
      rw [old b (by rw [this]; decide)]; exact this
  · have := h.g3 j hj
    rw [old j (by rw [this]; decide)]; exact this
  · have := h.g4 j hj
    rw [old j (by rw [this]; decide)]; exact this
theorem PS.undone (h : PS B g w p) (hB : B ≤ w.heap.size) {H' : List Rec} {r : Rec} (hH : p.H = r :: H') {f' : Fn} {e : Ending} (hu : UndoneP B w p.s H' f' e w') :
    e = .returned (.int .i64 0) ∧ ∃ g' s', s'.t = p.s.t ∧ Ext w g g' ∧ Tch (Mut g) w w' ∧ PS B g' w' { p with s := s', H := H', f := f' } := by
  obtain ⟨he, s', ho, ht, t, hbl⟩ := hu
  have hs := t.size
  have no : ∀ j, g j ≠ 1 → j ∉ p.s.bl := fun j q hj => q (h.g1 j hj)
  have k' : ∀ j, g j ≠ 0 → g j ≠ 1 → w'.heap[j]? = w.heap[j]? := fun j q q1 => t.block j (h.lt q) (no j q1)
  have old : ∀ j, g j ≠ 0 → newG w w' g (fun _ => 1) j = g j := fun j q => newG_old (h.lt q)
  have o4 : ∀ j, g j = 4 → w'.heap[j]? = w.heap[j]? := fun j q => k' j (by rw [q]; decide) (by rw [q]; decide)
  refine ⟨he, newG w w' g (fun _ => 1), s', ht, newG_ext _ _ _ _, t.mono fun j _ hj => Or.inl (h.g1 j hj), ⟨ho, h.ref.keep t fun j hj => no j (by rw [h.g3 j hj]; decide), ?_, h.backs.keep fun j hj => o4 j (h.g4 j (Or.inr (Or.inl hj))), h.steps.keep fun j hj => o4 j (h.g4 j (Or.inr (Or.inr hj))), fun b hb => ?_, fun j hj => ?_, fun q hq b hb => ?_, fun j hj => ?_, fun j hj => ?_, newG_z hs, newG_B h.gB hB⟩⟩
  · simp only
    rw [ht]
    exact (o4 _ (h.g4 _ (Or.inl rfl))).trans h.cell
  · obtain ⟨q, c, hc⟩ := h.bk b hb
    exact ⟨by rw [old b (by rw [q]; decide)]; exact q, c, (k' b (by rw [q]; decide) (by rw [q]; decide)).trans hc⟩
  · rcases hbl j hj with q | q
    · have := h.g1 j q
      rw [old j (by rw [this]; decide)]; exact this
    · rw [newG_new q (ho.tree.tr.lt j hj)]
  · have := h.g2 q (by rw [hH]; exact List.mem_cons_of_mem _ hq) b hb
    rw [old b (by rw [this]; decide)]; exact this
  · have := h.g3 j hj
    rw [old j (by rw [this]; decide)]; exact this
  · have := h.g4 j hj
    rw [old j (by rw [this]; decide)]; exact this
theorem PS.refd (h : PS B g w p) (hB : B ≤ w.heap.size) {NL' : List RN} {PL' : List (List RN)} {vn' vp' : Value} {us' : List Value} (hr : RefP B w' p.d NL' PL' vn' vp' us') (t : Tch (fun j => refB p.d p.vn p.vp p.us j) w w') (hb' : ∀ j, refB p.d vn' vp' us' j → refB p.d p.vn p.vp p.us j ∨ w.heap.size ≤ j) :
    ∃ g', Ext w g g' ∧ Tch (Mut g) w w' ∧ PS B g' w' { p with NL := NL', PL := PL', vn := vn', vp := vp', us := us' } := by
  have hs := t.size
  have no : ∀ j, g j ≠ 3 → ¬ refB p.d p.vn p.vp p.us j := fun j q hj => q (h.g3 j hj)
  have k' : ∀ j, g j ≠ 0 → g j ≠ 3 → w'.heap[j]? = w.heap[j]? := fun j q q1 => t.block j (h.lt q) (no j q1)
  have old : ∀ j, g j ≠ 0 → newG w w' g (fun _ => 3) j = g j := fun j q => newG_old (h.lt q)
  have o4 : ∀ j, g j = 4 → w'.heap[j]? = w.heap[j]? := fun j q => k' j (by rw [q]; decide) (by rw [q]; decide)
  refine ⟨newG w w' g (fun _ => 3), newG_ext _ _ _ _, t.mono fun j _ hj => Or.inr (Or.inl (h.g3 j hj)), ⟨h.own.keep t (fun j hj => no j (by rw [h.g1 j hj]; decide)) (fun r hr b hb => no b (by rw [h.g2 r hr b hb]; decide)), hr, (o4 _ (h.g4 _ (Or.inl rfl))).trans h.cell, h.backs.keep fun j hj => o4 j (h.g4 j (Or.inr (Or.inl hj))), h.steps.keep fun j hj => o4 j (h.g4 j (Or.inr (Or.inr hj))), fun b hb => ?_, fun j hj => ?_, fun q hq b hb => ?_, fun j hj => ?_, fun j hj => ?_, newG_z hs, newG_B h.gB hB⟩⟩
  · obtain ⟨q, c, hc⟩ := h.bk b hb
    exact ⟨by rw [old b (by rw [q]; decide)]; exact q, c, (k' b (by rw [q]; decide) (by rw [q]; decide)).trans hc⟩
  · have := h.g1 j hj
    rw [old j (by rw [this]; decide)]; exact this
  · have := h.g2 q hq b hb
    rw [old b (by rw [this]; decide)]; exact this
  · rcases hb' j hj with q | q
    · have := h.g3 j q
      rw [old j (by rw [this]; decide)]; exact this
    · rw [newG_new q (hr.ge j hj).2]
  · have := h.g4 j hj
    rw [old j (by rw [this]; decide)]; exact this
theorem PS.lists (h : PS B g w p) (hB : B ≤ w.heap.size) {bv' : Value} {BL' : List (Option Nat)} {sv' : Value} {SL' : List Int} (t : Tch (fun j => j = p.x ∨ p.bv.ownBlock = some j ∨ p.sv.ownBlock = some j) w w')
    (hc : w'.heap[p.x]? = some (.cells #[.pointer (some ⟨p.s.t, 0, none⟩), .pointer (some ⟨p.d, 0, none⟩), bv', sv'] 32 (0, 0))) (h1 : OwnV w' B 45 bv' (BL'.map bkV)) (h2 : OwnV w' B 3 sv' (SL'.map inV))
    (hb1 : ∀ j, bv'.ownBlock = some j → (j = p.x ∨ p.bv.ownBlock = some j ∨ p.sv.ownBlock = some j) ∨ w.heap.size ≤ j) (hb2 : ∀ j, sv'.ownBlock = some j → (j = p.x ∨ p.bv.ownBlock = some j ∨ p.sv.ownBlock = some j) ∨ w.heap.size ≤ j)
    (hb : ∀ b, some b ∈ BL' → some b ∈ p.BL ∨ (g b = 2 ∧ ∃ c, w.heap[b]? = some (.cells c 103 (0, 0)))) :
    ∃ g', Ext w g g' ∧ Tch (Mut g) w w' ∧ PS B g' w' { p with bv := bv', BL := BL', sv := sv', SL := SL' } := by
  have hs := t.size
  have no : ∀ j, g j ≠ 4 → ¬ (j = p.x ∨ p.bv.ownBlock = some j ∨ p.sv.ownBlock = some j) := fun j q hj => q (h.g4 j hj)
  have k' : ∀ j, g j ≠ 0 → g j ≠ 4 → w'.heap[j]? = w.heap[j]? := fun j q q1 => t.block j (h.lt q) (no j q1)
  have old : ∀ j, g j ≠ 0 → newG w w' g (fun _ => 4) j = g j := fun j q => newG_old (h.lt q)
  refine ⟨newG w w' g (fun _ => 4), newG_ext _ _ _ _, t.mono fun j _ hj => Or.inr (Or.inr (h.g4 j hj)), ⟨h.own.keep t (fun j hj => no j (by rw [h.g1 j hj]; decide)) (fun r hr b hb => no b (by rw [h.g2 r hr b hb]; decide)), h.ref.keep t (fun j hj => no j (by rw [h.g3 j hj]; decide)), hc, h1, h2, fun b hb0 => ?_, fun j hj => ?_, fun q hq b hb => ?_, fun j hj => ?_, fun j hj => ?_, newG_z hs, newG_B h.gB hB⟩⟩
  · have : g b = 2 ∧ ∃ c, w.heap[b]? = some (.cells c 103 (0, 0)) := by
      rcases hb b hb0 with q | q
      · exact h.bk b q
      · exact q
    obtain ⟨q, c, hc⟩ := this
    exact ⟨by rw [old b (by rw [q]; decide)]; exact q, c, (k' b (by rw [q]; decide) (by rw [q]; decide)).trans hc⟩
  · have := h.g1 j hj
    rw [old j (by rw [this]; decide)]; exact this
  · have := h.g2 q hq b hb
    rw [old b (by rw [this]; decide)]; exact this
  · have := h.g3 j hj
    rw [old j (by rw [this]; decide)]; exact this
  · have fin : ∀ {v : Value} {e : TypeId} {X : List Value}, OwnV w' B e v X → v.ownBlock = some j → ((j = p.x ∨ p.bv.ownBlock = some j ∨ p.sv.ownBlock = some j) ∨ w.heap.size ≤ j) → newG w w' g (fun _ => 4) j = 4 := fun o1 o2 o3 => by
      rcases o3 with q | q
      · have := h.g4 j q
        rw [old j (by rw [this]; decide)]; exact this
      · obtain ⟨_, c, hc⟩ := o1.ge j o2
        rw [newG_new q (Array.getElem?_eq_some_iff.1 hc).1]
    rcases hj with q | q | q
    · have := h.g4 j (Or.inl q)
      rw [old j (by rw [this]; decide)]; exact this
    · exact fin h1 q (hb1 j q)
    · exact fin h2 q (hb2 j q)
end
inductive HM : List Rec → Fn → List (List RN) → Prop
  | nil : HM [] (fun _ => none) []
  | step {r : Rec} {t : List Rec} {f : Fn} {P : List (List RN)} {L : List RN} : upd f r.k r.o = lookN L → Forest (lookN L) → HM t (lookN L) P → HM (r :: t) f (P ++ [L])
theorem HM.len {H : List Rec} {f : Fn} {PL : List (List RN)} (h : HM H f PL) : H.length = PL.length := by
  induction h with
  | nil => rfl
  | step _ _ _ ih => simp [ih]
theorem HM.front {r : Rec} {t : List Rec} {f : Fn} {PL : List (List RN)} (h : HM (r :: t) f PL) : ∃ P L, PL = P ++ [L] ∧ upd f r.k r.o = lookN L ∧ Forest (lookN L) ∧ HM t (lookN L) P := by
  cases h with
  | step a b c => exact ⟨_, _, rfl, a, b, c⟩
theorem upd_back {f : Fn} {k : IdK} {n : Option NodeV} : upd (upd f k n) k (f k) = f := by
  funext x
  by_cases e : x = k
  · subst e; rw [upd_same]
  · rw [upd_ne e, upd_ne e]
structure Link (p : Pl) : Prop where
  eq : lookN p.NL = p.f
  hm : HM p.H p.f p.PL
  len : p.BL.length = p.SL.length
  nd : (p.H.map (·.bk)).Nodup
  one : ∀ (i j : Nat) b, p.BL[i]? = some (some b) → p.BL[j]? = some (some b) → i = j
  hit : ∀ (i : Nat) z, p.SL[i]? = some z → (z = 0 ∧ (p.BL[i]? = some none ∨ ∃ b, p.BL[i]? = some (some b) ∧ b ∉ p.H.map (·.bk))) ∨ (∃ n : Nat, z = (n : Int) ∧ 1 ≤ n ∧ n ≤ p.H.length ∧ ∃ r, p.H[p.H.length - n]? = some r ∧ p.BL[i]? = some (some r.bk))
  all : ∀ n : Nat, 1 ≤ n → n ≤ p.H.length → ∃ i : Nat, p.SL[i]? = some (n : Int)
section
variable {p : Pl}
theorem Link.len2 (h : Link p) : p.H.length = p.PL.length := h.hm.len
theorem app_last {α : Type} {L : List α} {x y : α} {i : Nat} (h : (L ++ [x])[i]? = some y) : (i < L.length ∧ L[i]? = some y) ∨ (i = L.length ∧ y = x) := by
  by_cases hi : i < L.length
  · rw [List.getElem?_append_left hi] at h; exact Or.inl ⟨hi, h⟩
  · rw [List.getElem?_append_right (by omega)] at h
    have := (List.getElem?_eq_some_iff.1 h).1
    simp at this
    obtain rfl : i = L.length := by omega
    simp at h
    exact Or.inr ⟨rfl, h.symm⟩
theorem Link.refused (h : Link p) (bv sv : Value) : Link { p with bv := bv, BL := p.BL ++ [none], sv := sv, SL := p.SL ++ [0] } := by
  refine ⟨h.eq, h.hm, by simp [h.len], h.nd, fun i j b hi hj => ?_, fun i z hz => ?_, fun n h1 h2 => ?_⟩
  · rcases app_last hi with ⟨_, q⟩ | ⟨_, q⟩
    · rcases app_last hj with ⟨_, q'⟩ | ⟨_, q'⟩
      · exact h.one i j b q q'
      · cases q'
    · cases q
  · simp only at hz ⊢
    rcases app_last hz with ⟨hi, q⟩ | ⟨rfl, rfl⟩
    · rw [List.getElem?_append_left (by rw [h.len]; exact hi)]
      exact h.hit i z q
    · rw [← h.len]
      exact Or.inl ⟨rfl, Or.inl (by simp)⟩
  · obtain ⟨i, hi⟩ := h.all n h1 h2
    exact ⟨i, by simp only; rw [List.getElem?_append_left (List.getElem?_eq_some_iff.1 hi).1]; exact hi⟩
theorem Link.done (h : Link p) (hf : Forest p.f) {k : IdK} {n : NodeV} {r : Rec} {s' : Tr} (rk : r.k = k) (ro : r.o = p.f k) (hd : (p.NL.map (·.1)).Nodup) (h1 : ∀ q ∈ p.H, q.bk ≠ r.bk) (h2 : ∀ b, some b ∈ p.BL → b ≠ r.bk) (vn vp : Value) (us : List Value) (bv sv : Value) :
    Link { p with s := s', H := r :: p.H, f := upd p.f k (some n), NL := M.put p.NL k n, PL := p.PL ++ [p.NL], vn := vn, vp := vp, us := us, bv := bv, BL := p.BL ++ [some r.bk], sv := sv, SL := p.SL ++ [((p.PL.length + 1 : Nat) : Int)] } := by
  have hl := h.len2
  refine ⟨?_, ?_, by simp [h.len], ?_, fun i j b hi hj => ?_, fun i z hz => ?_, fun m m1 m2 => ?_⟩
  · show lookN (M.put p.NL k n) = _
    rw [look_put hd, h.eq]
  · refine HM.step ?_ (by rw [h.eq]; exact hf) (by rw [h.eq]; exact h.hm)
    rw [rk, ro, h.eq, upd_back]
  · simp only [List.map_cons, List.nodup_cons]
    refine ⟨fun hm => ?_, h.nd⟩
    obtain ⟨q, hq, e⟩ := List.mem_map.1 hm
    exact h1 q hq e
  · rcases app_last hi with ⟨_, q⟩ | ⟨e1, q⟩
    · rcases app_last hj with ⟨_, q'⟩ | ⟨_, q'⟩
      · exact h.one i j b q q'
      · exact absurd (Option.some.inj q') (h2 b (List.mem_of_getElem? q))
    · rcases app_last hj with ⟨_, q'⟩ | ⟨e2, _⟩
      · exact absurd (Option.some.inj q) (h2 b (List.mem_of_getElem? q'))
      · rw [e1, e2]
  · simp only at hz ⊢
    rcases app_last hz with ⟨hi, q⟩ | ⟨rfl, rfl⟩
    · rw [List.getElem?_append_left (by rw [h.len]; exact hi)]
      rcases h.hit i z q with ⟨z0, hb⟩ | ⟨m, zm, m1, m2, r', hr, hb⟩
      · refine Or.inl ⟨z0, hb.imp (fun q => q) ?_⟩
        rintro ⟨b, hb, hn⟩
        exact ⟨b, hb, by simp only [List.map_cons, List.mem_cons, not_or]; exact ⟨h2 b (List.mem_of_getElem? hb), hn⟩⟩
      · refine Or.inr ⟨m, zm, m1, by simp; omega, r', ?_, hb⟩
        rw [List.length_cons, show p.H.length + 1 - m = (p.H.length - m) + 1 by omega, List.getElem?_cons_succ]
        exact hr
    · refine Or.inr ⟨p.PL.length + 1, rfl, by omega, by simp; omega, r, ?_, ?_⟩
      · rw [List.length_cons, hl, Nat.sub_self]; rfl
      · rw [← h.len]; simp
  · simp only [List.length_cons] at m2
    by_cases e : m = p.PL.length + 1
    · subst e
      exact ⟨p.SL.length, by simp⟩
    · obtain ⟨i, hi⟩ := h.all m m1 (by omega)
      exact ⟨i, by simp only; rw [List.getElem?_append_left (List.getElem?_eq_some_iff.1 hi).1]; exact hi⟩
theorem Link.undone (h : Link p) {r : Rec} {H' : List Rec} (hH : p.H = r :: H') {P : List (List RN)} {L : List RN} (hP : p.PL = P ++ [L]) {i : Nat} (hi : p.SL[i]? = some ((p.PL.length : Nat) : Int)) (s' : Tr) (vn vp : Value) (us : List Value) (sv : Value) :
    Link { p with s := s', H := H', f := upd p.f r.k r.o, NL := L, PL := P, vn := vn, vp := vp, us := us, sv := sv, SL := p.SL.set i 0 } ∧ Forest (upd p.f r.k r.o) ∧ p.BL[i]? = some (some r.bk) := by
  have hl := h.len2
  have hm := h.hm
  have hnd := h.nd
  rw [hH] at hm hnd
  obtain ⟨P', L', e1, e2, e3, e4⟩ := hm.front
  rw [hP] at e1
  obtain ⟨rfl, e5⟩ := List.append_inj' e1 rfl
  obtain rfl : L = L' := by simpa using e5
  have hHl : p.H.length = H'.length + 1 := by rw [hH]; rfl
  have hPl : p.PL.length = P.length + 1 := by rw [hP]; simp
  simp only [List.map_cons, List.nodup_cons] at hnd
  have hb : p.BL[i]? = some (some r.bk) := by
    rcases h.hit i _ hi with ⟨z, _⟩ | ⟨m, zm, m1, m2, r', hr, hb⟩
    · omega
    · obtain rfl : m = p.PL.length := by omega
      rw [hl, Nat.sub_self, hH] at hr
      simp at hr
      subst hr
      exact hb
  refine ⟨⟨e2.symm, by simp only; rw [e2]; exact e4, by simp [h.len], hnd.2, h.one, fun j z hz => ?_, fun m m1 m2 => ?_⟩, by rw [e2]; exact e3, hb⟩
  · simp only at hz ⊢
    by_cases e : j = i
    · subst e
      rw [List.getElem?_set_self (List.getElem?_eq_some_iff.1 hi).1] at hz
      simp at hz
      exact Or.inl ⟨hz.symm, Or.inr ⟨r.bk, hb, hnd.1⟩⟩
    · rw [List.getElem?_set_ne (fun q => e q.symm)] at hz
      rcases h.hit j z hz with ⟨z0, hq⟩ | ⟨m, zm, m1, m2, r', hr, hq⟩
      · refine Or.inl ⟨z0, hq.imp (fun q => q) ?_⟩
        rintro ⟨b, hb, hn⟩
        rw [hH] at hn
        exact ⟨b, hb, fun q => hn (by simp only [List.map_cons, List.mem_cons]; exact Or.inr q)⟩
      · have hne : m ≠ p.H.length := by
          rintro rfl
          rw [Nat.sub_self, hH] at hr
          simp at hr
          subst hr
          exact e (h.one j i r.bk hq hb)
        refine Or.inr ⟨m, zm, m1, by omega, r', ?_, hq⟩
        rw [hH, List.length_cons, show H'.length + 1 - m = (H'.length - m) + 1 by omega, List.getElem?_cons_succ] at hr
        exact hr
  · simp only at m2 ⊢
    obtain ⟨j, hj⟩ := h.all m m1 (by omega)
    refine ⟨j, ?_⟩
    rw [List.getElem?_set_ne]
    · exact hj
    · rintro rfl
      rw [hi] at hj
      simp at hj
      omega
inductive Meets (p : Pl) (i : Nat) : Prop
  | none : p.SL[i]? = some 0 → p.BL[i]? = some none → Meets p i
  | past (b : Nat) (z : Int) : p.SL[i]? = some z → p.BL[i]? = some (some b) → some (⟨b, 0, Option.none⟩ : Addr) ≠ ptr p.H → (z < 1 ∨ z ≠ (p.PL.length : Int)) → Meets p i
  | last (r : Rec) (H' : List Rec) (P : List (List RN)) (L : List RN) : p.H = r :: H' → p.PL = P ++ [L] → p.SL[i]? = some ((p.PL.length : Nat) : Int) → p.BL[i]? = some (some r.bk) → Meets p i
theorem Link.meets (h : Link p) {i : Nat} (hi : i < p.BL.length) : Meets p i := by
  have hl := h.len2
  obtain ⟨z, hz⟩ : ∃ z, p.SL[i]? = some z := ⟨_, List.getElem?_eq_getElem (by rw [← h.len]; exact hi)⟩
  have hp : ∀ b, b ∉ p.H.map (·.bk) → some (⟨b, 0, Option.none⟩ : Addr) ≠ ptr p.H := by
    intro b hb e
    cases hH : p.H with
    | nil => rw [hH] at e; simp [ptr] at e
    | cons r t =>
      rw [hH] at e hb
      simp [ptr] at e
      exact hb (by simp [e])
  rcases h.hit i z hz with ⟨rfl, hb | ⟨b, hb, hn⟩⟩ | ⟨m, rfl, m1, m2, r, hr, hb⟩
  · exact .none hz hb
  · exact .past b 0 hz hb (hp b hn) (Or.inl (by decide))
  · by_cases e : m = p.H.length
    · subst e
      rw [Nat.sub_self] at hr
      cases hH : p.H with
      | nil => rw [hH] at hr; simp at hr
      | cons r0 t =>
        rw [hH] at hr
        simp at hr
        subst hr
        have hm := h.hm
        rw [hH] at hm
        obtain ⟨P, L, e1, _⟩ := hm.front
        exact .last r0 t P L hH e1 (by rw [← hl]; exact hz) hb
    · refine .past r.bk m hz hb ?_ (Or.inr (by omega))
      cases hH : p.H with
      | nil => rw [hH] at hr; simp at hr
      | cons r0 t =>
        have hnd := h.nd
        rw [hH] at hr hnd m2 e
        simp only [List.map_cons, List.nodup_cons] at hnd
        rw [List.length_cons] at hr m2 e
        rw [show t.length + 1 - m = (t.length - m) + 1 by omega, List.getElem?_cons_succ] at hr
        simp only [ptr]
        intro q
        injection q with q
        injection q with q
        exact hnd.1 (by rw [← q]; exact List.mem_map.2 ⟨r, List.mem_of_getElem? hr, rfl⟩)
end
theorem exec_b2 {P : Program} {w : World} {a : Act} {o : Oper} {t i j : Nat} {x y : Operand} {xv yv v : Value} (ho : o.op = .build t #[(i, x), (j, y)]) (hx : a.eval x = xv) (hy : a.eval y = yv) (hl : (Instr.build t #[(i, xv), (j, yv)]).run P w = .ok v w) : (execOp a.eval o).run P w = .ok (.value v) w :=
  exec_build ho (by simp [hx, hy]) hl
def rmove10_o0 : Oper := ⟨some 39, .move (.tmp 0), 27, "ref.go:119", #[], none⟩
def rmove10_o1 : Oper := ⟨some 40, .nilCheck (.tmp 39), 0, "ref.go:119", #[⟨0, .data⟩], none⟩
def rmove10_o2 : Oper := ⟨some 41, .fieldAddr 86 (.tmp 40) 0, 0, "ref.go:119", #[⟨1, .data⟩], none⟩
def rmove10_o3 : Oper := ⟨some 42, .load 83 (.tmp 41), 83, "ref.go:119", #[⟨2, .data⟩], none⟩
def rmove10_o4 : Oper := ⟨some 43, .move (.tmp 0), 27, "ref.go:119", #[], none⟩
def rmove10_o5 : Oper := ⟨some 44, .load 37 (.tmp 5), 37, "ref.go:119", #[], none⟩
def rmove10_o6 : Oper := ⟨some 45, .call { callee := Callee.value (Operand.func 77), args := #[.tmp 43, .tmp 44], argTypes := #[27, 37] }, 3, "ref.go:119", #[⟨4, .data⟩, ⟨5, .data⟩], none⟩
def rmove10_o7 : Oper := ⟨some 46, .load 37 (.tmp 5), 37, "ref.go:119", #[], none⟩
def rmove10_o8 : Oper := ⟨some 47, .load 37 (.tmp 6), 37, "ref.go:119", #[], none⟩
def rmove10_o9 : Oper := ⟨some 48, .move (.tmp 3), 9, "ref.go:119", #[], none⟩
def rmove10_o10 : Oper := ⟨some 49, .build 114 #[(0, .tmp 46), (1, .tmp 47), (2, .tmp 48)], 114, "ref.go:119", #[⟨7, .data⟩, ⟨8, .data⟩, ⟨9, .data⟩], none⟩
def rmove10_o11 : Oper := ⟨some 50, .indexAddr 83 (.tmp 42) (.tmp 45), 0, "ref.go:119", #[⟨3, .data⟩, ⟨6, .data⟩, ⟨0, .phase⟩, ⟨1, .phase⟩, ⟨2, .phase⟩, ⟨3, .phase⟩, ⟨4, .phase⟩, ⟨5, .phase⟩, ⟨6, .phase⟩, ⟨7, .phase⟩, ⟨8, .phase⟩, ⟨9, .phase⟩, ⟨10, .phase⟩], none⟩
def rmove10_o12 : Oper := ⟨none, .store 114 (.tmp 50) (.tmp 49), 0, "ref.go:119", #[⟨11, .data⟩, ⟨10, .data⟩, ⟨6, .chain⟩, ⟨0, .phase⟩, ⟨1, .phase⟩, ⟨2, .phase⟩, ⟨3, .phase⟩, ⟨4, .phase⟩, ⟨5, .phase⟩, ⟨6, .phase⟩, ⟨7, .phase⟩, ⟨8, .phase⟩, ⟨9, .phase⟩, ⟨10, .phase⟩], none⟩
def rmove10_ops : Array Oper := #[rmove10_o0, rmove10_o1, rmove10_o2, rmove10_o3, rmove10_o4, rmove10_o5, rmove10_o6, rmove10_o7, rmove10_o8, rmove10_o9, rmove10_o10, rmove10_o11, rmove10_o12]
theorem rmove10 (d : Nat) (f0 pkv pu kv uv sv xv nv iv pv : Value) (S C Fin : World → Prop) (a : Act) (w : World) (Q : Exit → Act → World → Prop) (hsz : a.tmps.size = 51)
    (t0 : a.tmps.getD 0 undef = .pointer (some ⟨d, 0, none⟩))
    (t3 : a.tmps.getD 3 undef = sv)
    (t5 : a.tmps.getD 5 undef = pkv)
    (t6 : a.tmps.getD 6 undef = pu)
    (GF0 : ∀ W, (Instr.fieldAt 86 (.pointer (some ⟨d, 0, none⟩)) 0).run Try.prog W = .ok f0 W) (GN : ∀ W, S W → (Instr.loadAt 83 f0).run Try.prog W = .ok nv W) (GB : ∀ W, (Instr.build 114 #[(0, kv), (1, uv), (2, sv)]).run Try.prog W = .ok xv W)
    (GK : ∀ W, S W → (Instr.loadAt 37 pkv).run Try.prog W = .ok kv W) (GU : ∀ W, S W → (Instr.loadAt 37 pu).run Try.prog W = .ok uv W) (GX : ∀ W, (Instr.indexAt 83 nv iv).run Try.prog W = .ok pv W) (S0 : S w.drew)
    (HF : Calls Try.prog 77 #[.pointer (some ⟨d, 0, none⟩), kv] w.drew fun e w' => e = .returned iv ∧ C w') (QS : ∀ W, C W → S W) (HST : ∀ W, C W → ∃ y, (Instr.storeAt 114 pv xv).run Try.prog W = .ok () y ∧ S y ∧ Fin y)
    (h1 : ∀ (a' : Act) (w' : World), Fin w' → a' = ((((((((((((a).put (some 39) (.pointer (some ⟨d, 0, none⟩))).put (some 40) (.pointer (some ⟨d, 0, none⟩))).put (some 41) (f0)).put (some 42) (nv)).put (some 43) (.pointer (some ⟨d, 0, none⟩))).put (some 44) (kv)).put (some 46) (kv)).put (some 47) (uv)).put (some 48) (sv)).put (some 49) (xv)).put (some 45) (iv)).put (some 50) (pv) → Q .normal a' w') :
    (Code.region 10 rmove10_ops true).wp Try.prog Q a w := by
  refine wp_region_noPanic ?_
  refine wp_region_held_drew (S := fun w' => S w') (by kernel_rfl) (S0) (fun hHeld => ?_)
  refine tk 0 rmove10_o0 (.pointer (some ⟨d, 0, none⟩)) (by rfl) (fun w1 hw => exec_move rfl t0) hHeld (fun a1 e1 => ?_)
  rw [← e1] at h1
  have z1 := pz e1 hsz
  replace t0 := pk e1 t0
  replace t3 := pk e1 t3
  replace t5 := pk e1 t5
  replace t6 := pk e1 t6
  have t39 := pq e1 hsz
  clear e1 hsz
  refine tk 1 rmove10_o1 (.pointer (some ⟨d, 0, none⟩)) (by rfl) (fun w1 hw => exec_nilCheck rfl t39) hHeld (fun a2 e2 => ?_)
  rw [← e2] at h1
  have z2 := pz e2 z1
  replace t0 := pk e2 t0
  replace t3 := pk e2 t3
  replace t5 := pk e2 t5
  replace t6 := pk e2 t6
  clear t39
  have t40 := pq e2 z1
  clear e2 z1
  refine tk 2 rmove10_o2 (f0) (by rfl) (fun w1 hw => exec_fieldAt rfl t40 (GF0 _)) hHeld (fun a3 e3 => ?_)
  rw [← e3] at h1
  have z3 := pz e3 z2
  replace t0 := pk e3 t0
  replace t3 := pk e3 t3
  replace t5 := pk e3 t5
  replace t6 := pk e3 t6
  clear t40
  have t41 := pq e3 z2
  clear e3 z2
  refine tk 3 rmove10_o3 (nv) (by rfl) (fun w1 hw => exec_load rfl t41 (GN _ hw)) hHeld (fun a4 e4 => ?_)
  rw [← e4] at h1
  have z4 := pz e4 z3
  replace t0 := pk e4 t0
  replace t3 := pk e4 t3
  replace t5 := pk e4 t5
  replace t6 := pk e4 t6
  clear t41
  have t42 := pq e4 z3
  clear e4 z3
  refine tk 4 rmove10_o4 (.pointer (some ⟨d, 0, none⟩)) (by rfl) (fun w1 hw => exec_move rfl t0) hHeld (fun a5 e5 => ?_)
  rw [← e5] at h1
  have z5 := pz e5 z4
  clear t0
  replace t3 := pk e5 t3
  replace t5 := pk e5 t5
  replace t6 := pk e5 t6
  replace t42 := pk e5 t42
  have t43 := pq e5 z4
  clear e5 z4
  refine tk 5 rmove10_o5 (kv) (by rfl) (fun w1 hw => exec_load rfl t5 (GK _ hw)) hHeld (fun a6 e6 => ?_)
  rw [← e6] at h1
  have z6 := pz e6 z5
  replace t3 := pk e6 t3
  replace t5 := pk e6 t5
  replace t6 := pk e6 t6
  replace t42 := pk e6 t42
  replace t43 := pk e6 t43
  have t44 := pq e6 z5
  clear e6 z5
  refine tk 7 rmove10_o7 (kv) (by rfl) (fun w1 hw => exec_load rfl t5 (GK _ hw)) hHeld (fun a7 e7 => ?_)
  rw [← e7] at h1
  have z7 := pz e7 z6
  replace t3 := pk e7 t3
  clear t5
  replace t6 := pk e7 t6
  replace t42 := pk e7 t42
  replace t43 := pk e7 t43
  replace t44 := pk e7 t44
  have t46 := pq e7 z6
  clear e7 z6
  refine tk 8 rmove10_o8 (uv) (by rfl) (fun w1 hw => exec_load rfl t6 (GU _ hw)) hHeld (fun a8 e8 => ?_)
  rw [← e8] at h1
  have z8 := pz e8 z7
  replace t3 := pk e8 t3
  clear t6
  replace t42 := pk e8 t42
  replace t43 := pk e8 t43
  replace t44 := pk e8 t44
  replace t46 := pk e8 t46
  have t47 := pq e8 z7
  clear e8 z7
  refine tk 9 rmove10_o9 (sv) (by rfl) (fun w1 hw => exec_move rfl t3) hHeld (fun a9 e9 => ?_)
  rw [← e9] at h1
  have z9 := pz e9 z8
  clear t3
  replace t42 := pk e9 t42
  replace t43 := pk e9 t43
  replace t44 := pk e9 t44
  replace t46 := pk e9 t46
  replace t47 := pk e9 t47
  have t48 := pq e9 z8
  clear e9 z8
  refine tk 10 rmove10_o10 (xv) (by rfl) (fun w1 hw => exec_b3 rfl t46 t47 t48 (GB _)) hHeld (fun a10 e10 => ?_)
  rw [← e10] at h1
  have z10 := pz e10 z9
  replace t42 := pk e10 t42
  replace t43 := pk e10 t43
  replace t44 := pk e10 t44
  clear t46
  clear t47
  clear t48
  have t49 := pq e10 z9
  clear e10 z9
  refine wpAnyH_ready (rs := [6]) (by kernel_rfl) (by simp) ?_
  refine AllReadyH.cons (o := rmove10_o6) rfl (fun K hK => ?_) AllReadyH.nil
  rw [if_pos (by rfl)]
  unfold rmove10_o6 at hK ⊢
  go_simp
  refine (HF).mono ?_
  rintro e x11 ⟨rfl, qC⟩
  try go_wp2_with fail
  obtain ⟨y, ES, Sy, Fy⟩ := HST x11 qC
  refine hK.out _ _ (QS _ qC) (fun hHeld => ?_)
  clear hK K
  change wpAnyH _ _ _ _ _ _ _ (a10.put (some 45) (iv)) _
  obtain ⟨a11, e11⟩ : ∃ act, act = a10.put (some 45) (iv) := ⟨_, rfl⟩
  rw [← e11] at h1 ⊢
  have z11 := pz e11 z10
  replace t42 := pk e11 t42
  clear t43
  clear t44
  replace t49 := pk e11 t49
  have t45 := pq e11 z10
  clear e11 z10
  refine tk 11 rmove10_o11 (pv) (by rfl) (fun w1 hw => exec_indexAt rfl t42 t45 (GX _)) hHeld (fun a12 e12 => ?_)
  rw [← e12] at h1
  have z12 := pz e12 z11
  clear t42
  replace t49 := pk e12 t49
  clear t45
  have t50 := pq e12 z11
  clear e12 z11
  refine wpAnyH_ready (rs := [12]) (by kernel_rfl) (by simp) ?_
  refine AllReadyH.cons (o := rmove10_o12) rfl (fun K hK => ?_) AllReadyH.nil
  skip
  have X := exec_store (P := Try.prog) (a := a12) (o := rmove10_o12) rfl t50 t49 ES
  rw [if_pos (by rfl), Oper.wp, X]
  show K _ _
  clear X
  refine hK.out _ _ (Sy) (fun hHeld => ?_)
  clear hK K
  exact wpAnyH_done (by kernel_rfl) (NoPanic.normal (h1 _ _ (Fy) rfl)) _
def rprune7_o0 : Oper := ⟨some 25, .move (.tmp 0), 27, "ref.go:132", #[], none⟩
def rprune7_o1 : Oper := ⟨some 26, .nilCheck (.tmp 25), 0, "ref.go:132", #[⟨0, .data⟩], none⟩
def rprune7_o2 : Oper := ⟨some 27, .fieldAddr 86 (.tmp 26) 0, 0, "ref.go:132", #[⟨1, .data⟩], none⟩
def rprune7_o3 : Oper := ⟨some 28, .load 83 (.tmp 27), 83, "ref.go:132", #[⟨2, .data⟩], none⟩
def rprune7_o4 : Oper := ⟨some 29, .move (.tmp 5), 3, "ref.go:132", #[], none⟩
def rprune7_o5 : Oper := ⟨some 30, .load 37 (.tmp 3), 37, "ref.go:132", #[], none⟩
def rprune7_o6 : Oper := ⟨some 31, .build 114 #[(0, .tmp 30), (3, Operand.const (Value.bool true))], 114, "ref.go:132", #[⟨5, .data⟩], none⟩
def rprune7_o7 : Oper := ⟨some 32, .indexAddr 83 (.tmp 28) (.tmp 29), 0, "ref.go:132", #[⟨3, .data⟩, ⟨4, .data⟩, ⟨0, .phase⟩, ⟨1, .phase⟩, ⟨2, .phase⟩, ⟨3, .phase⟩, ⟨4, .phase⟩, ⟨5, .phase⟩, ⟨6, .phase⟩], none⟩
def rprune7_o8 : Oper := ⟨none, .store 114 (.tmp 32) (.tmp 31), 0, "ref.go:132", #[⟨7, .data⟩, ⟨6, .data⟩, ⟨0, .phase⟩, ⟨1, .phase⟩, ⟨2, .phase⟩, ⟨3, .phase⟩, ⟨4, .phase⟩, ⟨5, .phase⟩, ⟨6, .phase⟩], none⟩
def rprune7_ops : Array Oper := #[rprune7_o0, rprune7_o1, rprune7_o2, rprune7_o3, rprune7_o4, rprune7_o5, rprune7_o6, rprune7_o7, rprune7_o8]
theorem rprune7 (d : Nat) (f0 pkv kv xv nv iv pv : Value) (y : World) (S : World → Prop) (a : Act) (w : World) (Q : Exit → Act → World → Prop) (hsz : a.tmps.size = 33)
    (t0 : a.tmps.getD 0 undef = .pointer (some ⟨d, 0, none⟩))
    (t3 : a.tmps.getD 3 undef = pkv)
    (t5 : a.tmps.getD 5 undef = iv)
    (GF0 : ∀ W, (Instr.fieldAt 86 (.pointer (some ⟨d, 0, none⟩)) 0).run Try.prog W = .ok f0 W) (GN : ∀ W, S W → (Instr.loadAt 83 f0).run Try.prog W = .ok nv W) (GB : ∀ W, (Instr.build 114 #[(0, kv), (3, .bool true)]).run Try.prog W = .ok xv W)
    (GK : ∀ W, S W → (Instr.loadAt 37 pkv).run Try.prog W = .ok kv W) (GX : ∀ W, (Instr.indexAt 83 nv iv).run Try.prog W = .ok pv W) (S0 : S w.drew)
    (ES : (Instr.storeAt 114 pv xv).run Try.prog w.drew = .ok () y) (Sy : S y)
    (h1 : ∀ (a' : Act) (w' : World), w' = y → a' = ((((((((a).put (some 25) (.pointer (some ⟨d, 0, none⟩))).put (some 26) (.pointer (some ⟨d, 0, none⟩))).put (some 27) (f0)).put (some 28) (nv)).put (some 29) (iv)).put (some 30) (kv)).put (some 31) (xv)).put (some 32) (pv) → Q .normal a' w') :
    (Code.region 7 rprune7_ops true).wp Try.prog Q a w := by
  refine wp_region_noPanic ?_
  refine wp_region_held_drew (S := fun w' => S w') (by kernel_rfl) (S0) (fun hHeld => ?_)
  change wpAnyH _ _ _ _ _ _ _ a _
  refine tk 0 rprune7_o0 (.pointer (some ⟨d, 0, none⟩)) (by rfl) (fun w1 hw => exec_move rfl t0) hHeld (fun a1 e1 => ?_)
  rw [← e1] at h1
  have z1 := pz e1 hsz
  clear t0
  replace t3 := pk e1 t3
  replace t5 := pk e1 t5
  have t25 := pq e1 hsz
  clear e1 hsz
  refine tk 1 rprune7_o1 (.pointer (some ⟨d, 0, none⟩)) (by rfl) (fun w1 hw => exec_nilCheck rfl t25) hHeld (fun a2 e2 => ?_)
  rw [← e2] at h1
  have z2 := pz e2 z1
  replace t3 := pk e2 t3
  replace t5 := pk e2 t5
  clear t25
  have t26 := pq e2 z1
  clear e2 z1
  refine tk 2 rprune7_o2 (f0) (by rfl) (fun w1 hw => exec_fieldAt rfl t26 (GF0 _)) hHeld (fun a3 e3 => ?_)
  rw [← e3] at h1
  have z3 := pz e3 z2
  replace t3 := pk e3 t3
  replace t5 := pk e3 t5
  clear t26
  have t27 := pq e3 z2
  clear e3 z2
  refine tk 3 rprune7_o3 (nv) (by rfl) (fun w1 hw => exec_load rfl t27 (GN _ hw)) hHeld (fun a4 e4 => ?_)
  rw [← e4] at h1
  have z4 := pz e4 z3
  replace t3 := pk e4 t3
  replace t5 := pk e4 t5
  clear t27
  have t28 := pq e4 z3
  clear e4 z3
  refine tk 4 rprune7_o4 (iv) (by rfl) (fun w1 hw => exec_move rfl t5) hHeld (fun a5 e5 => ?_)
  rw [← e5] at h1
  have z5 := pz e5 z4
  replace t3 := pk e5 t3
  clear t5
  replace t28 := pk e5 t28
  have t29 := pq e5 z4
  clear e5 z4
  refine tk 5 rprune7_o5 (kv) (by rfl) (fun w1 hw => exec_load rfl t3 (GK _ hw)) hHeld (fun a6 e6 => ?_)
  rw [← e6] at h1
  have z6 := pz e6 z5
  clear t3
  replace t28 := pk e6 t28
  replace t29 := pk e6 t29
  have t30 := pq e6 z5
  clear e6 z5
  refine tk 6 rprune7_o6 (xv) (by rfl) (fun w1 hw => exec_b2 rfl t30 rfl (GB _)) hHeld (fun a7 e7 => ?_)
  rw [← e7] at h1
  have z7 := pz e7 z6
  replace t28 := pk e7 t28
  replace t29 := pk e7 t29
  clear t30
  have t31 := pq e7 z6
  clear e7 z6
  refine tk 7 rprune7_o7 (pv) (by rfl) (fun w1 hw => exec_indexAt rfl t28 t29 (GX _)) hHeld (fun a8 e8 => ?_)
  rw [← e8] at h1
  have z8 := pz e8 z7
  clear t28
  clear t29
  replace t31 := pk e8 t31
  have t32 := pq e8 z7
  clear e8 z7
  refine wpAnyH_ready (rs := [8]) (by kernel_rfl) (by simp) ?_
  refine AllReadyH.cons (o := rprune7_o8) rfl (fun K hK => ?_) AllReadyH.nil
  skip
  have X := exec_store (P := Try.prog) (a := a8) (o := rprune7_o8) rfl t32 t31 ES
  rw [if_pos (by rfl), Oper.wp, X]
  show K _ _
  clear X
  refine hK.out _ _ (Sy) (fun hHeld => ?_)
  clear hK K
  exact wpAnyH_done (by kernel_rfl) (NoPanic.normal (h1 _ _ (rfl) rfl)) _
end Go.Proofs.Ytoofljkgdjjllaa
namespace Go.Proofs.Ytoofljkgdjjllaa
open Go.RowKit
set_option linter.unusedVariables false
set_option linter.unusedSimpArgs false
set_option linter.unusedSectionVars false
theorem build_rn0 (w : World) (a0 a1 a2 a3 a4 a5 a6 a7 a8 a9 a10 a11 a12 a13 a14 a15 a16 a17 a18 a19 a20 a21 a22 a23 a24 a25 a26 a27 a28 a29 a30 a31 a32 b0 b1 b2 b3 b4 b5 b6 b7 b8 b9 b10 b11 b12 b13 b14 b15 b16 b17 b18 b19 b20 b21 b22 b23 b24 b25 b26 b27 b28 b29 b30 b31 b32 : Value) (key : ByteArray) : (Instr.build 114 #[(0, .agg [a0, a1, a2, a3, a4, a5, a6, a7, a8, a9, a10, a11, a12, a13, a14, a15, a16, a17, a18, a19, a20, a21, a22, a23, a24, a25, a26, a27, a28, a29, a30, a31, a32].toArray), (1, .agg [b0, b1, b2, b3, b4, b5, b6, b7, b8, b9, b10, b11, b12, b13, b14, b15, b16, b17, b18, b19, b20, b21, b22, b23, b24, b25, b26, b27, b28, b29, b30, b31, b32].toArray), (2, .string key)]).run Try.prog w = .ok (.agg ([a0, a1, a2, a3, a4, a5, a6, a7, a8, a9, a10, a11, a12, a13, a14, a15, a16, a17, a18, a19, a20, a21, a22, a23, a24, a25, a26, a27, a28, a29, a30, a31, a32] ++ ([b0, b1, b2, b3, b4, b5, b6, b7, b8, b9, b10, b11, b12, b13, b14, b15, b16, b17, b18, b19, b20, b21, b22, b23, b24, b25, b26, b27, b28, b29, b30, b31, b32] ++ [Value.string key, Value.bool false])).toArray) w := by kernel_rfl
theorem build_rn (w : World) (k u : IdK) (hk : k.ok) (hu : u.ok) (key : ByteArray) : (Instr.build 114 #[(0, k.v), (1, u.v), (2, .string key)]).run Try.prog w = .ok (.agg (rnC (k, ⟨u, key, false⟩)).toArray) w := by
  have h := IdK.len hk
  have h2 := IdK.len hu
  unfold rnC IdK.v
  simp only
  generalize k.c = l at *
  generalize u.c = l2 at *
  match l, h, l2, h2 with
  | a0 :: a1 :: a2 :: a3 :: a4 :: a5 :: a6 :: a7 :: a8 :: a9 :: a10 :: a11 :: a12 :: a13 :: a14 :: a15 :: a16 :: a17 :: a18 :: a19 :: a20 :: a21 :: a22 :: a23 :: a24 :: a25 :: a26 :: a27 :: a28 :: a29 :: a30 :: a31 :: a32 :: [], _, b0 :: b1 :: b2 :: b3 :: b4 :: b5 :: b6 :: b7 :: b8 :: b9 :: b10 :: b11 :: b12 :: b13 :: b14 :: b15 :: b16 :: b17 :: b18 :: b19 :: b20 :: b21 :: b22 :: b23 :: b24 :: b25 :: b26 :: b27 :: b28 :: b29 :: b30 :: b31 :: b32 :: [], _ => exact build_rn0 w a0 a1 a2 a3 a4 a5 a6 a7 a8 a9 a10 a11 a12 a13 a14 a15 a16 a17 a18 a19 a20 a21 a22 a23 a24 a25 a26 a27 a28 a29 a30 a31 a32 b0 b1 b2 b3 b4 b5 b6 b7 b8 b9 b10 b11 b12 b13 b14 b15 b16 b17 b18 b19 b20 b21 b22 b23 b24 b25 b26 b27 b28 b29 b30 b31 b32 key
theorem build_rp0 (w : World) (a0 a1 a2 a3 a4 a5 a6 a7 a8 a9 a10 a11 a12 a13 a14 a15 a16 a17 a18 a19 a20 a21 a22 a23 a24 a25 a26 a27 a28 a29 a30 a31 a32 : Value) : (Instr.build 114 #[(0, .agg [a0, a1, a2, a3, a4, a5, a6, a7, a8, a9, a10, a11, a12, a13, a14, a15, a16, a17, a18, a19, a20, a21, a22, a23, a24, a25, a26, a27, a28, a29, a30, a31, a32].toArray), (3, .bool true)]).run Try.prog w = .ok (.agg ([a0, a1, a2, a3, a4, a5, a6, a7, a8, a9, a10, a11, a12, a13, a14, a15, a16, a17, a18, a19, a20, a21, a22, a23, a24, a25, a26, a27, a28, a29, a30, a31, a32] ++ (zId.c ++ [Value.string ⟨#[]⟩, Value.bool true])).toArray) w := by kernel_rfl
theorem build_rp (w : World) (k : IdK) (hk : k.ok) : (Instr.build 114 #[(0, k.v), (3, .bool true)]).run Try.prog w = .ok (.agg (rnC (k, ⟨zId, ⟨#[]⟩, true⟩)).toArray) w := by
  have h := IdK.len hk
  unfold rnC IdK.v
  simp only
  generalize k.c = l at *
  match l, h with
  | a0 :: a1 :: a2 :: a3 :: a4 :: a5 :: a6 :: a7 :: a8 :: a9 :: a10 :: a11 :: a12 :: a13 :: a14 :: a15 :: a16 :: a17 :: a18 :: a19 :: a20 :: a21 :: a22 :: a23 :: a24 :: a25 :: a26 :: a27 :: a28 :: a29 :: a30 :: a31 :: a32 :: [], _ => exact build_rp0 w a0 a1 a2 a3 a4 a5 a6 a7 a8 a9 a10 a11 a12 a13 a14 a15 a16 a17 a18 a19 a20 a21 a22 a23 a24 a25 a26 a27 a28 a29 a30 a31 a32
theorem tch_mark {B : Nat} {w w2 : World} {d : Nat} {NL : List RN} {PL : List (List RN)} {vn vp : Value} {us : List Value} (h : RefP B w d NL PL vn vp us) (b2 : Below w.heap.size w w2) {w3 : World} (t : Tch (fun j => j = d ∨ vp.ownBlock = some j) w2 w3) {j : Nat} (hj : w.heap.size ≤ j) (hl : j < w2.heap.size) : w3.heap[j]? = w2.heap[j]? := by
  refine t.block j hl ?_
  rintro (rfl | q)
  · have := (h.ge j (Or.inl rfl)).2; omega
  · have := (h.ge j (Or.inr (Or.inr (Or.inl q)))).2; omega
section
variable {B : Nat} {w : World} {d : Nat} {NL : List RN} {PL : List (List RN)} {vn vp : Value} {us : List Value} (h : RefP B w d NL PL vn vp us) (hB : B ≤ w.heap.size) (hn : NL.length ≤ 1300000000000) (hp : PL.length ≤ 1300000000000) (k u : IdK) (key : ByteArray) (hk : k.ok) (hu : u.ok)
include h hB hn hp hk hu
theorem grow_tail (hh : lookN NL k = none) {w2 w3 : World} {qv cv : Value} (b2 : Below w.heap.size w w2) (hx : IdAt w2 w.heap.size k) (hy : IdAt w2 (w.heap.size + 1) u) (hr : RefP B w3 d NL (PL ++ [NL]) vn qv (us ++ [cv])) (t : Tch (fun j => j = d ∨ vp.ownBlock = some j) w2 w3)
    (hb : ∀ j, refB d vn qv (us ++ [cv]) j → refB d vn vp us j ∨ w2.heap.size ≤ j) :
    ∃ (lv rv : Value) (w4 w5 w6 : World), (Instr.buildSlice 83 1 #[(0, .agg (rnC (k, ⟨u, key, false⟩)).toArray)]).run Try.prog w3.drew = .ok lv w4 ∧ (Builtin.append_ #[83, 83] 83 #[vn, lv]).run Try.prog w4 = .ok rv w5 ∧ (Instr.storeAt 83 (.pointer (some ⟨d, 0, none⟩)) rv).run Try.prog w5 = .ok () w6 ∧
      (∀ W, W = w3.drew ∨ W = w4 ∨ W = w5 ∨ W = w6 → IdAt W w.heap.size k ∧ IdAt W (w.heap.size + 1) u) ∧ (∀ W, W = w3.drew ∨ W = w4 → W.cell? ⟨d, 0, none⟩ = some vn) ∧ RStep B w d NL PL vn vp us k ⟨u, key, false⟩ 0 (.returned (.int .i64 0)) w6 := by
  have z2 := b2.size
  have z3 := t.size
  have l1 : w.heap.size + 1 < w2.heap.size := (Array.getElem?_eq_some_iff.1 hy).1
  have hx3 : IdAt w3 w.heap.size k := (tch_mark h b2 t (Nat.le_refl _) (by omega)).trans hx
  have hy3 : IdAt w3 (w.heap.size + 1) u := (tch_mark h b2 t (by omega) l1).trans hy
  have bd : Below w3.heap.size w3 w3.drew := (Below.refl _ _).drew
  have hrd := hr.below bd
  obtain ⟨lv, rv, w4, w5, e1, e2, e3, b4, t5, t6, hr6, hb6⟩ := more_runs hrd (show B ≤ w3.drew.heap.size by have : w3.drew.heap.size = w3.heap.size := rfl; omega) hn (k, ⟨u, key, false⟩) ⟨hk, hu⟩ (look_no hh)
  have zd : w3.drew.heap.size = w3.heap.size := rfl
  have nb : ∀ j, w.heap.size ≤ j → j < w2.heap.size → ¬ (j = d ∨ vn.ownBlock = some j) := by
    rintro j h1 h2 (rfl | q)
    · have := (h.ge j (Or.inl rfl)).2; omega
    · have := (h.ge j (Or.inr (Or.inl q))).2; omega
  have k5 : ∀ j, w.heap.size ≤ j → j < w2.heap.size → w5.heap[j]? = w3.drew.heap[j]? := fun j h1 h2 => t5.block j (by omega) (fun q => nb j h1 h2 (Or.inr q))
  have k6 : ∀ j, w.heap.size ≤ j → j < w2.heap.size → (w5.setCell ⟨d, 0, none⟩ rv).heap[j]? = w3.drew.heap[j]? := fun j h1 h2 => t6.block j (by omega) (nb j h1 h2)
  have hd : w3.drew.cell? ⟨d, 0, none⟩ = some vn := by rw [cell_of_row _ _ 0 _ _ _ hrd.cell]; rfl
  have ld := (Array.getElem?_eq_some_iff.1 hrd.cell).1
  have l0 := (h.ge d (Or.inl rfl)).2
  refine ⟨lv, rv, w4, w5, _, e1, e2, e3, ?_, ?_, Or.inr ⟨rfl, rfl, rv, qv, us ++ [cv], by rw [put_none hh]; exact hr6, ?_, fun j hj => ?_⟩⟩
  · rintro W (rfl | rfl | rfl | rfl)
    · exact ⟨hx3, hy3⟩
    · exact ⟨(b4.block _ (by omega)).trans hx3, (b4.block _ (by omega)).trans hy3⟩
    · exact ⟨(k5 _ (Nat.le_refl _) (by omega)).trans hx3, (k5 _ (by omega) l1).trans hy3⟩
    · exact ⟨(k6 _ (Nat.le_refl _) (by omega)).trans hx3, (k6 _ (by omega) l1).trans hy3⟩
  · rintro W (rfl | rfl)
    · exact hd
    · exact (b4.cell (p := ⟨d, 0, none⟩) ld).trans hd
  · have t0 : Tch (fun j => refB d vn vp us j) w w2 := ⟨b2.os, b2.tape, b2.output, b2.size, fun j hj _ => b2.block j hj⟩
    refine (t0.trans' (O' := fun j => j = d ∨ vp.ownBlock = some j) t fun i _ q => ?_).trans' (O' := fun j => j = d ∨ vn.ownBlock = some j) (Tch.trans ((Tch.refl _ w3).drew) t6) fun i _ q => ?_
    · rcases q with q | q
      · exact Or.inl q
      · exact Or.inr (Or.inr (Or.inl q))
    · rcases q with q | q
      · exact Or.inl q
      · exact Or.inr (Or.inl q)
  · rcases hb6 j hj with q | q
    · rcases hb j q with q | q
      · exact Or.inl q
      · exact Or.inr (by omega)
    · exact Or.inr (by omega)
theorem rgrow_ok (hz : k ≠ zId) (hh : lookN NL k = none) (hb : Bears (lookN NL) u = true) : Calls Try.prog 30 #[.pointer (some ⟨d, 0, none⟩), k.v, u.v, .string key] w (RStep B w d NL PL vn vp us k ⟨u, key, false⟩ 0) := by
  have hq : ∀ w : World, (binOp .eql 37 k.v zId.v).run Try.prog w = .ok (.bool false) w := fun w => by rw [eql_id k zId hk zId_ok, decide_eq_false hz]
  have hq2 : ∀ w : World, (binOp .neq 37 u.v zId.v).run Try.prog w = .ok (.bool (!decide (u = zId))) w := fun w => neq_id u zId hu zId_ok w
  have H1 : Hid (∀ W, Below w.heap.size w W → Calls Try.prog 74 #[.pointer (some ⟨d, 0, none⟩), k.v] W fun e w' => e = .returned (.bool false) ∧ Below W.heap.size W w') := fun W b => by
    have := rhas_any d NL vp k W (h.ref.below b) hk hn
    rwa [hh] at this
  have HM := hidMk (fun (W : World) (b : Below w.heap.size w W) => mark_any (h.below b) (Nat.le_trans hB b.size) hn hp)
  have HT := hidMk (fun (w2 w3 : World) (qv cv : Value) => grow_tail (w2 := w2) (w3 := w3) (qv := qv) (cv := cv) h hB hn hp k u key hk hu hh)
  have HU : Hid (u ≠ zId → ∀ W, Below w.heap.size w W → Calls Try.prog 74 #[.pointer (some ⟨d, 0, none⟩), u.v] W fun e w' => e = .returned (.bool true) ∧ Below W.heap.size W w') := fun hne W b => by
    have := rhas_any d NL vp u W (h.ref.below b) hu hn
    rcases bears_iff.1 hb with q | q
    · exact absurd q hne
    · rwa [q] at this
  clear hz hh hb hn hp hB h
  unfold IdK.v
  go_enter Try.func30, Try.ntmps30
  go_upto_region 1 with fail
  obtain ⟨hx, hy, bx, zx⟩ := two_boxes w k u
  have ZX := hidMk zx
  clear zx
  generalize (w.alloc (.cells k.c.toArray 37)).alloc (.cells u.c.toArray 37) = W at *
  have HX := hidMk (load_id hk hx)
  have HXI := hidMk hx
  have HYI := hidMk hy
  clear hx hy
  by_cases uz : u = zId
  · rw [decide_eq_true uz] at hq2
    simp only [Bool.not_true] at hq2
    clear uz
    go_upto_region 10 with (first
      | (refine wpList_val rfl (exec_load (t := 37) (u := .pointer (some ⟨w.heap.size, 0, none⟩)) rfl rfl HX.out) ?_)
      | (refine wpList_val rfl (exec_load (t := 37) (u := .pointer (some ⟨w.heap.size + 1, 0, none⟩)) rfl rfl HY.out) ?_)
      | (refine wpList_val rfl (exec_build0 rfl (build_id _)) ?_)
      | (refine wpList_val rfl (exec_binOp rfl rfl rfl (guard_id _ _ k zId _ _) (hq _)) ?_)
      | (refine wpList_val rfl (exec_binOp rfl rfl rfl (guard_id _ _ u zId _ _) (hq2 _)) ?_)
      | (go_at_call 74; refine (H1.out _ bx).mono ?_; rintro e w1 ⟨rfl, b1⟩; have HY := hidMk (load_id hu ((b1.block _ (by have := ZX.out; omega)).trans HYI.out)); have c1 := bx.trans (b1.mono bx.size); clear H1)
      | (go_at_call 75; refine (HM.out _ c1).mono ?_; rintro e w3 ⟨rfl, qv, cv, hr, t3, hb3⟩)
      | fail)
    have HXX := hidMk ((b1.block _ (by have := ZX.out; omega)).trans HXI.out)
    have HYY := hidMk ((b1.block _ (by have := ZX.out; omega)).trans HYI.out)
    obtain ⟨lv, rv, w4, w5, w6, e1, e2, e3, hS, hN, fin⟩ := HT.out w1 w3 qv cv c1 HXX.out HYY.out hr t3 hb3
    have z3 := t3.size
    obtain ⟨an, cn, en, _⟩ := hr.nodes.open hr.ok
    refine rgrow10 d (.pointer (some ⟨d, 0, none⟩)) (.pointer (some ⟨w.heap.size, 0, none⟩)) (.pointer (some ⟨w.heap.size + 1, 0, none⟩)) k.v u.v (.string key) (.agg (rnC (k, ⟨u, key, false⟩)).toArray) vn lv rv w4 w5 w6 (fun W => IdAt W w.heap.size k ∧ IdAt W (w.heap.size + 1) u) _ w3 _ rfl rfl rfl rfl rfl (fun W => by go_simp) (fun W => build_rn W k u hk hu key) (fun W hw => load_id hk hw.1) (fun W hw => load_id hu hw.2) (hS _ (Or.inl rfl)) (hS _ (Or.inr (Or.inl rfl))) (hS _ (Or.inr (Or.inr (Or.inl rfl)))) (hS _ (Or.inr (Or.inr (Or.inr rfl)))) (load_ns (hN _ (Or.inl rfl))) (load_ns (hN _ (Or.inr rfl))) e1 e2 e3 ?_ ?_
    all_goals
      intro a' w' hw' ha
      subst hw' ha
      simp only [Act.put, List.setIfInBounds_toArray, List.set_cons_zero, List.set_cons_succ]
      go_wp2
      go_ret
      exact fin
  · rw [decide_eq_false uz] at hq2
    simp only [Bool.not_false] at hq2
    have H2 := hidMk (HU.out uz)
    clear uz
    go_upto_region 10 with (first
      | (refine wpList_val rfl (exec_load (t := 37) (u := .pointer (some ⟨w.heap.size, 0, none⟩)) rfl rfl HX.out) ?_)
      | (refine wpList_val rfl (exec_load (t := 37) (u := .pointer (some ⟨w.heap.size + 1, 0, none⟩)) rfl rfl HY.out) ?_)
      | (refine wpList_val rfl (exec_build0 rfl (build_id _)) ?_)
      | (refine wpList_val rfl (exec_binOp rfl rfl rfl (guard_id _ _ k zId _ _) (hq _)) ?_)
      | (refine wpList_val rfl (exec_binOp rfl rfl rfl (guard_id _ _ u zId _ _) (hq2 _)) ?_)
      | (go_at_call 74; refine (H1.out _ bx).mono ?_; rintro e w1 ⟨rfl, b1⟩; have HY := hidMk (load_id hu ((b1.block _ (by have := ZX.out; omega)).trans HYI.out)); have c1 := bx.trans (b1.mono bx.size); clear H1)
      | (go_at_call 74; refine (H2.out _ c1).mono ?_; rintro e w2 ⟨rfl, b2⟩; have c2 := c1.trans (b2.mono c1.size); clear H2)
      | (go_at_call 75; refine (HM.out _ c2).mono ?_; rintro e w3 ⟨rfl, qv, cv, hr, t3, hb3⟩)
      | fail)
    have HXX := hidMk ((b2.block _ (by have := ZX.out; have := b1.size; omega)).trans ((b1.block _ (by have := ZX.out; omega)).trans HXI.out))
    have HYY := hidMk ((b2.block _ (by have := ZX.out; have := b1.size; omega)).trans ((b1.block _ (by have := ZX.out; omega)).trans HYI.out))
    obtain ⟨lv, rv, w4, w5, w6, e1, e2, e3, hS, hN, fin⟩ := HT.out w2 w3 qv cv c2 HXX.out HYY.out hr t3 hb3
    have z3 := t3.size
    obtain ⟨an, cn, en, _⟩ := hr.nodes.open hr.ok
    refine rgrow10 d (.pointer (some ⟨d, 0, none⟩)) (.pointer (some ⟨w.heap.size, 0, none⟩)) (.pointer (some ⟨w.heap.size + 1, 0, none⟩)) k.v u.v (.string key) (.agg (rnC (k, ⟨u, key, false⟩)).toArray) vn lv rv w4 w5 w6 (fun W => IdAt W w.heap.size k ∧ IdAt W (w.heap.size + 1) u) _ w3 _ rfl rfl rfl rfl rfl (fun W => by go_simp) (fun W => build_rn W k u hk hu key) (fun W hw => load_id hk hw.1) (fun W hw => load_id hu hw.2) (hS _ (Or.inl rfl)) (hS _ (Or.inr (Or.inl rfl))) (hS _ (Or.inr (Or.inr (Or.inl rfl)))) (hS _ (Or.inr (Or.inr (Or.inr rfl)))) (load_ns (hN _ (Or.inl rfl))) (load_ns (hN _ (Or.inr rfl))) e1 e2 e3 ?_ ?_
    all_goals
      intro a' w' hw' ha
      subst hw' ha
      simp only [Act.put, List.setIfInBounds_toArray, List.set_cons_zero, List.set_cons_succ]
      go_wp2
      go_ret
      exact fin
end
theorem ix_rz {g n c j : Nat} (h : j < n) (hn : n ≤ 9223372036854775807) (w : World) : (Instr.indexAt 83 (.slice (some ⟨g, 0, none⟩) n c) (.int .i64 (j : Int))).run Try.prog w = .ok (.pointer (some ⟨g, j * 68, none⟩)) w := by
  have := ix_rn (b := g) (o := 0) (c := c) h hn w
  rwa [Nat.zero_add] at this
theorem up_above {f : Fn} (hf : Forest f) {u k : IdK} {l : List IdK} {b : Bool} (h : UpIs f u l b) (hne : u ≠ k) : k ∈ l ↔ Above f u k := by
  rcases h with ⟨h1, rfl, _⟩ | ⟨_, p, hc, _⟩
  · have hc : Climb f u [] (nd f u).pr := .top (Or.inr (by rw [nd, h1]; rfl))
    constructor
    · intro q; cases q
    · rintro (q | ⟨l', p', hc', hm⟩)
      · exact absurd q hne
      · obtain ⟨rfl, _⟩ := hc.same hc'; exact hm
  · constructor
    · exact fun q => Or.inr ⟨l, p, hc, q⟩
    · rintro (q | ⟨l', p', hc', hm⟩)
      · exact absurd q hne
      · obtain ⟨rfl, _⟩ := hc.same hc'; exact hm
section
variable {B : Nat} {w : World} {d : Nat} {NL : List RN} {PL : List (List RN)} {vn vp : Value} {us : List Value} (h : RefP B w d NL PL vn vp us) (hB : B ≤ w.heap.size) (hn : NL.length ≤ 1300000000000) (hp : PL.length ≤ 1300000000000) (k u : IdK) (key : ByteArray) (hk : k.ok) (hu : u.ok)
include h hB hn hp hk
theorem put_tail {m n : NodeV} (hno : n.u.ok) (hh : lookN NL k = some m) {w2 w3 : World} {qv cv : Value} (b2 : Below w.heap.size w w2) (hr : RefP B w3 d NL (PL ++ [NL]) vn qv (us ++ [cv])) (t : Tch (fun j => j = d ∨ vp.ownBlock = some j) w2 w3) (hb : ∀ j, refB d vn qv (us ++ [cv]) j → refB d vn vp us j ∨ w2.heap.size ≤ j) :
    ∃ j g c : Nat, fPos NL k = (j : Int) ∧ j < NL.length ∧ vn = .slice (some ⟨g, 0, none⟩) NL.length c ∧ ∀ X, Below w3.heap.size w3 X → X.cell? ⟨d, 0, none⟩ = some vn ∧ (∀ i, w.heap.size ≤ i → i < w2.heap.size → X.heap[i]? = w2.heap[i]?) ∧
      ∃ y, (Instr.storeAt 114 (.pointer (some ⟨g, j * 68, none⟩)) (.agg (rnC (k, n)).toArray)).run Try.prog X = .ok () y ∧ y.cell? ⟨d, 0, none⟩ = some vn ∧ (∀ i, w.heap.size ≤ i → i < w2.heap.size → y.heap[i]? = w2.heap[i]?) ∧ RStep B w d NL PL vn vp us k n 0 (.returned (.int .i64 0)) y := by
  obtain ⟨j, ej, hj, lj, ep⟩ := put_some hh n
  have z2 := b2.size
  have z3 := t.size
  have own : ∃ g c, vn = .slice (some ⟨g, 0, none⟩) NL.length c := by
    obtain ⟨g, c, e, _⟩ := own_setN hr.nodes hr.ok lj (x := (k, n)) ⟨hk, hno⟩
    exact ⟨g, c, e⟩
  obtain ⟨g, c, hv⟩ := own
  refine ⟨j, g, c, ej, lj, hv, fun X bX => ?_⟩
  have hX := hr.below bX
  have keepX : ∀ i, w.heap.size ≤ i → i < w2.heap.size → X.heap[i]? = w2.heap[i]? := fun i h1 h2 => (bX.block i (by omega)).trans (tch_mark h b2 t h1 h2)
  obtain ⟨g', c', y, e', es, ty, hy⟩ := other_runs hX j lj (k, n) ⟨hk, hno⟩ (by rw [List.getElem?_map, hj]; rfl)
  rw [hv] at e'
  injection e' with e1 e2 e3
  injection e1 with e1
  injection e1 with e1
  subst e1 e3
  have zX := bX.size
  refine ⟨by rw [cell_of_row _ _ 0 _ _ _ hX.cell]; rfl, keepX, y, es, by rw [cell_of_row _ _ 0 _ _ _ hy.cell]; rfl, fun i h1 h2 => ?_, Or.inr ⟨rfl, rfl, vn, qv, us ++ [cv], by rw [ep]; exact hy, ?_, fun i hi => ?_⟩⟩
  · refine (ty.block i (by omega) fun q => ?_).trans (keepX i h1 h2)
    have := (h.ge i (Or.inr (Or.inl q))).2
    omega
  · have t0 : Tch (fun j => refB d vn vp us j) w w2 := ⟨b2.os, b2.tape, b2.output, b2.size, fun j hj _ => b2.block j hj⟩
    refine ((t0.trans' (O' := fun j => j = d ∨ vp.ownBlock = some j) t fun i _ q => ?_).trans ⟨bX.os, bX.tape, bX.output, bX.size, fun j hj _ => bX.block j hj⟩).trans' (O' := fun j => vn.ownBlock = some j) ty fun i _ q => Or.inr (Or.inl q)
    rcases q with q | q
    · exact Or.inl q
    · exact Or.inr (Or.inr (Or.inl q))
  · rcases hb i hi with q | q
    · exact Or.inl q
    · exact Or.inr (by omega)
include hu
theorem rmove_out (hh : (lookN NL k).isSome = false) : Calls Try.prog 31 #[.pointer (some ⟨d, 0, none⟩), k.v, u.v, .string key] w (fun e w' => e = .returned (.int .i64 4) ∧ Below w.heap.size w w') := by
  have H1 : Hid (∀ W, Below w.heap.size w W → Calls Try.prog 74 #[.pointer (some ⟨d, 0, none⟩), k.v] W fun e w' => e = .returned (.bool false) ∧ Below W.heap.size W w') := fun W b => by
    have := rhas_any d NL vp k W (h.ref.below b) hk hn
    rwa [hh] at this
  clear hh h hn hp hB
  unfold IdK.v
  go_enter Try.func31, Try.ntmps31
  go_upto_region 1 with fail
  obtain ⟨hx, hy, bx, zx⟩ := two_boxes w k u
  have ZX := hidMk zx
  clear zx
  generalize (w.alloc (.cells k.c.toArray 37)).alloc (.cells u.c.toArray 37) = W at *
  have HXI := hidMk hx
  have HYI := hidMk hy
  have HX := hidMk (fun (V : World) (b : Below W.heap.size W V) => load_id hk ((b.block _ (by have := ZX.out; omega)).trans HXI.out))
  have HY := hidMk (fun (V : World) (b : Below W.heap.size W V) => load_id hu ((b.block _ (by have := ZX.out; omega)).trans HYI.out))
  have BXX := hidMk bx
  have cW : Below W.heap.size W W := Below.refl _ _
  clear hx hy
  go_wp2_with (first
      | (refine wpList_val rfl (exec_load (t := 37) (u := .pointer (some ⟨w.heap.size, 0, none⟩)) rfl rfl (HX.out _ cW)) ?_)
      | (refine wpList_val rfl (exec_load (t := 37) (u := .pointer (some ⟨w.heap.size + 1, 0, none⟩)) rfl rfl (HY.out _ cW)) ?_)
      | (refine wpList_val rfl (exec_build0 rfl (build_id _)) ?_)
      | (go_at_call 74; refine (H1.out _ (BXX.out.trans (cW.mono BXX.out.size))).mono ?_; rintro e w1 ⟨rfl, b1⟩; have c1 := cW.trans (b1.mono cW.size); clear H1)
      | fail)
  go_ret
  exact ⟨rfl, BXX.out.trans (c1.mono BXX.out.size)⟩
theorem rmove_none (hh : (lookN NL k).isSome = true) (hz : u ≠ zId) (hus : (lookN NL u).isSome = false) : Calls Try.prog 31 #[.pointer (some ⟨d, 0, none⟩), k.v, u.v, .string key] w (fun e w' => e = .returned (.int .i64 4) ∧ Below w.heap.size w w') := by
  have H1 : Hid (∀ W, Below w.heap.size w W → Calls Try.prog 74 #[.pointer (some ⟨d, 0, none⟩), k.v] W fun e w' => e = .returned (.bool true) ∧ Below W.heap.size W w') := fun W b => by
    have := rhas_any d NL vp k W (h.ref.below b) hk hn
    rwa [hh] at this
  have HU : Hid (∀ W, Below w.heap.size w W → Calls Try.prog 74 #[.pointer (some ⟨d, 0, none⟩), u.v] W fun e w' => e = .returned (.bool false) ∧ Below W.heap.size W w') := fun W b => by
    have := rhas_any d NL vp u W (h.ref.below b) hu hn
    rwa [hus] at this
  have hq2 : ∀ w : World, (binOp .neq 37 u.v zId.v).run Try.prog w = .ok (.bool true) w := fun w => by rw [neq_id u zId hu zId_ok, decide_eq_false hz]; rfl
  clear hh h hn hp hB hz hus
  unfold IdK.v
  go_enter Try.func31, Try.ntmps31
  go_upto_region 1 with fail
  obtain ⟨hx, hy, bx, zx⟩ := two_boxes w k u
  have ZX := hidMk zx
  clear zx
  generalize (w.alloc (.cells k.c.toArray 37)).alloc (.cells u.c.toArray 37) = W at *
  have HXI := hidMk hx
  have HYI := hidMk hy
  have HX := hidMk (fun (V : World) (b : Below W.heap.size W V) => load_id hk ((b.block _ (by have := ZX.out; omega)).trans HXI.out))
  have HY := hidMk (fun (V : World) (b : Below W.heap.size W V) => load_id hu ((b.block _ (by have := ZX.out; omega)).trans HYI.out))
  have BXX := hidMk bx
  have cW : Below W.heap.size W W := Below.refl _ _
  clear hx hy
  go_wp2_with (first
      | (refine wpList_val rfl (exec_load (t := 37) (u := .pointer (some ⟨w.heap.size, 0, none⟩)) rfl rfl (HX.out _ c1)) ?_)
      | (refine wpList_val rfl (exec_load (t := 37) (u := .pointer (some ⟨w.heap.size + 1, 0, none⟩)) rfl rfl (HY.out _ c1)) ?_)
      | (refine wpList_val rfl (exec_load (t := 37) (u := .pointer (some ⟨w.heap.size, 0, none⟩)) rfl rfl (HX.out _ cW)) ?_)
      | (refine wpList_val rfl (exec_load (t := 37) (u := .pointer (some ⟨w.heap.size + 1, 0, none⟩)) rfl rfl (HY.out _ cW)) ?_)
      | (refine wpList_val rfl (exec_build0 rfl (build_id _)) ?_)
      | (refine wpList_val rfl (exec_binOp rfl rfl rfl (guard_id _ _ u zId _ _) (hq2 _)) ?_)
      | (go_at_call 74; refine (H1.out _ (BXX.out.trans (cW.mono BXX.out.size))).mono ?_; rintro e w1 ⟨rfl, b1⟩; have c1 := cW.trans (b1.mono cW.size); clear H1)
      | (go_at_call 74; refine (HU.out _ (BXX.out.trans (c1.mono BXX.out.size))).mono ?_; rintro e w2 ⟨rfl, b2⟩; have c2 := c1.trans (b2.mono c1.size); clear HU)
      | fail)
  go_ret
  exact ⟨rfl, BXX.out.trans (c2.mono BXX.out.size)⟩
theorem rmove_self (hh : (lookN NL k).isSome = true) (hz : u ≠ zId) (hus : (lookN NL u).isSome = true) (hne : u = k) : Calls Try.prog 31 #[.pointer (some ⟨d, 0, none⟩), k.v, u.v, .string key] w (fun e w' => e = .returned (.int .i64 100) ∧ Below w.heap.size w w') := by
  have H1 : Hid (∀ W, Below w.heap.size w W → Calls Try.prog 74 #[.pointer (some ⟨d, 0, none⟩), k.v] W fun e w' => e = .returned (.bool true) ∧ Below W.heap.size W w') := fun W b => by
    have := rhas_any d NL vp k W (h.ref.below b) hk hn
    rwa [hh] at this
  have HU : Hid (∀ W, Below w.heap.size w W → Calls Try.prog 74 #[.pointer (some ⟨d, 0, none⟩), u.v] W fun e w' => e = .returned (.bool true) ∧ Below W.heap.size W w') := fun W b => by
    have := rhas_any d NL vp u W (h.ref.below b) hu hn
    rwa [hus] at this
  have hq2 : ∀ w : World, (binOp .neq 37 u.v zId.v).run Try.prog w = .ok (.bool true) w := fun w => by rw [neq_id u zId hu zId_ok, decide_eq_false hz]; rfl
  have hq3 : ∀ w : World, (binOp .eql 37 u.v k.v).run Try.prog w = .ok (.bool true) w := fun w => by rw [eql_id u k hu hk, decide_eq_true hne]
  clear hh h hn hp hB hz hus hne
  unfold IdK.v
  go_enter Try.func31, Try.ntmps31
  go_upto_region 1 with fail
  obtain ⟨hx, hy, bx, zx⟩ := two_boxes w k u
  have ZX := hidMk zx
  clear zx
  generalize (w.alloc (.cells k.c.toArray 37)).alloc (.cells u.c.toArray 37) = W at *
  have HXI := hidMk hx
  have HYI := hidMk hy
  have HX := hidMk (fun (V : World) (b : Below W.heap.size W V) => load_id hk ((b.block _ (by have := ZX.out; omega)).trans HXI.out))
  have HY := hidMk (fun (V : World) (b : Below W.heap.size W V) => load_id hu ((b.block _ (by have := ZX.out; omega)).trans HYI.out))
  have BXX := hidMk bx
  have cW : Below W.heap.size W W := Below.refl _ _
  clear hx hy
  go_wp2_with (first
      | (refine wpList_val rfl (exec_load (t := 37) (u := .pointer (some ⟨w.heap.size, 0, none⟩)) rfl rfl (HX.out _ c2)) ?_)
      | (refine wpList_val rfl (exec_load (t := 37) (u := .pointer (some ⟨w.heap.size + 1, 0, none⟩)) rfl rfl (HY.out _ c2)) ?_)
      | (refine wpList_val rfl (exec_load (t := 37) (u := .pointer (some ⟨w.heap.size, 0, none⟩)) rfl rfl (HX.out _ c1)) ?_)
      | (refine wpList_val rfl (exec_load (t := 37) (u := .pointer (some ⟨w.heap.size + 1, 0, none⟩)) rfl rfl (HY.out _ c1)) ?_)
      | (refine wpList_val rfl (exec_load (t := 37) (u := .pointer (some ⟨w.heap.size, 0, none⟩)) rfl rfl (HX.out _ cW)) ?_)
      | (refine wpList_val rfl (exec_load (t := 37) (u := .pointer (some ⟨w.heap.size + 1, 0, none⟩)) rfl rfl (HY.out _ cW)) ?_)
      | (refine wpList_val rfl (exec_build0 rfl (build_id _)) ?_)
      | (refine wpList_val rfl (exec_binOp rfl rfl rfl (guard_id _ _ u zId _ _) (hq2 _)) ?_)
      | (refine wpList_val rfl (exec_binOp rfl rfl rfl (guard_id _ _ u k _ _) (hq3 _)) ?_)
      | (go_at_call 74; refine (H1.out _ (BXX.out.trans (cW.mono BXX.out.size))).mono ?_; rintro e w1 ⟨rfl, b1⟩; have c1 := cW.trans (b1.mono cW.size); clear H1)
      | (go_at_call 74; refine (HU.out _ (BXX.out.trans (c1.mono BXX.out.size))).mono ?_; rintro e w2 ⟨rfl, b2⟩; have c2 := c1.trans (b2.mono c1.size); clear HU)
      | fail)
  go_ret
  exact ⟨rfl, BXX.out.trans (c2.mono BXX.out.size)⟩
theorem rmove_ring (hf : Forest (lookN NL)) (hh : (lookN NL k).isSome = true) (hz : u ≠ zId) (hus : (lookN NL u).isSome = true) (hne : u ≠ k) (hab : Above (lookN NL) u k) : Calls Try.prog 31 #[.pointer (some ⟨d, 0, none⟩), k.v, u.v, .string key] w (fun e w' => e = .returned (.int .i64 100) ∧ Below w.heap.size w w') := by
  have H1 : Hid (∀ W, Below w.heap.size w W → Calls Try.prog 74 #[.pointer (some ⟨d, 0, none⟩), k.v] W fun e w' => e = .returned (.bool true) ∧ Below W.heap.size W w') := fun W b => by
    have := rhas_any d NL vp k W (h.ref.below b) hk hn
    rwa [hh] at this
  have HU : Hid (∀ W, Below w.heap.size w W → Calls Try.prog 74 #[.pointer (some ⟨d, 0, none⟩), u.v] W fun e w' => e = .returned (.bool true) ∧ Below W.heap.size W w') := fun W b => by
    have := rhas_any d NL vp u W (h.ref.below b) hu hn
    rwa [hus] at this
  have hq2 : ∀ w : World, (binOp .neq 37 u.v zId.v).run Try.prog w = .ok (.bool true) w := fun w => by rw [neq_id u zId hu zId_ok, decide_eq_false hz]; rfl
  have hq3 : ∀ w : World, (binOp .eql 37 u.v k.v).run Try.prog w = .ok (.bool false) w := fun w => by rw [eql_id u k hu hk, decide_eq_false hne]
  have HL : Hid (∀ W, Below w.heap.size w W → Calls Try.prog 76 #[.pointer (some ⟨d, 0, none⟩), u.v, k.v] W fun e w' => e = .returned (.bool true) ∧ Below W.heap.size W w') := fun W b => by
    refine (rlies_any d NL vp u k W (h.ref.below b) hu hk hn hf).mono ?_
    rintro e w' ⟨l, bb, rfl, hup, bl⟩
    refine ⟨?_, bl⟩
    have := up_above hf hup hne
    rw [decide_eq_true (this.2 hab)]
  clear hh h hn hp hB hz hus hne hab hf
  unfold IdK.v
  go_enter Try.func31, Try.ntmps31
  go_upto_region 1 with fail
  obtain ⟨hx, hy, bx, zx⟩ := two_boxes w k u
  have ZX := hidMk zx
  clear zx
  generalize (w.alloc (.cells k.c.toArray 37)).alloc (.cells u.c.toArray 37) = W at *
  have HXI := hidMk hx
  have HYI := hidMk hy
  have HX := hidMk (fun (V : World) (b : Below W.heap.size W V) => load_id hk ((b.block _ (by have := ZX.out; omega)).trans HXI.out))
  have HY := hidMk (fun (V : World) (b : Below W.heap.size W V) => load_id hu ((b.block _ (by have := ZX.out; omega)).trans HYI.out))
  have BXX := hidMk bx
  have cW : Below W.heap.size W W := Below.refl _ _
  clear hx hy
  go_wp2_with (first
      | (refine wpList_val rfl (exec_load (t := 37) (u := .pointer (some ⟨w.heap.size, 0, none⟩)) rfl rfl (HX.out _ c2)) ?_)
      | (refine wpList_val rfl (exec_load (t := 37) (u := .pointer (some ⟨w.heap.size + 1, 0, none⟩)) rfl rfl (HY.out _ c2)) ?_)
      | (refine wpList_val rfl (exec_load (t := 37) (u := .pointer (some ⟨w.heap.size, 0, none⟩)) rfl rfl (HX.out _ c1)) ?_)
      | (refine wpList_val rfl (exec_load (t := 37) (u := .pointer (some ⟨w.heap.size + 1, 0, none⟩)) rfl rfl (HY.out _ c1)) ?_)
      | (refine wpList_val rfl (exec_load (t := 37) (u := .pointer (some ⟨w.heap.size, 0, none⟩)) rfl rfl (HX.out _ cW)) ?_)
      | (refine wpList_val rfl (exec_load (t := 37) (u := .pointer (some ⟨w.heap.size + 1, 0, none⟩)) rfl rfl (HY.out _ cW)) ?_)
      | (refine wpList_val rfl (exec_build0 rfl (build_id _)) ?_)
      | (refine wpList_val rfl (exec_binOp rfl rfl rfl (guard_id _ _ u zId _ _) (hq2 _)) ?_)
      | (refine wpList_val rfl (exec_binOp rfl rfl rfl (guard_id _ _ u k _ _) (hq3 _)) ?_)
      | (go_at_call 74; refine (H1.out _ (BXX.out.trans (cW.mono BXX.out.size))).mono ?_; rintro e w1 ⟨rfl, b1⟩; have c1 := cW.trans (b1.mono cW.size); clear H1)
      | (go_at_call 74; refine (HU.out _ (BXX.out.trans (c1.mono BXX.out.size))).mono ?_; rintro e w2 ⟨rfl, b2⟩; have c2 := c1.trans (b2.mono c1.size); clear HU)
      | (go_at_call 76; refine (HL.out _ (BXX.out.trans (c2.mono BXX.out.size))).mono ?_; rintro e w3 ⟨rfl, b3⟩; have c3 := c2.trans (b3.mono c2.size); clear HL)
      | fail)
  go_ret
  exact ⟨rfl, BXX.out.trans (c3.mono BXX.out.size)⟩
theorem rmove_top {m : NodeV} (hm : lookN NL k = some m) (hf : Forest (lookN NL)) (hz : u = zId) (hne : u ≠ k) (hab : ¬ Above (lookN NL) u k) : Calls Try.prog 31 #[.pointer (some ⟨d, 0, none⟩), k.v, u.v, .string key] w (RStep B w d NL PL vn vp us k ⟨u, key, false⟩ 0) := by
  have hh : (lookN NL k).isSome = true := by rw [hm]; rfl
  have H1 : Hid (∀ W, Below w.heap.size w W → Calls Try.prog 74 #[.pointer (some ⟨d, 0, none⟩), k.v] W fun e w' => e = .returned (.bool true) ∧ Below W.heap.size W w') := fun W b => by
    have := rhas_any d NL vp k W (h.ref.below b) hk hn
    rwa [hh] at this
  have hq2 : ∀ w : World, (binOp .neq 37 u.v zId.v).run Try.prog w = .ok (.bool false) w := fun w => by rw [neq_id u zId hu zId_ok, decide_eq_true hz]; rfl
  have hq3 : ∀ w : World, (binOp .eql 37 u.v k.v).run Try.prog w = .ok (.bool false) w := fun w => by rw [eql_id u k hu hk, decide_eq_false hne]
  have HL : Hid (∀ W, Below w.heap.size w W → Calls Try.prog 76 #[.pointer (some ⟨d, 0, none⟩), u.v, k.v] W fun e w' => e = .returned (.bool false) ∧ Below W.heap.size W w') := fun W b => by
    refine (rlies_any d NL vp u k W (h.ref.below b) hu hk hn hf).mono ?_
    rintro e w' ⟨l, bb, rfl, hup, bl⟩
    refine ⟨?_, bl⟩
    have := up_above hf hup hne
    rw [decide_eq_false (fun q => hab (this.1 q))]
  have HM := hidMk (fun (W : World) (b : Below w.heap.size w W) => mark_any (h.below b) (Nat.le_trans hB b.size) hn hp)
  have HT := hidMk (fun (w2 w3 : World) (qv cv : Value) => put_tail (w2 := w2) (w3 := w3) (qv := qv) (cv := cv) h hB hn hp k hk (n := ⟨u, key, false⟩) hu hm)
  have hn0 := hn
  clear hh hp hB hz hne hab hf h hn
  unfold IdK.v
  go_enter Try.func31, Try.ntmps31
  go_upto_region 1 with fail
  obtain ⟨hx, hy, bx, zx⟩ := two_boxes w k u
  have ZX := hidMk zx
  clear zx
  generalize (w.alloc (.cells k.c.toArray 37)).alloc (.cells u.c.toArray 37) = W at *
  have HXI := hidMk hx
  have HYI := hidMk hy
  have HX := hidMk (fun (V : World) (b : Below W.heap.size W V) => load_id hk ((b.block _ (by have := ZX.out; omega)).trans HXI.out))
  have HY := hidMk (fun (V : World) (b : Below W.heap.size W V) => load_id hu ((b.block _ (by have := ZX.out; omega)).trans HYI.out))
  have BXX := hidMk bx
  have cW : Below W.heap.size W W := Below.refl _ _
  clear hx hy
  go_upto_region 10 with (first
      | (refine wpList_val rfl (exec_load (t := 37) (u := .pointer (some ⟨w.heap.size, 0, none⟩)) rfl rfl (HX.out _ c1)) ?_)
      | (refine wpList_val rfl (exec_load (t := 37) (u := .pointer (some ⟨w.heap.size + 1, 0, none⟩)) rfl rfl (HY.out _ c1)) ?_)
      | (refine wpList_val rfl (exec_load (t := 37) (u := .pointer (some ⟨w.heap.size, 0, none⟩)) rfl rfl (HX.out _ cW)) ?_)
      | (refine wpList_val rfl (exec_load (t := 37) (u := .pointer (some ⟨w.heap.size + 1, 0, none⟩)) rfl rfl (HY.out _ cW)) ?_)
      | (refine wpList_val rfl (exec_build0 rfl (build_id _)) ?_)
      | (refine wpList_val rfl (exec_binOp rfl rfl rfl (guard_id _ _ u zId _ _) (hq2 _)) ?_)
      | (refine wpList_val rfl (exec_binOp rfl rfl rfl (guard_id _ _ u k _ _) (hq3 _)) ?_)
      | (go_at_call 74; refine (H1.out _ (BXX.out.trans (cW.mono BXX.out.size))).mono ?_; rintro e w1 ⟨rfl, b1⟩; have c1 := cW.trans (b1.mono cW.size); clear H1)
      | (go_at_call 76; refine (HL.out _ (BXX.out.trans (c1.mono BXX.out.size))).mono ?_; rintro e w3 ⟨rfl, b3⟩; have c3 := c1.trans (b3.mono c1.size); clear HL)
      | (go_at_call 75; refine (HM.out _ (BXX.out.trans (c3.mono BXX.out.size))).mono ?_; rintro e w4 ⟨rfl, qv, cv, hr, t4, hb4⟩)
      | fail)
  have CN := BXX.out.trans (c3.mono BXX.out.size)
  obtain ⟨j, g, c, ej, lj, hv, hX⟩ := HT.out w3 w4 qv cv CN hr t4 hb4
  have HR := hidMk (fun (V : World) (b : Below w4.heap.size w4 V) => find_any d NL qv k V (hr.ref.below b) hk hn0)
  have hx2 : IdAt w3 w.heap.size k := (c3.block _ (by have := ZX.out; omega)).trans HXI.out
  have hy2 : IdAt w3 (w.heap.size + 1) u := (c3.block _ (by have := ZX.out; omega)).trans HYI.out
  have l2 : w.heap.size + 1 < w3.heap.size := (Array.getElem?_eq_some_iff.1 hy2).1
  have bd : Below w4.heap.size w4 w4.drew := (Below.refl _ _).drew
  have hS : ∀ X, Below w4.heap.size w4 X → IdAt X w.heap.size k ∧ IdAt X (w.heap.size + 1) u ∧ X.cell? ⟨d, 0, none⟩ = some vn := fun X bX => by
    obtain ⟨q1, q2, _⟩ := hX X bX
    exact ⟨(q2 _ (Nat.le_refl _) (by omega)).trans hx2, (q2 _ (by omega) l2).trans hy2, q1⟩
  refine rmove10 d (.pointer (some ⟨d, 0, none⟩)) (.pointer (some ⟨w.heap.size, 0, none⟩)) (.pointer (some ⟨w.heap.size + 1, 0, none⟩)) k.v u.v (.string key) (.agg (rnC (k, ⟨u, key, false⟩)).toArray) vn (.int .i64 (j : Int)) (.pointer (some ⟨g, j * 68, none⟩))
    (fun W => IdAt W w.heap.size k ∧ IdAt W (w.heap.size + 1) u ∧ W.cell? ⟨d, 0, none⟩ = some vn) (fun X => Below w4.heap.size w4 X) (fun y => RStep B w d NL PL vn vp us k ⟨u, key, false⟩ 0 (.returned (.int .i64 0)) y) _ w4 _ rfl rfl rfl rfl rfl (fun W => by go_simp) (fun W hw => load_ns hw.2.2) (fun W => build_rn W k u hk hu key) (fun W hw => load_id hk hw.1) (fun W hw => load_id hu hw.2.1) (fun W => by rw [hv]; exact ix_rz lj (by omega) W) (hS _ bd) ?_ hS ?_ ?_
  · refine (HR.out _ bd).mono ?_
    rintro e w5 ⟨rfl, b5⟩
    exact ⟨by rw [ej], bd.trans (b5.mono bd.size)⟩
  · intro X bX
    obtain ⟨_, _, y, q3, q4, q5, q6⟩ := hX X bX
    exact ⟨y, q3, ⟨(q5 _ (Nat.le_refl _) (by omega)).trans hx2, (q5 _ (by omega) l2).trans hy2, q4⟩, q6⟩
  · intro a' w' hw' ha
    subst ha
    simp only [Act.put, List.setIfInBounds_toArray, List.set_cons_zero, List.set_cons_succ]
    go_wp2
    go_ret
    exact hw'
theorem rmove_node {m : NodeV} (hm : lookN NL k = some m) (hf : Forest (lookN NL)) (hz : u ≠ zId) (hus : (lookN NL u).isSome = true) (hne : u ≠ k) (hab : ¬ Above (lookN NL) u k) : Calls Try.prog 31 #[.pointer (some ⟨d, 0, none⟩), k.v, u.v, .string key] w (RStep B w d NL PL vn vp us k ⟨u, key, false⟩ 0) := by
  have hh : (lookN NL k).isSome = true := by rw [hm]; rfl
  have H1 : Hid (∀ W, Below w.heap.size w W → Calls Try.prog 74 #[.pointer (some ⟨d, 0, none⟩), k.v] W fun e w' => e = .returned (.bool true) ∧ Below W.heap.size W w') := fun W b => by
    have := rhas_any d NL vp k W (h.ref.below b) hk hn
    rwa [hh] at this
  have HU : Hid (∀ W, Below w.heap.size w W → Calls Try.prog 74 #[.pointer (some ⟨d, 0, none⟩), u.v] W fun e w' => e = .returned (.bool true) ∧ Below W.heap.size W w') := fun W b => by
    have := rhas_any d NL vp u W (h.ref.below b) hu hn
    rwa [hus] at this
  have hq2 : ∀ w : World, (binOp .neq 37 u.v zId.v).run Try.prog w = .ok (.bool true) w := fun w => by rw [neq_id u zId hu zId_ok, decide_eq_false hz]; rfl
  have hq3 : ∀ w : World, (binOp .eql 37 u.v k.v).run Try.prog w = .ok (.bool false) w := fun w => by rw [eql_id u k hu hk, decide_eq_false hne]
  have HL : Hid (∀ W, Below w.heap.size w W → Calls Try.prog 76 #[.pointer (some ⟨d, 0, none⟩), u.v, k.v] W fun e w' => e = .returned (.bool false) ∧ Below W.heap.size W w') := fun W b => by
    refine (rlies_any d NL vp u k W (h.ref.below b) hu hk hn hf).mono ?_
    rintro e w' ⟨l, bb, rfl, hup, bl⟩
    refine ⟨?_, bl⟩
    have := up_above hf hup hne
    rw [decide_eq_false (fun q => hab (this.1 q))]
  have HM := hidMk (fun (W : World) (b : Below w.heap.size w W) => mark_any (h.below b) (Nat.le_trans hB b.size) hn hp)
  have HT := hidMk (fun (w2 w3 : World) (qv cv : Value) => put_tail (w2 := w2) (w3 := w3) (qv := qv) (cv := cv) h hB hn hp k hk (n := ⟨u, key, false⟩) hu hm)
  have hn0 := hn
  clear hh hp hB hz hus hne hab hf h hn
  unfold IdK.v
  go_enter Try.func31, Try.ntmps31
  go_upto_region 1 with fail
  obtain ⟨hx, hy, bx, zx⟩ := two_boxes w k u
  have ZX := hidMk zx
  clear zx
  generalize (w.alloc (.cells k.c.toArray 37)).alloc (.cells u.c.toArray 37) = W at *
  have HXI := hidMk hx
  have HYI := hidMk hy
  have HX := hidMk (fun (V : World) (b : Below W.heap.size W V) => load_id hk ((b.block _ (by have := ZX.out; omega)).trans HXI.out))
  have HY := hidMk (fun (V : World) (b : Below W.heap.size W V) => load_id hu ((b.block _ (by have := ZX.out; omega)).trans HYI.out))
  have BXX := hidMk bx
  have cW : Below W.heap.size W W := Below.refl _ _
  clear hx hy
  go_upto_region 10 with (first
      | (refine wpList_val rfl (exec_load (t := 37) (u := .pointer (some ⟨w.heap.size, 0, none⟩)) rfl rfl (HX.out _ c2)) ?_)
      | (refine wpList_val rfl (exec_load (t := 37) (u := .pointer (some ⟨w.heap.size + 1, 0, none⟩)) rfl rfl (HY.out _ c2)) ?_)
      | (refine wpList_val rfl (exec_load (t := 37) (u := .pointer (some ⟨w.heap.size, 0, none⟩)) rfl rfl (HX.out _ c1)) ?_)
      | (refine wpList_val rfl (exec_load (t := 37) (u := .pointer (some ⟨w.heap.size + 1, 0, none⟩)) rfl rfl (HY.out _ c1)) ?_)
      | (refine wpList_val rfl (exec_load (t := 37) (u := .pointer (some ⟨w.heap.size, 0, none⟩)) rfl rfl (HX.out _ cW)) ?_)
      | (refine wpList_val rfl (exec_load (t := 37) (u := .pointer (some ⟨w.heap.size + 1, 0, none⟩)) rfl rfl (HY.out _ cW)) ?_)
      | (refine wpList_val rfl (exec_build0 rfl (build_id _)) ?_)
      | (refine wpList_val rfl (exec_binOp rfl rfl rfl (guard_id _ _ u zId _ _) (hq2 _)) ?_)
      | (refine wpList_val rfl (exec_binOp rfl rfl rfl (guard_id _ _ u k _ _) (hq3 _)) ?_)
      | (go_at_call 74; refine (H1.out _ (BXX.out.trans (cW.mono BXX.out.size))).mono ?_; rintro e w1 ⟨rfl, b1⟩; have c1 := cW.trans (b1.mono cW.size); clear H1)
      | (go_at_call 74; refine (HU.out _ (BXX.out.trans (c1.mono BXX.out.size))).mono ?_; rintro e w2 ⟨rfl, b2⟩; have c2 := c1.trans (b2.mono c1.size); clear HU)
      | (go_at_call 76; refine (HL.out _ (BXX.out.trans (c2.mono BXX.out.size))).mono ?_; rintro e w3 ⟨rfl, b3⟩; have c3 := c2.trans (b3.mono c2.size); clear HL)
      | (go_at_call 75; refine (HM.out _ (BXX.out.trans (c3.mono BXX.out.size))).mono ?_; rintro e w4 ⟨rfl, qv, cv, hr, t4, hb4⟩)
      | fail)
  have CN := BXX.out.trans (c3.mono BXX.out.size)
  obtain ⟨j, g, c, ej, lj, hv, hX⟩ := HT.out w3 w4 qv cv CN hr t4 hb4
  have HR := hidMk (fun (V : World) (b : Below w4.heap.size w4 V) => find_any d NL qv k V (hr.ref.below b) hk hn0)
  have hx2 : IdAt w3 w.heap.size k := (c3.block _ (by have := ZX.out; omega)).trans HXI.out
  have hy2 : IdAt w3 (w.heap.size + 1) u := (c3.block _ (by have := ZX.out; omega)).trans HYI.out
  have l2 : w.heap.size + 1 < w3.heap.size := (Array.getElem?_eq_some_iff.1 hy2).1
  have bd : Below w4.heap.size w4 w4.drew := (Below.refl _ _).drew
  have hS : ∀ X, Below w4.heap.size w4 X → IdAt X w.heap.size k ∧ IdAt X (w.heap.size + 1) u ∧ X.cell? ⟨d, 0, none⟩ = some vn := fun X bX => by
    obtain ⟨q1, q2, _⟩ := hX X bX
    exact ⟨(q2 _ (Nat.le_refl _) (by omega)).trans hx2, (q2 _ (by omega) l2).trans hy2, q1⟩
  refine rmove10 d (.pointer (some ⟨d, 0, none⟩)) (.pointer (some ⟨w.heap.size, 0, none⟩)) (.pointer (some ⟨w.heap.size + 1, 0, none⟩)) k.v u.v (.string key) (.agg (rnC (k, ⟨u, key, false⟩)).toArray) vn (.int .i64 (j : Int)) (.pointer (some ⟨g, j * 68, none⟩))
    (fun W => IdAt W w.heap.size k ∧ IdAt W (w.heap.size + 1) u ∧ W.cell? ⟨d, 0, none⟩ = some vn) (fun X => Below w4.heap.size w4 X) (fun y => RStep B w d NL PL vn vp us k ⟨u, key, false⟩ 0 (.returned (.int .i64 0)) y) _ w4 _ rfl rfl rfl rfl rfl (fun W => by go_simp) (fun W hw => load_ns hw.2.2) (fun W => build_rn W k u hk hu key) (fun W hw => load_id hk hw.1) (fun W hw => load_id hu hw.2.1) (fun W => by rw [hv]; exact ix_rz lj (by omega) W) (hS _ bd) ?_ hS ?_ ?_
  · refine (HR.out _ bd).mono ?_
    rintro e w5 ⟨rfl, b5⟩
    exact ⟨by rw [ej], bd.trans (b5.mono bd.size)⟩
  · intro X bX
    obtain ⟨_, _, y, q3, q4, q5, q6⟩ := hX X bX
    exact ⟨y, q3, ⟨(q5 _ (Nat.le_refl _) (by omega)).trans hx2, (q5 _ (by omega) l2).trans hy2, q4⟩, q6⟩
  · intro a' w' hw' ha
    subst ha
    simp only [Act.put, List.setIfInBounds_toArray, List.set_cons_zero, List.set_cons_succ]
    go_wp2
    go_ret
    exact hw'
end
section
variable {B : Nat} {w : World} {d : Nat} {NL : List RN} {PL : List (List RN)} {vn vp : Value} {us : List Value} (h : RefP B w d NL PL vn vp us) (hB : B ≤ w.heap.size) (hn : NL.length ≤ 1300000000000) (hp : PL.length ≤ 1300000000000) (k : IdK) (hk : k.ok)
include h hB hn hp hk
theorem rprune_out (hh : lookN NL k = none) : Calls Try.prog 32 #[.pointer (some ⟨d, 0, none⟩), k.v] w (fun e w' => e = .returned (.int .i64 4) ∧ Below w.heap.size w w') := by
  have HF : Hid (∀ (W : World) (b : Below w.heap.size w W), Calls Try.prog 77 #[.pointer (some ⟨d, 0, none⟩), k.v] W fun e w' => e = .returned (.int .i64 (-1)) ∧ Below W.heap.size W w') := fun W b => by rw [← fPos_none hh]; exact find_any d NL vp k W (h.ref.below b) hk hn
  clear hh h hn hp hB
  unfold IdK.v
  go_enter Try.func32, Try.ntmps32
  obtain ⟨hx, bx, zx⟩ := box_id w k
  have ZX := hidMk zx
  clear zx
  go_upto_region 1 with fail
  generalize w.alloc (.cells k.c.toArray 37) = W at *
  have HL := hidMk (load_id hk hx)
  go_wp2_with (first
    | (refine wpList_val rfl (exec_load (t := 37) (u := .pointer (some ⟨w.heap.size, 0, none⟩)) rfl rfl HL.out) ?_)
    | (go_at_call 77; refine (HF.out _ bx).mono ?_; rintro e w1 ⟨rfl, b1⟩)
    | fail)
  go_ret
  exact ⟨rfl, bx.trans (b1.mono bx.size)⟩
theorem rprune_done {m : NodeV} (hh : lookN NL k = some m) (hm : m.pr = true) : Calls Try.prog 32 #[.pointer (some ⟨d, 0, none⟩), k.v] w (fun e w' => e = .returned (.int .i64 4) ∧ Below w.heap.size w w') := by
  obtain ⟨j, hj, hji, hjl⟩ := fPos_some hh
  have hpo := h.ok _ (List.mem_of_getElem? hji)
  have lt := h.ref.lt
  obtain ⟨a, c, hc, hrow⟩ := h.ref.cell
  obtain ⟨b, o, rfl, lb, hr⟩ : ∃ b o, a = some ⟨b, o, none⟩ ∧ b < w.heap.size ∧ w.rangeAt b (o + j * 68) (rnC (k, m)) := by
    rcases hrow with e | ⟨b, o, e, h1, h2⟩
    · rw [e] at hji; simp at hji
    · exact ⟨b, o, e, h1, h2 j _ hji⟩
  obtain ⟨n, hnn⟩ : ∃ n, NL.length = n := ⟨_, rfl⟩
  have HF : Hid (∀ (W : World) (b : Below w.heap.size w W), Calls Try.prog 77 #[.pointer (some ⟨d, 0, none⟩), k.v] W fun e w' => e = .returned (.int .i64 (j : Int)) ∧ Below W.heap.size W w') := fun W b => by rw [← hj]; exact find_any d NL vp k W (h.ref.below b) hk hn
  rw [hnn] at hc hjl
  have C0 : w.cell? ⟨d, 0, none⟩ = some (.slice (some ⟨b, o, none⟩) n c) := by rw [cell_of_row _ _ 0 _ _ _ hc]; rfl
  have HC := hidMk (fun (W : World) (b : Below w.heap.size w W) => (b.cell (p := ⟨d, 0, none⟩) lt).trans C0)
  have HR := hidMk (fun (W : World) (bb : Below w.heap.size w W) => rangeAt_keep hr (bb.block _ lb))
  have HP := hidMk hm
  have hbig : n ≤ 1300000000000 := by omega
  clear hc hnn hn hj hji hrow C0 hr hh hm hp hB h
  unfold IdK.v
  go_enter Try.func32, Try.ntmps32
  obtain ⟨hx, bx, zx⟩ := box_id w k
  have ZX := hidMk zx
  clear zx
  go_upto_region 1 with fail
  generalize w.alloc (.cells k.c.toArray 37) = W at *
  have HL := hidMk (load_id hk hx)
  go_upto_region 4 with (first
    | (refine wpList_val rfl (exec_load (t := 37) (u := .pointer (some ⟨w.heap.size, 0, none⟩)) rfl rfl HL.out) ?_)
    | (go_at_call 77; refine (HF.out _ bx).mono ?_; rintro e w1 ⟨rfl, b1⟩)
    | fail)
  have bel1 : Below w.heap.size w w1 := bx.trans (b1.mono bx.size)
  have c0 := HC.out w1 bel1
  have hcp : w1.cell? ⟨b, o + j * 68 + 67, none⟩ = some (.bool true) := by
    have l1 : k.c.length = 33 := IdK.len hpo.k
    have l2 : m.u.c.length = 33 := IdK.len hpo.u
    have := HR.out w1 bel1 67 (.bool m.pr) (by
      rw [rnC, List.getElem?_append_right (by simp only; omega), l1, List.getElem?_append_right (by simp only; omega), l2]
      rfl)
    rwa [HP.out] at this
  clear HL HF HR HC
  go_wp2
  go_ret
  exact ⟨rfl, bel1⟩
theorem rprune_ok {m : NodeV} (hh : lookN NL k = some m) (hm : m.pr = false) : Calls Try.prog 32 #[.pointer (some ⟨d, 0, none⟩), k.v] w (RStep B w d NL PL vn vp us k ⟨zId, ⟨#[]⟩, true⟩ 0) := by
  obtain ⟨j, hj, hji, hjl⟩ := fPos_some hh
  have hpo := h.ok _ (List.mem_of_getElem? hji)
  have lt := h.ref.lt
  obtain ⟨a, c, hc, hrow⟩ := h.ref.cell
  obtain ⟨b, o, rfl, lb, hr⟩ : ∃ b o, a = some ⟨b, o, none⟩ ∧ b < w.heap.size ∧ w.rangeAt b (o + j * 68) (rnC (k, m)) := by
    rcases hrow with e | ⟨b, o, e, h1, h2⟩
    · rw [e] at hji; simp at hji
    · exact ⟨b, o, e, h1, h2 j _ hji⟩
  obtain ⟨n, hnn⟩ : ∃ n, NL.length = n := ⟨_, rfl⟩
  have HF : Hid (∀ (W : World) (b : Below w.heap.size w W), Calls Try.prog 77 #[.pointer (some ⟨d, 0, none⟩), k.v] W fun e w' => e = .returned (.int .i64 (j : Int)) ∧ Below W.heap.size W w') := fun W b => by rw [← hj]; exact find_any d NL vp k W (h.ref.below b) hk hn
  have HM := hidMk (fun (W : World) (b : Below w.heap.size w W) => mark_any (h.below b) (Nat.le_trans hB b.size) hn hp)
  have HT := hidMk (fun (w2 w3 : World) (qv cv : Value) => put_tail (w2 := w2) (w3 := w3) (qv := qv) (cv := cv) h hB hn hp k hk (n := ⟨zId, ⟨#[]⟩, true⟩) zId_ok hh)
  have HJ := hidMk hj
  have HN := hidMk hnn
  rw [hnn] at hc hjl
  have C0 : w.cell? ⟨d, 0, none⟩ = some (.slice (some ⟨b, o, none⟩) n c) := by rw [cell_of_row _ _ 0 _ _ _ hc]; rfl
  have HC := hidMk (fun (W : World) (b : Below w.heap.size w W) => (b.cell (p := ⟨d, 0, none⟩) lt).trans C0)
  have HR := hidMk (fun (W : World) (bb : Below w.heap.size w W) => rangeAt_keep hr (bb.block _ lb))
  have HP := hidMk hm
  have hbig : n ≤ 1300000000000 := by omega
  clear hc hnn hn hj hji hrow C0 hr hh hm hp hB h
  unfold IdK.v
  go_enter Try.func32, Try.ntmps32
  obtain ⟨hx, bx, zx⟩ := box_id w k
  have ZX := hidMk zx
  clear zx
  go_upto_region 1 with fail
  generalize w.alloc (.cells k.c.toArray 37) = W at *
  have HL := hidMk (load_id hk hx)
  have HXI := hidMk hx
  clear hx
  go_upto_region 4 with (first
    | (refine wpList_val rfl (exec_load (t := 37) (u := .pointer (some ⟨w.heap.size, 0, none⟩)) rfl rfl HL.out) ?_)
    | (go_at_call 77; refine (HF.out _ bx).mono ?_; rintro e w1 ⟨rfl, b1⟩)
    | fail)
  have bel1 : Below w.heap.size w w1 := bx.trans (b1.mono bx.size)
  have c0 := HC.out w1 bel1
  have hcp : w1.cell? ⟨b, o + j * 68 + 67, none⟩ = some (.bool false) := by
    have l1 : k.c.length = 33 := IdK.len hpo.k
    have l2 : m.u.c.length = 33 := IdK.len hpo.u
    have := HR.out w1 bel1 67 (.bool m.pr) (by
      rw [rnC, List.getElem?_append_right (by simp only; omega), l1, List.getElem?_append_right (by simp only; omega), l2]
      rfl)
    rwa [HP.out] at this
  have HX1 := hidMk ((b1.block w.heap.size (by have := ZX.out; omega)).trans HXI.out)
  have l1 : w.heap.size < w1.heap.size := by have := ZX.out; have := b1.size; omega
  have LH := hidMk l1
  clear HL HF HR HC HXI l1 b1 bx
  go_upto_region 7 with (first
    | (go_at_call 75; refine (HM.out _ bel1).mono ?_; rintro e w4 ⟨rfl, qv, cv, hr, t4, hb4⟩)
    | fail)
  obtain ⟨j', g, c', ej, lj, hv, hX⟩ := HT.out w1 w4 qv cv bel1 hr t4 hb4
  obtain rfl : j' = j := by have := HJ.out; omega
  have bd : Below w4.heap.size w4 w4.drew := (Below.refl _ _).drew
  obtain ⟨q1, q2, y, q3, q4, q5, q6⟩ := hX _ bd
  have hx1 := HX1.out
  have l1 := LH.out
  refine rprune7 d (.pointer (some ⟨d, 0, none⟩)) (.pointer (some ⟨w.heap.size, 0, none⟩)) k.v (.agg (rnC (k, ⟨zId, ⟨#[]⟩, true⟩)).toArray) vn (.int .i64 (j' : Int)) (.pointer (some ⟨g, j' * 68, none⟩)) y
    (fun W => IdAt W w.heap.size k ∧ W.cell? ⟨d, 0, none⟩ = some vn) _ w4 _ rfl rfl rfl rfl (fun W => by go_simp) (fun W hw => load_ns hw.2) (fun W => build_rp W k hk) (fun W hw => load_id hk hw.1) (fun W => by rw [hv]; exact ix_rz lj (by have := HN.out; omega) W) ⟨(q2 _ (Nat.le_refl _) l1).trans hx1, q1⟩ q3 ⟨(q5 _ (Nat.le_refl _) l1).trans hx1, q4⟩ ?_
  intro a' w' hw' ha
  subst hw' ha
  simp only [Act.put, List.setIfInBounds_toArray, List.set_cons_zero, List.set_cons_succ]
  go_wp2
  go_ret
  exact q6
theorem rprune_all : Calls Try.prog 32 #[.pointer (some ⟨d, 0, none⟩), k.v] w (RStep B w d NL PL vn vp us k ⟨zId, ⟨#[]⟩, true⟩ (pC (lookN NL) k)) := by
  unfold pC
  cases hl : lookN NL k with
  | none =>
    rw [if_pos (by rfl)]
    exact (rprune_out h hB hn hp k hk hl).mono fun e w' q => Or.inl ⟨by decide, q.1, q.2⟩
  | some m =>
    have hnd : nd (lookN NL) k = m := by rw [nd, hl]; rfl
    rw [if_neg (by simp), hnd]
    cases hm : m.pr with
    | true =>
      rw [if_pos rfl]
      exact (rprune_done h hB hn hp k hk hl hm).mono fun e w' q => Or.inl ⟨by decide, q.1, q.2⟩
    | false =>
      rw [if_neg (by decide)]
      exact rprune_ok h hB hn hp k hk hl hm
variable (u : IdK) (key : ByteArray) (hu : u.ok)
include hu
theorem rgrow_all : Calls Try.prog 30 #[.pointer (some ⟨d, 0, none⟩), k.v, u.v, .string key] w (RStep B w d NL PL vn vp us k ⟨u, key, false⟩ (gC (lookN NL) k u)) := by
  unfold gC
  by_cases hz : k = zId
  · rw [if_pos hz]
    exact (rgrow_zero d NL vp k u key w h.ref hk hu hn hz).mono fun e w' q => Or.inl ⟨by decide, q.1, q.2⟩
  · rw [if_neg hz]
    cases hl : lookN NL k with
    | some m =>
      rw [if_pos (by rfl)]
      exact (rgrow_known d NL vp k u key w h.ref hk hu hn hz (by rw [hl]; rfl)).mono fun e w' q => Or.inl ⟨by decide, q.1, q.2⟩
    | none =>
      rw [if_neg (by simp)]
      cases hb : Bears (lookN NL) u with
      | true =>
        rw [if_pos rfl]
        exact rgrow_ok h hB hn hp k u key hk hu hz hl hb
      | false =>
        rw [if_neg (by decide)]
        exact (rgrow_none d NL vp k u key w h.ref hk hu hn hz (by rw [hl]; rfl) hb).mono fun e w' q => Or.inl ⟨by decide, q.1, q.2⟩
theorem rmove_all (hf : Forest (lookN NL)) : Calls Try.prog 31 #[.pointer (some ⟨d, 0, none⟩), k.v, u.v, .string key] w (RStep B w d NL PL vn vp us k ⟨u, key, false⟩ (mC (lookN NL) k u)) := by
  unfold mC
  cases hl : lookN NL k with
  | none =>
    rw [if_pos (by rfl)]
    exact (rmove_out h hB hn hp k u key hk hu (by rw [hl]; rfl)).mono fun e w' q => Or.inl ⟨by decide, q.1, q.2⟩
  | some m =>
    have hs : (lookN NL k).isSome = true := by rw [hl]; rfl
    have hkz : k ≠ zId := by rintro rfl; rw [hf.zero] at hl; cases hl
    rw [if_neg (by simp)]
    by_cases hz : u = zId
    · have hb : Bears (lookN NL) u = true := bears_iff.2 (Or.inl hz)
      have hne : u ≠ k := fun e => hkz (by rw [← e]; exact hz)
      have hab : ¬ Above (lookN NL) u k := by
        have hc : Climb (lookN NL) u [] (nd (lookN NL) u).pr := .top (Or.inr (by rw [hz, nd, hf.zero]; rfl))
        rintro (q | ⟨l', p', hc', hm⟩)
        · exact hne q
        · obtain ⟨rfl, _⟩ := hc.same hc'; cases hm
      rw [if_neg (by rw [hb]; decide), if_neg hab]
      exact rmove_top h hB hn hp k u key hk hu hl hf hz hne hab
    · cases hu2 : (lookN NL u).isSome with
      | false =>
        have hb : Bears (lookN NL) u = false := by simp [Bears, hz, hu2]
        rw [if_pos hb]
        exact (rmove_none h hB hn hp k u key hk hu hs hz hu2).mono fun e w' q => Or.inl ⟨by decide, q.1, q.2⟩
      | true =>
        have hb : Bears (lookN NL) u = true := bears_iff.2 (Or.inr hu2)
        rw [if_neg (by rw [hb]; decide)]
        by_cases hab : Above (lookN NL) u k
        · rw [if_pos hab]
          by_cases hne : u = k
          · exact (rmove_self h hB hn hp k u key hk hu hs hz hu2 hne).mono fun e w' q => Or.inl ⟨by decide, q.1, q.2⟩
          · exact (rmove_ring h hB hn hp k u key hk hu hf hs hz hu2 hne hab).mono fun e w' q => Or.inl ⟨by decide, q.1, q.2⟩
        · rw [if_neg hab]
          exact rmove_node h hB hn hp k u key hk hu hl hf hz hu2 (fun e => hab (Or.inl e)) hab
end
end Go.Proofs.Ytoofljkgdjjllaa
namespace Go.Proofs.Ytoofljkgdjjllaa
open Go.RowKit
set_option linter.unusedVariables false
set_option linter.unusedSimpArgs false
theorem infoBk : (Try.prog.info? 45).map (fun i => (i.zero, i.size, i.bytes)) = some (some (.pointer none), 1, 8) := by kernel_rfl
theorem infoIn : (Try.prog.info? 3).map (fun i => (i.zero, i.size, i.bytes)) = some (some (.int .i64 0), 1, 8) := by kernel_rfl
theorem run_bs1 (T e y : TypeId) (z : Value) (ht : Try.prog.underlying T = some (.slice e)) (hi : (Try.prog.info? e).map (fun i => (i.zero, i.size, i.bytes)) = some (some z, 1, y)) (hz : z.cells.size = 1) (v : Value) (hc : v.cells = #[v]) (w : World) : (Instr.buildSlice T 1 #[(0, v)]).run Try.prog w = .ok (.slice (some ⟨w.heap.size, 0, none⟩) 1 1) (w.alloc (.cells #[v] e)) := by
  obtain ⟨ie, hi, hz0, hs, hby⟩ := info_parts hi
  refine run_buildSlice w T e 1 _ #[v] ie _ ht hi hz0 (by rw [hs]; decide) (by rw [hs]; decide) ?_
  rw [hs]
  have := Go.Great.fill_whole (s := 1) (by decide) [v] ((Array.range (1 * 1)).map (z.cells[· % z.cells.size]!)) (by intro u hu; simp at hu; subst hu; rw [hc]; rfl) (by simp)
  simpa [hc] using this
theorem bkV_cells (b : Option Nat) : (bkV b).cells = #[bkV b] := by cases b <;> rfl
theorem bkV_one (b : Option Nat) : (bkV b).oneCell' = true := by cases b <;> rfl
theorem load_bs {w : World} {b o : Nat} {v : Value} (h : w.cell? ⟨b, o, none⟩ = some v) : (Instr.loadAt 29 (.pointer (some ⟨b, o, none⟩))).run Try.prog w = .ok v w := by go_simp
theorem load_is {w : World} {b o : Nat} {v : Value} (h : w.cell? ⟨b, o, none⟩ = some v) : (Instr.loadAt 30 (.pointer (some ⟨b, o, none⟩))).run Try.prog w = .ok v w := by go_simp
theorem load_tp {w : World} {b o : Nat} {v : Value} (h : w.cell? ⟨b, o, none⟩ = some v) : (Instr.loadAt 25 (.pointer (some ⟨b, o, none⟩))).run Try.prog w = .ok v w := by go_simp
theorem load_dp {w : World} {b o : Nat} {v : Value} (h : w.cell? ⟨b, o, none⟩ = some v) : (Instr.loadAt 27 (.pointer (some ⟨b, o, none⟩))).run Try.prog w = .ok v w := by go_simp
theorem load_bk {w : World} {b o : Nat} {v : Value} (h : w.cell? ⟨b, o, none⟩ = some v) : (Instr.loadAt 45 (.pointer (some ⟨b, o, none⟩))).run Try.prog w = .ok v w := by go_simp
theorem load_in {w : World} {b o : Nat} {v : Value} (h : w.cell? ⟨b, o, none⟩ = some v) : (Instr.loadAt 3 (.pointer (some ⟨b, o, none⟩))).run Try.prog w = .ok v w := by go_simp
section
variable {w : World} {x : Nat} {v0 v1 v2 v3 : Value} (h : w.heap[x]? = some (.cells #[v0, v1, v2, v3] 32 (0, 0)))
include h
theorem cell_p0 : w.cell? ⟨x, 0, none⟩ = some v0 := by rw [cell_of_row _ _ 0 _ _ _ h]; rfl
theorem cell_p1 : w.cell? ⟨x, 1, none⟩ = some v1 := by rw [cell_of_row _ _ 1 _ _ _ h]; rfl
theorem cell_p2 : w.cell? ⟨x, 2, none⟩ = some v2 := by rw [cell_of_row _ _ 2 _ _ _ h]; rfl
theorem cell_p3 : w.cell? ⟨x, 3, none⟩ = some v3 := by rw [cell_of_row _ _ 3 _ _ _ h]; rfl
theorem store_p2 (a : Option Addr) (n c : Nat) : (Instr.storeAt 29 (.pointer (some ⟨x, 2, none⟩)) (.slice a n c)).run Try.prog w = .ok () (w.setCell ⟨x, 2, none⟩ (.slice a n c)) := by
  have hc := cell_p2 h
  have hf := frozen_of_row w x 2 _ _ h
  go_simp
theorem store_p3 (a : Option Addr) (n c : Nat) : (Instr.storeAt 30 (.pointer (some ⟨x, 3, none⟩)) (.slice a n c)).run Try.prog w = .ok () (w.setCell ⟨x, 3, none⟩ (.slice a n c)) := by
  have hc := cell_p3 h
  have hf := frozen_of_row w x 3 _ _ h
  go_simp
theorem set_p2 (u : Value) : (w.setCell ⟨x, 2, none⟩ u).heap[x]? = some (.cells #[v0, v1, u, v3] 32 (0, 0)) := by
  obtain ⟨hl, hv⟩ := Array.getElem?_eq_some_iff.1 h
  simp [World.setCell, hl, Array.getElem_modify_self, hv]
theorem set_p3 (u : Value) : (w.setCell ⟨x, 3, none⟩ u).heap[x]? = some (.cells #[v0, v1, v2, u] 32 (0, 0)) := by
  obtain ⟨hl, hv⟩ := Array.getElem?_eq_some_iff.1 h
  simp [World.setCell, hl, Array.getElem_modify_self, hv]
theorem row_not {B : Nat} {e : TypeId} {v : Value} {X : List Value} (ho : OwnV w B e v X) (he : e ≠ 32) : v.ownBlock ≠ some x := by
  intro q
  obtain ⟨_, c, hc⟩ := ho.ge x q
  rw [h] at hc
  simp at hc
  exact he hc.2.symm
end
theorem rows_apart {B : Nat} {w : World} {e e' : TypeId} {v v' : Value} {X X' : List Value} (h : OwnV w B e v X) (h' : OwnV w B e' v' X') (he : e ≠ e') {j : Nat} (q : v.ownBlock = some j) : v'.ownBlock ≠ some j := by
  intro q'
  obtain ⟨_, c, hc⟩ := h.ge j q
  obtain ⟨_, c', hc'⟩ := h'.ge j q'
  rw [hc] at hc'
  simp at hc'
  exact he hc'.2
section
variable {B : Nat} {g : Nat → Nat} {w : World} {p : Pl}
theorem backs_runs (h : PS B g w p) (hB : B ≤ w.heap.size) (hn : p.BL.length ≤ 1300000000000) (b : Option Nat) (hb : ∀ c, b = some c → g c = 2 ∧ ∃ q, w.heap[c]? = some (.cells q 103 (0, 0))) :
    ∃ (lv qv : Value) (w1 w2 w3 : World), (Instr.buildSlice 29 1 #[(0, bkV b)]).run Try.prog w = .ok lv w1 ∧ (Builtin.append_ #[29, 29] 29 #[p.bv, lv]).run Try.prog w1 = .ok qv w2 ∧ (Instr.storeAt 29 (.pointer (some ⟨p.x, 2, none⟩)) qv).run Try.prog w2 = .ok () w3 ∧
      ∃ g', Ext w g g' ∧ Tch (Mut g) w w3 ∧ PS B g' w3 { p with bv := qv, BL := p.BL ++ [b] } := by
  have e1 := run_bs1 29 45 8 _ Try.underlying29 infoBk rfl (bkV b) (bkV_cells b) w
  have b1 : Below w.heap.size w (w.alloc (.cells #[bkV b] 45)) := (Below.refl _ _).alloc (Nat.le_refl _) _
  have v1 : Vals (w.alloc (.cells #[bkV b] 45)) (some ⟨w.heap.size, 0, none⟩) [bkV b] := Or.inr ⟨_, _, rfl, fun j u hj => by
    rw [Nat.zero_add, cell_of_row _ _ _ _ _ _ (heap_alloc_new _ _)]
    simpa using hj⟩
  generalize w.alloc (.cells #[bkV b] 45) = w1 at *
  have z1 := b1.size
  obtain ⟨qv, w2, e2, own2, g2, o2⟩ := run_appV 29 45 8 _ Try.underlying29 infoBk (Or.inl rfl) rfl w1 B 29 p.bv _ _ [bkV b] 1 (h.backs.below b1) v1 (by intro u hu; simp at hu; subst hu; exact bkV_one b) (by simp; omega) (by omega)
  have t2 : Tch (fun j => p.bv.ownBlock = some j) w w2 := Tch.trans ⟨b1.os, b1.tape, b1.output, b1.size, fun j hj _ => b1.block j hj⟩ ⟨g2.os, g2.tape, g2.output, g2.size, fun j hj hO => g2.block j hj (fun q => hO q.symm)⟩
  have lx := (Array.getElem?_eq_some_iff.1 h.cell).1
  have hx2 := (t2.block _ lx (row_not h.cell h.backs (by decide))).trans h.cell
  obtain ⟨a2, c2, eqv, _⟩ := own2.open
  have es := store_p2 hx2 a2 (p.BL.map bkV ++ [bkV b]).length c2
  rw [← eqv] at es
  have ts := set_tch w2 p.x 2 qv
  have t3 : Tch (fun j => j = p.x ∨ p.bv.ownBlock = some j ∨ p.sv.ownBlock = some j) w (w2.setCell ⟨p.x, 2, none⟩ qv) := (t2.mono fun k _ q => Or.inr (Or.inl q)).trans (ts.mono fun k _ q => Or.inl q)
  have hc3 := set_p2 hx2 qv
  have own3 : OwnV (w2.setCell ⟨p.x, 2, none⟩ qv) B 45 qv ((p.BL ++ [b]).map bkV) := by
    rw [List.map_append]
    exact own2.keep fun j hj => ts.block j (by obtain ⟨_, c, q⟩ := own2.ge j hj; exact (Array.getElem?_eq_some_iff.1 q).1) (fun e => row_not hx2 own2 (by decide) (by rw [← e]; exact hj))
  have st3 : OwnV (w2.setCell ⟨p.x, 2, none⟩ qv) B 3 p.sv (p.SL.map inV) := h.steps.keep fun j hj => by
    have lj : j < w.heap.size := by obtain ⟨_, c, q⟩ := h.steps.ge j hj; exact (Array.getElem?_eq_some_iff.1 q).1
    refine (ts.block j (Nat.lt_of_lt_of_le lj t2.size) fun e => ?_).trans (t2.block j lj fun q => rows_apart h.backs h.steps (by decide) q hj)
    rw [e] at hj
    exact row_not h.cell h.steps (by decide) hj
  obtain ⟨g', x1, x2, x3⟩ := h.lists hB (bv' := qv) (BL' := p.BL ++ [b]) (sv' := p.sv) (SL' := p.SL) t3 hc3 own3 st3 (fun j hj => by
    rcases o2 with q | q
    · exact Or.inl (Or.inr (Or.inl (by rw [← q]; exact hj)))
    · rw [q] at hj; simp at hj; exact Or.inr (by omega)) (fun j hj => Or.inl (Or.inr (Or.inr hj))) (fun c hc => by
    rcases List.mem_append.1 hc with q | q
    · exact Or.inl q
    · simp at q; exact Or.inr (hb c q.symm))
  exact ⟨_, qv, w1, w2, _, e1, e2, es, g', x1, x2, x3⟩
theorem steps_runs (h : PS B g w p) (hB : B ≤ w.heap.size) (hn : p.SL.length ≤ 1300000000000) (z : Int) :
    ∃ (lv qv : Value) (w1 w2 w3 : World), (Instr.buildSlice 30 1 #[(0, .int .i64 z)]).run Try.prog w = .ok lv w1 ∧ (Builtin.append_ #[30, 30] 30 #[p.sv, lv]).run Try.prog w1 = .ok qv w2 ∧ (Instr.storeAt 30 (.pointer (some ⟨p.x, 3, none⟩)) qv).run Try.prog w2 = .ok () w3 ∧
      ∃ g', Ext w g g' ∧ Tch (Mut g) w w3 ∧ PS B g' w3 { p with sv := qv, SL := p.SL ++ [z] } := by
  have e1 := run_bs1 30 3 8 _ Try.underlying30 infoIn rfl (.int .i64 z) rfl w
  have b1 : Below w.heap.size w (w.alloc (.cells #[.int .i64 z] 3)) := (Below.refl _ _).alloc (Nat.le_refl _) _
  have v1 : Vals (w.alloc (.cells #[.int .i64 z] 3)) (some ⟨w.heap.size, 0, none⟩) [.int .i64 z] := Or.inr ⟨_, _, rfl, fun j u hj => by
    rw [Nat.zero_add, cell_of_row _ _ _ _ _ _ (heap_alloc_new _ _)]
    simpa using hj⟩
  generalize w.alloc (.cells #[.int .i64 z] 3) = w1 at *
  have z1 := b1.size
  obtain ⟨qv, w2, e2, own2, g2, o2⟩ := run_appV 30 3 8 _ Try.underlying30 infoIn (Or.inl rfl) rfl w1 B 30 p.sv _ _ [.int .i64 z] 1 (h.steps.below b1) v1 (by intro u hu; simp at hu; subst hu; rfl) (by simp; omega) (by omega)
  have t2 : Tch (fun j => p.sv.ownBlock = some j) w w2 := Tch.trans ⟨b1.os, b1.tape, b1.output, b1.size, fun j hj _ => b1.block j hj⟩ ⟨g2.os, g2.tape, g2.output, g2.size, fun j hj hO => g2.block j hj (fun q => hO q.symm)⟩
  have lx := (Array.getElem?_eq_some_iff.1 h.cell).1
  have hx2 := (t2.block _ lx (row_not h.cell h.steps (by decide))).trans h.cell
  obtain ⟨a2, c2, eqv, _⟩ := own2.open
  have es := store_p3 hx2 a2 (p.SL.map inV ++ [Value.int .i64 z]).length c2
  rw [← eqv] at es
  have ts := set_tch w2 p.x 3 qv
  have t3 : Tch (fun j => j = p.x ∨ p.bv.ownBlock = some j ∨ p.sv.ownBlock = some j) w (w2.setCell ⟨p.x, 3, none⟩ qv) := (t2.mono fun k _ q => Or.inr (Or.inr q)).trans (ts.mono fun k _ q => Or.inl q)
  have hc3 := set_p3 hx2 qv
  have own3 : OwnV (w2.setCell ⟨p.x, 3, none⟩ qv) B 3 qv ((p.SL ++ [z]).map inV) := by
    rw [List.map_append]
    exact own2.keep fun j hj => ts.block j (by obtain ⟨_, c, q⟩ := own2.ge j hj; exact (Array.getElem?_eq_some_iff.1 q).1) (fun e => row_not hx2 own2 (by decide) (by rw [← e]; exact hj))
  have bt3 : OwnV (w2.setCell ⟨p.x, 3, none⟩ qv) B 45 p.bv (p.BL.map bkV) := h.backs.keep fun j hj => by
    have lj : j < w.heap.size := by obtain ⟨_, c, q⟩ := h.backs.ge j hj; exact (Array.getElem?_eq_some_iff.1 q).1
    refine (ts.block j (Nat.lt_of_lt_of_le lj t2.size) fun e => ?_).trans (t2.block j lj fun q => rows_apart h.steps h.backs (by decide) q hj)
    rw [e] at hj
    exact row_not h.cell h.backs (by decide) hj
  obtain ⟨g', x1, x2, x3⟩ := h.lists hB (bv' := p.bv) (BL' := p.BL) (sv' := qv) (SL' := p.SL ++ [z]) t3 hc3 bt3 own3 (fun j hj => Or.inl (Or.inr (Or.inl hj))) (fun j hj => by
    rcases o2 with q | q
    · exact Or.inl (Or.inr (Or.inr (by rw [← q]; exact hj)))
    · rw [q] at hj; simp at hj; exact Or.inr (by omega)) (fun c hc => Or.inl hc)
  exact ⟨_, qv, w1, w2, _, e1, e2, es, g', x1, x2, x3⟩
theorem steps_set (h : PS B g w p) (hB : B ≤ w.heap.size) {i : Nat} (hi : i < p.SL.length) (z : Int) :
    ∃ gb c, p.sv = .slice (some ⟨gb, 0, none⟩) p.SL.length c ∧ (Instr.storeAt 3 (.pointer (some ⟨gb, i, none⟩)) (.int .i64 z)).run Try.prog w = .ok () (w.setCell ⟨gb, i, none⟩ (.int .i64 z)) ∧
      ∃ g', Ext w g g' ∧ Tch (Mut g) w (w.setCell ⟨gb, i, none⟩ (.int .i64 z)) ∧ PS B g' (w.setCell ⟨gb, i, none⟩ (.int .i64 z)) { p with SL := p.SL.set i z } := by
  rcases h.steps.2 with ⟨_, hn⟩ | ⟨gb, cap, cur, ev, hbg, hg, hnc, hcm, hcs, htake⟩
  · rw [List.length_map] at hn; omega
  · rw [List.length_map, Nat.mul_one] at htake
    rw [List.length_map] at ev hnc
    have hl : i < cur.size := by rw [hcs]; omega
    have lg := (Array.getElem?_eq_some_iff.1 hg).1
    have hcell : w.cell? ⟨gb, i, none⟩ = some cur[i] := by rw [cell_of_row w gb i cur 3 (0, 0) hg]; exact Array.getElem?_eq_getElem hl
    have hval : ∃ z0, cur[i] = .int .i64 z0 := by
      have h1 : (cur.toList.take p.SL.length)[i]? = some cur[i] := by
        rw [List.getElem?_take, if_pos hi, Array.getElem?_toList]; exact Array.getElem?_eq_getElem hl
      rw [htake, List.getElem?_map, List.getElem?_eq_getElem hi] at h1
      simp only [Option.map_some, Option.some.injEq, inV] at h1
      exact ⟨_, h1.symm⟩
    obtain ⟨z0, hz0⟩ := hval
    rw [hz0] at hcell
    have hf := frozen_of_row w gb i _ _ hg
    have es : (Instr.storeAt 3 (.pointer (some ⟨gb, i, none⟩)) (.int .i64 z)).run Try.prog w = .ok () (w.setCell ⟨gb, i, none⟩ (.int .i64 z)) := by go_simp
    have ts := set_tch w gb i (.int .i64 z)
    have hsv : p.sv.ownBlock = some gb := by rw [ev]; rfl
    have hnx : gb ≠ p.x := fun e => row_not h.cell h.steps (by decide) (by rw [← e]; exact hsv)
    have hblk : (w.setCell ⟨gb, i, none⟩ (.int .i64 z)).heap[gb]? = some (.cells (cur.set! i (.int .i64 z)) 3 (0, 0)) := by
      obtain ⟨hl2, hv⟩ := Array.getElem?_eq_some_iff.1 hg
      simp [World.setCell, hl2, Array.getElem_modify_self, hv]
    have own3 : OwnV (w.setCell ⟨gb, i, none⟩ (.int .i64 z)) B 3 p.sv ((p.SL.set i z).map inV) := by
      refine ⟨by simp, Or.inr ⟨gb, cap, cur.set! i (.int .i64 z), by rw [List.length_map, List.length_set]; exact ev, hbg, hblk, by rw [List.length_map, List.length_set]; exact hnc, hcm, by simp [hcs], ?_⟩⟩
      rw [List.length_map, List.length_set, Nat.mul_one, List.map_set, ← htake]
      simp [Array.set!, List.take_set]
      rfl
    obtain ⟨g', x1, x2, x3⟩ := h.lists hB (bv' := p.bv) (BL' := p.BL) (sv' := p.sv) (SL' := p.SL.set i z) (ts.mono fun k _ q => Or.inr (Or.inr (by rw [q]; exact hsv))) ((ts.block _ (Array.getElem?_eq_some_iff.1 h.cell).1 (fun e => hnx e.symm)).trans h.cell)
      (h.backs.keep fun j hj => ts.block j (by obtain ⟨_, c, q⟩ := h.backs.ge j hj; exact (Array.getElem?_eq_some_iff.1 q).1) (fun e => rows_apart h.backs h.steps (by decide) hj (by rw [e]; exact hsv))) own3 (fun j hj => Or.inl (Or.inr (Or.inl hj))) (fun j hj => Or.inl (Or.inr (Or.inr hj))) (fun c hc => Or.inl hc)
    exact ⟨gb, cap, ev, es, g', x1, x2, x3⟩
end
structure PX (B x t d m : Nat) (p : Pl) (g : Nat → Nat) (w : World) : Prop where
  x : p.x = x
  t : p.s.t = t
  d : p.d = d
  ps : PS B g w p
  ln : Link p
  mb : p.BL.length ≤ m
  mn : p.NL.length ≤ m
  mp : p.PL.length ≤ m
  mq : ∀ P ∈ p.PL, P.length ≤ m
theorem PX.below {B x t d m : Nat} {p : Pl} {g : Nat → Nat} {w w' : World} (h : PX B x t d m p g w) (b : Below w.heap.size w w') : PX B x t d m p g w' := ⟨h.x, h.t, h.d, h.ps.below b, h.ln, h.mb, h.mn, h.mp, h.mq⟩
theorem PX.keep {B x t d m : Nat} {p : Pl} {g : Nat → Nat} {w w' : World} {Q : Nat → Prop} (h : PX B x t d m p g w) (b : Tch Q w w') (hQ : ∀ j, g j ≠ 0 → ¬ Q j) : PX B x t d m p g w' := ⟨h.x, h.t, h.d, h.ps.keep b hQ, h.ln, h.mb, h.mn, h.mp, h.mq⟩
theorem PX.mono {B x t d m m' : Nat} {p : Pl} {g : Nat → Nat} {w : World} (h : PX B x t d m p g w) (hm : m ≤ m') : PX B x t d m' p g w := ⟨h.x, h.t, h.d, h.ps, h.ln, Nat.le_trans h.mb hm, Nat.le_trans h.mn hm, Nat.le_trans h.mp hm, fun P hP => Nat.le_trans (h.mq P hP) hm⟩
theorem tch_below {g : Nat → Nat} {w w' : World} (b : Below w.heap.size w w') : Tch (Mut g) w w' := ⟨b.os, b.tape, b.output, b.size, fun j hj _ => b.block j hj⟩
theorem OwnV.form {w : World} {B : Nat} {e : TypeId} {v : Value} {X : List Value} (h : OwnV w B e v X) {i : Nat} (hi : i < X.length) : ∃ bb c, v = .slice (some ⟨bb, 0, none⟩) X.length c := by
  rcases h.2 with ⟨_, hn⟩ | ⟨g, cap, cur, rfl, _⟩
  · omega
  · exact ⟨g, cap, rfl⟩
theorem OwnV.hit {w : World} {B : Nat} {e : TypeId} {v : Value} {X : List Value} (h : OwnV w B e v X) {bb n c : Nat} (ev : v = .slice (some ⟨bb, 0, none⟩) n c) {i : Nat} {u : Value} (hu : X[i]? = some u) : w.cell? ⟨bb, i, none⟩ = some u := by
  obtain ⟨a, cap, e1, _, hv, _⟩ := h.open
  rw [ev] at e1
  injection e1 with e1 _ _
  rcases hv with rfl | ⟨b, off, e2, hc⟩
  · simp at hu
  · rw [e2] at e1
    injection e1 with e1
    injection e1 with e1 e3
    subst e1 e3
    have := hc i u hu
    rwa [Nat.zero_add] at this
theorem ix_bk {b n c i : Nat} (h : i < n) (hn : n ≤ 9223372036854775807) (w : World) : (Instr.indexAt 29 (.slice (some ⟨b, 0, none⟩) n c) (.int .i64 (i : Int))).run Try.prog w = .ok (.pointer (some ⟨b, i, none⟩)) w := by go_simp
theorem ix_in {b n c i : Nat} (h : i < n) (hn : n ≤ 9223372036854775807) (w : World) : (Instr.indexAt 30 (.slice (some ⟨b, 0, none⟩) n c) (.int .i64 (i : Int))).run Try.prog w = .ok (.pointer (some ⟨b, i, none⟩)) w := by go_simp
def LastIs (p : Pl) (z : Int) : Prop := (z = -1 ∧ p.H = []) ∨ ∃ i : Nat, z = (i : Int) ∧ i < p.BL.length ∧ p.SL[i]? = some ((p.PL.length : Nat) : Int) ∧ 0 < p.PL.length
theorem last_any {B x t d m : Nat} {p : Pl} {g : Nat → Nat} {w : World} (h : PX B x t d m p g w) (hm : m ≤ 1300000000000) :
    Calls Try.prog 26 #[.pointer (some ⟨x, 0, none⟩)] w fun e w' => ∃ z, e = .returned (.int .i64 z) ∧ LastIs p z ∧ Below w.heap.size w w' := by
  have hmb := h.mb
  have hlen := h.ln.len
  obtain ⟨a, c, esv, hle, hv, _⟩ := h.ps.steps.open
  rw [List.length_map] at esv hle
  obtain ⟨n, hnn⟩ : ∃ n, p.SL.length = n := ⟨_, rfl⟩
  have HN := hidMk hnn
  have HLEN := hidMk hlen
  have hnb : n ≤ 1300000000000 := by omega
  rw [hnn] at esv
  have HE := hidMk esv
  have C3 : w.cell? ⟨x, 3, none⟩ = some (.slice a n c) := by rw [← esv, ← h.x]; exact cell_p3 h.ps.cell
  have C1 : w.cell? ⟨x, 1, none⟩ = some (.pointer (some ⟨d, 0, none⟩)) := by rw [← h.d, ← h.x]; exact cell_p1 h.ps.cell
  have lx : x < w.heap.size := by rw [← h.x]; exact (Array.getElem?_eq_some_iff.1 h.ps.cell).1
  have HC3 := hidMk (fun (W : World) (b : Below w.heap.size w W) => (b.cell (p := ⟨x, 3, none⟩) lx).trans C3)
  have HC1 := hidMk (fun (W : World) (b : Below w.heap.size w W) => (b.cell (p := ⟨x, 1, none⟩) lx).trans C1)
  have HS := hidMk (fun (W : World) (b : Below w.heap.size w W) => rsteps_any ((h.ps.below b).ref))
  rw [h.d] at HS
  have HV := hidMk (fun (W : World) (b : Below w.heap.size w W) (i : Nat) (z : Int) (hz : p.SL[i]? = some z) => show ∃ bb o, a = some ⟨bb, o, none⟩ ∧ W.cell? ⟨bb, o + i, none⟩ = some (.int .i64 z) by
    rcases hv.below b with e | ⟨bb, o, e, hc⟩
    · have q1 := congrArg List.length e; rw [List.length_map, List.length_nil] at q1; have q2 := (List.getElem?_eq_some_iff.1 hz).1; omega
    · exact ⟨bb, o, e, hc i _ (by rw [List.getElem?_map, hz]; rfl)⟩)
  have HK := hidMk h.ln
  clear hv esv hle hnn hlen hmb C3 C1 h hm
  go_enter Try.func26, Try.ntmps26
  go_wp2
  go_loopw [3] (fun v3 wr => ∃ i : Nat, v3 = .int .i64 (i : Int) ∧ i ≤ n ∧ (∀ j, j < i → p.SL[j]? ≠ some ((p.PL.length : Nat) : Int) ∨ p.PL.length = 0) ∧ Below w.heap.size w wr) (fun v3 wr => n - (match v3 with | .int _ i => i.toNat | _ => 0))
  case atStart => exact ⟨0, rfl, Nat.zero_le _, fun j hj => (by omega), Below.refl _ _⟩
  case round =>
    obtain ⟨i, rfl, hin, hbf, bel⟩ := hrel
    have HBF := hidMk hbf
    clear hbf
    have c3 := HC3.out wr bel
    by_cases hi : i < n
    · obtain ⟨z, hz⟩ : ∃ z, p.SL[i]? = some z := ⟨_, List.getElem?_eq_getElem (by have := HN.out; omega)⟩
      obtain ⟨bb, o, rfl, hcz⟩ := HV.out wr bel i z hz
      have HZ := hidMk hz
      clear hz hcz
      go_upto_region 4 with fail
      clear c3
      have beld : Below w.heap.size w wr.drew := bel.drew
      have ix : ∀ W, (Instr.indexAt 30 (.slice (some ⟨bb, o, none⟩) n c) (.int .i64 (i : Int))).run Try.prog W = .ok (.pointer (some ⟨bb, o + i, none⟩)) W := fun W => by go_simp
      have lz : ∀ W, Below w.heap.size w W → (Instr.loadAt 3 (.pointer (some ⟨bb, o + i, none⟩))).run Try.prog W = .ok (.int .i64 z) W := fun W b => by
        obtain ⟨b2, o2, e2, h2⟩ := HV.out W b i z HZ.out
        injection e2 with e2
        injection e2 with e2 e3
        subst e2 e3
        exact load_in h2
      by_cases hz : 0 < z
      · refine last4t (fun W => Below w.heap.size w W) x bb (o + i) (.slice (some ⟨bb, o, none⟩) n c) (.int .i64 (i : Int)) (.int .i64 z) (.pointer (some ⟨d, 0, none⟩)) (.int .i64 (p.PL.length : Int)) (decide (z = (p.PL.length : Int))) _ wr _ rfl rfl rfl beld ?_ ?_ ix lz ?_ ?_ ?_ ?_ ?_ ?_
        · intro W hW
          refine (HS.out W hW).mono ?_
          rintro e w' ⟨rfl, b⟩
          exact ⟨rfl, hW.trans (b.mono hW.size)⟩
        · exact fun W b => load_is (HC3.out W b)
        · exact fun W => by go_simp
        · exact fun W b => by go_simp
        · exact fun W b => load_dp (HC1.out W b)
        · exact fun W => by go_simp
        · exact fun W b => by
            go_simp
            rfl
        intro a' w' hw' ha
        subst ha
        simp only [Act.put, List.setIfInBounds_toArray, List.set_cons_zero, List.set_cons_succ]
        by_cases e : z = (p.PL.length : Int)
        · rw [decide_eq_true e]
          have hnl := HN.out
          have hz2 := HZ.out
          rw [e] at hz2
          have HQ := hidMk hz2
          have hpos : 0 < p.PL.length := by omega
          clear hz2 e hz ix lz HZ hnl
          go_wp2
          go_ret
          exact ⟨_, rfl, Or.inr ⟨i, rfl, by have := HLEN.out; have := HN.out; omega, HQ.out, hpos⟩, hw'⟩
        · rw [decide_eq_false e]
          have HE2 := hidMk e
          clear e hz ix lz
          go_wp2
          rw [show ((i : Int) + 1) = ((i + 1 : Nat) : Int) by omega]
          refine ⟨⟨i + 1, rfl, hi, fun j hj => ?_, hw'⟩, ?_⟩
          · by_cases ej : j = i
            · subst ej
              exact Or.inl (fun q => by rw [HZ.out] at q; exact HE2.out (Option.some.inj q))
            · exact HBF.out j (by omega)
          · show n - ((i + 1 : Nat) : Int).toNat < n - (i : Int).toNat
            omega
      · refine last4f (fun W => Below w.heap.size w W) x bb (o + i) (.slice (some ⟨bb, o, none⟩) n c) (.int .i64 (i : Int)) (.int .i64 z) _ wr _ rfl rfl rfl beld ?_ ix lz ?_ ?_ ?_
        · exact fun W b => load_is (HC3.out W b)
        · exact fun W => by go_simp
        · exact fun W b => by
            have hzf : decide (0 < z) = false := decide_eq_false hz
            go_simp
        intro a' w' hw' ha
        subst ha
        simp only [Act.put, List.setIfInBounds_toArray, List.set_cons_zero, List.set_cons_succ]
        have HZ2 := hidMk hz
        clear hz ix lz
        go_wp2
        rw [show ((i : Int) + 1) = ((i + 1 : Nat) : Int) by omega]
        refine ⟨⟨i + 1, rfl, hi, fun j hj => ?_, hw'⟩, ?_⟩
        · by_cases ej : j = i
          · subst ej
            by_cases e0 : p.PL.length = 0
            · exact Or.inr e0
            · exact Or.inl (fun q => by rw [HZ.out] at q; have q := Option.some.inj q; have := HZ2.out; omega)
          · exact HBF.out j (by omega)
        · show n - ((i + 1 : Nat) : Int).toNat < n - (i : Int).toNat
          omega
    · obtain rfl : i = n := by omega
      clear hi hin
      go_wp2
      go_ret
      refine ⟨_, rfl, Or.inl ⟨rfl, ?_⟩, bel⟩
      have hl := HK.out.len2
      cases hH : p.H with
      | nil => rfl
      | cons r t =>
        obtain ⟨j, hj⟩ := HK.out.all p.H.length (by rw [hH]; simp) (Nat.le_refl _)
        rw [hl] at hj
        rcases HBF.out j (by rw [← HN.out]; exact (List.getElem?_eq_some_iff.1 hj).1) with q | q
        · exact absurd hj q
        · rw [← hl, hH] at q; simp at q
end Go.Proofs.Ytoofljkgdjjllaa
