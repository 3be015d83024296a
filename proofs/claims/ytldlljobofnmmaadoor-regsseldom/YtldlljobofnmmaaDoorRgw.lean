import Derived.Test.YtldlljobofnmmaaDoorRgt
import Derived.Test.YtldlljobofnmmaaDoorRgw0
import Derived.Laws.ResultCell
namespace Go.Proofs.YtldlljobofnmmaaDoor
open Go.RowKit
set_option linter.unusedVariables false
set_option linter.unusedSimpArgs false

theorem results_c2 {P : Program} {fn : Func} {a b : Nat} {t : TypeId} (h : fn.results = #[.cell a t, .tmp b]) {tmps : Array Value} {w : World} {p : Addr} {v : Value} (ha : tmps.getD a undef = .pointer (some p)) (hl : (loadVar t p).run P w = .ok v w) :
    (results fn tmps).run P w = .ok (.tuple #[v, tmps.getD b undef]) w := by
  rw [Array.getD_eq_getD_getElem?] at ha
  simp [results, h, asAddr, ha, hl, Array.mapM_eq_mapM_toList, Result.andThen]
theorem szEn : (Tryd.prog.info? 63).map (·.size) = some 37 := by kernel_rfl
theorem loadVar_en {w : World} {b : Nat} {x : EnV} (hx : x.ok) (h : RN.Bx w b x) : (loadVar 63 ⟨b, 0, none⟩).run Tryd.prog w = .ok x.a w :=
  run_loadVar_mid (P := Tryd.prog) w b 0 63 x.c _ h.rng Tryd.underlying63 rfl (by rw [EnV.len hx]; exact szEn)
/-- A new box of an entry, written. -/
theorem en_box (w : World) : ∃ w2, (Instr.alloc 63 true (.tuple #[])).run Tryd.prog w = .ok (.pointer (some ⟨w.heap.size, 0, none⟩)) w2 ∧ RN.Bx w2 w.heap.size zEn ∧ Below w.heap.size w w2 := ⟨_, RowT.bx_zero RN_is w, heap_alloc_new _ _, (Below.refl _ _).alloc (Nat.le_refl _) _⟩
theorem en_put {w : World} {b : Nat} {x u : EnV} (hx : x.ok) (hu : u.ok) (h : RN.Bx w b x) : ∃ w', (Instr.storeAt 63 (.pointer (some ⟨b, 0, none⟩)) u.a).run Tryd.prog w = .ok () w' ∧ RN.Bx w' b u ∧ Tch (fun j => j = b) w w' := by
  have t := setRow_tch w b u.c.toArray
  refine ⟨_, RowT.bx_store RN_is hx hu h, setRow_heap w b _ _ _ _ h, t.mono (fun j _ e => ?_)⟩
  simp at e
  exact e.symm
set_option maxRecDepth 100000 in
set_option maxHeartbeats 2000000 in
theorem top_none (p : PlK) (w : World) : Calls Tryd.prog 21 #[.pointer none, p.v] w fun e w' => e = .returned (.tuple #[zEn.a, .bool false]) ∧ Below w.heap.size w w' := by
  obtain ⟨w1, E1, _, b1⟩ := box_pl w p
  obtain ⟨w2, E2, n2, b2⟩ := en_box w1
  have b2d : Below w1.heap.size w1 w2.drew := b2.drew
  obtain ⟨w3, E3, n3, t3⟩ := en_put (w := w2.drew) zEn_ok zEn_ok n2
  have b3 : Below w1.heap.size w1 w3 := b2d.trans (t3.below b2d.size (fun j e => by rw [e]; exact Nat.le_refl _))
  have HF := hidMk (And.intro n3 (b1.trans (b3.mono b1.size)))
  have H1 := hidMk E1
  have H2 := hidMk E2
  have H3 := hidMk E3
  clear E1 E2 E3 b1 b2 b3 n3 b2d n2 t3
  go_enter Tryd.func21, Tryd.ntmps21
  go_upto_region 1 with (first
    | (refine wpList_run rfl (exec_boxE (t := 52) (v := p.v) (u := .pointer (some ⟨w.heap.size, 0, none⟩)) (w2 := w1) rfl rfl H1.out) ?_)
    | (refine wpList_run rfl (exec_alloc (w2 := w2) rfl H2.out) ?_)
    | fail)
  refine top1n _ w2 _ rfl rfl ?_
  intro a' w' hw' ha
  subst ha
  subst hw'
  simp only [Act.put, List.setIfInBounds_toArray, List.set_cons_zero, List.set_cons_succ]
  go_upto_region 2 with fail
  refine top2 (eb := w1.heap.size) (w1 := w3) _ w2.drew _ rfl rfl H3.out ?_
  intro a' w' hw' ha
  subst ha
  subst hw'
  simp only [Act.put, List.setIfInBounds_toArray, List.set_cons_zero, List.set_cons_succ]
  clear H1 H2 H3
  go_wp2
  refine bodyPost_ret (results_c2 rfl rfl (loadVar_en zEn_ok HF.out.1)) rfl ?_
  exact ⟨rfl, HF.out.2⟩
set_option maxRecDepth 100000 in
set_option maxHeartbeats 2000000 in
/-- Top. -/
theorem top_any {w : World} {base : Nat} {s : Rs} (m : RgM w base s) {p : PlK} (hp : p.ok) (hn : (liOf s.P p).length ≤ 2500000000000) :
    Calls Tryd.prog 21 #[.pointer (some ⟨s.r, 0, none⟩), p.v] w fun e w' => e = .returned (.tuple #[((liOf s.P p).getLast?.getD zEn).a, .bool (!(liOf s.P p).isEmpty)]) ∧ Below w.heap.size w w' := by
  obtain ⟨w1, E1, n1, b1⟩ := box_pl w p
  obtain ⟨w2, E2, n2, b2⟩ := en_box w1
  have b12 := b1.trans (b2.mono b1.size)
  have m2 := m.below b12
  have n12 := (b2.block _ (Array.getElem?_eq_some_iff.1 n1).1).trans n1
  have hl := m2.list p
  obtain ⟨a, c, ev, hat, hc, hcm, _⟩ := hl.1.open RN_is hl.2
  have LD : Hid (∀ W, Below w2.heap.size w2 W → (Instr.loadAt 81 (.pointer (some ⟨s.r, 0 + 0, none⟩))).run Tryd.prog W = .ok (.map (some s.bp)) W ∧ (Instr.loadAt 52 (.pointer (some ⟨w.heap.size, 0, none⟩))).run Tryd.prog W = .ok p.v W ∧ (Instr.lookup 81 (.map (some s.bp)) p.v false).run Tryd.prog W = .ok (.slice a (liOf s.P p).length c) W) := by
    refine fun W b => ⟨?_, ?_, ?_⟩
    · have := (m2.below b).c0
      go_simp
    · exact ld_pl hp (rng_cells ((b.block _ (Array.getElem?_eq_some_iff.1 n12).1).trans n12))
    · rw [← ev]; exact (m2.below b).lookP p hp
  have H1 := hidMk E1
  have H2 := hidMk E2
  have bd : Below w2.heap.size w2 w2.drew := (Below.refl _ _).drew
  have bdd : Below w2.heap.size w2 w2.drew.drew := bd.drew
  have bw : w1.heap.size ≤ w2.heap.size := b2.size
  obtain ⟨L, hL⟩ : ∃ L, liOf s.P p = L := ⟨_, rfl⟩
  rw [hL] at hn hl hat LD ⊢
  go_enter Tryd.func21, Tryd.ntmps21
  cases hLe : L with
  | nil =>
    subst hLe
    obtain ⟨w3, E3, n3, t3⟩ := en_put (w := w2.drew) zEn_ok zEn_ok n2
    have b2d : Below w1.heap.size w1 w2.drew := b2.drew
    have b3 : Below w1.heap.size w1 w3 := b2d.trans (t3.below b2d.size (fun j e => by rw [e]; exact Nat.le_refl _))
    have HF := hidMk (And.intro n3 (b1.trans (b3.mono b1.size)))
    have H3 := hidMk E3
    have HB := hidMk bd
    clear E1 E2 E3 b1 b2 b3 n3 b2d t3 n1 n2 n12 m m2 hl hat hc hcm ev hL bd bdd b12
    go_upto_region 1 with (first
      | (refine wpList_run rfl (exec_boxE (t := 52) (v := p.v) (u := .pointer (some ⟨w.heap.size, 0, none⟩)) (w2 := w1) rfl rfl H1.out) ?_)
      | (refine wpList_run rfl (exec_alloc (w2 := w2) rfl H2.out) ?_)
      | fail)
    refine top1s (rb := s.r) (mb := s.bp) (pb := w.heap.size) (n := 0) (lc := c) (la := a) (p := p) (fun W => W = w2.drew) _ w2 _ rfl rfl rfl rfl (fun W e => by rw [e]; exact (LD.out _ HB.out).1) (fun W e => by rw [e]; exact (LD.out _ HB.out).2.1) (fun W e => by rw [e]; exact (LD.out _ HB.out).2.2) ?_
    intro a' w' hw' ha
    subst ha
    subst hw'
    simp only [Act.put, List.setIfInBounds_toArray, List.set_cons_zero, List.set_cons_succ]
    go_upto_region 2 with fail
    refine top2 (eb := w1.heap.size) (w1 := w3) _ w2.drew _ rfl rfl H3.out ?_
    intro a' w' hw' ha
    subst ha
    subst hw'
    simp only [Act.put, List.setIfInBounds_toArray, List.set_cons_zero, List.set_cons_succ]
    clear H1 H2 H3 LD HB
    go_wp2
    refine bodyPost_ret (results_c2 rfl rfl (loadVar_en zEn_ok HF.out.1)) rfl ?_
    exact ⟨rfl, HF.out.2⟩
  | cons y Y =>
    obtain ⟨d, hd⟩ : ∃ d, L.length = d + 1 := ⟨Y.length, by rw [hLe]; rfl⟩
    obtain ⟨x, hx⟩ : ∃ x, L[d]? = some x := ⟨_, List.getElem?_eq_getElem (by omega)⟩
    have hlast : L.getLast?.getD zEn = x := by rw [List.getLast?_eq_getElem?, hd, Nat.add_sub_cancel, hx]; rfl
    have hxo : x.ok := hl.2 x (List.mem_of_getElem? hx)
    obtain ⟨g, o, rfl, hg, hr⟩ : ∃ g o, a = some ⟨g, o, none⟩ ∧ g < w2.heap.size ∧ w2.rangeAt g (o + 37 * d) x.c := by
      rcases hat with h | ⟨g, o, e, h1, h2⟩
      · rw [hLe] at h; cases h
      · exact ⟨g, o, e, h1, h2 d x hx⟩
    obtain ⟨w3, E3, n3, t3⟩ := en_put (w := w2.drew.drew) zEn_ok hxo n2
    have b2d : Below w1.heap.size w1 w2.drew.drew := b2.drew.drew
    have b3 : Below w1.heap.size w1 w3 := b2d.trans (t3.below b2d.size (fun j e => by rw [e]; exact Nat.le_refl _))
    have HF := hidMk (And.intro n3 (And.intro (b1.trans (b3.mono b1.size)) (And.intro hxo hlast)))
    have H3 := hidMk E3
    have HB := hidMk (And.intro bd bdd)
    have LX : Hid ((Instr.loadAt 63 (.pointer (some ⟨g, o + 37 * d, none⟩))).run Tryd.prog w2.drew.drew = .ok x.a w2.drew.drew) := ld_en hxo (w := w2.drew.drew) hr
    rw [← hLe]
    rw [hd] at LD hn
    have hne : ((d + 1 : Nat) == 0) = false := rfl
    have he : L.isEmpty = false := by rw [hLe]; rfl
    have HE := hidMk he
    clear E1 E2 E3 b1 b2 b3 n3 b2d t3 n1 n2 n12 m m2 hl hat hc hcm ev hL bd bdd b12 hlast hxo hr hx hLe he
    go_upto_region 1 with (first
      | (refine wpList_run rfl (exec_boxE (t := 52) (v := p.v) (u := .pointer (some ⟨w.heap.size, 0, none⟩)) (w2 := w1) rfl rfl H1.out) ?_)
      | (refine wpList_run rfl (exec_alloc (w2 := w2) rfl H2.out) ?_)
      | fail)
    refine top1s (rb := s.r) (mb := s.bp) (pb := w.heap.size) (n := d + 1) (lc := c) (la := some ⟨g, o, none⟩) (p := p) (fun W => W = w2.drew) _ w2 _ rfl rfl rfl rfl (fun W e => by rw [e]; exact (LD.out _ HB.out.1).1) (fun W e => by rw [e]; exact (LD.out _ HB.out.1).2.1) (fun W e => by rw [e]; exact (LD.out _ HB.out.1).2.2) ?_
    intro a' w' hw' ha
    subst ha
    subst hw'
    simp only [Act.put, List.setIfInBounds_toArray, List.set_cons_zero, List.set_cons_succ]
    rw [hne]
    go_upto_region 3 with fail
    refine top3 (rb := s.r) (mb := s.bp) (pb := w.heap.size) (n := d + 1) (lc := c) (la := some ⟨g, o, none⟩) (p := p) (fun W => W = w2.drew.drew) _ w2.drew _ rfl rfl rfl rfl (fun W e => by rw [e]; exact (LD.out _ HB.out.2).1) (fun W e => by rw [e]; exact (LD.out _ HB.out.2).2.1) (fun W e => by rw [e]; exact (LD.out _ HB.out.2).2.2) ?_
    intro a' w' hw' ha
    subst ha
    subst hw'
    simp only [Act.put, List.setIfInBounds_toArray, List.set_cons_zero, List.set_cons_succ]
    go_upto_region 4 with fail
    refine top4 (eb := w1.heap.size) (g := g) (o := o) (n := d + 1) (lc := c) (d := d) (x := x) (w1 := w3) _ w2.drew.drew _ rfl rfl rfl rfl (by omega) (by omega) (by omega) (fun W e => by rw [e]; exact LX.out) H3.out ?_
    intro a' w' hw' ha
    subst ha
    subst hw'
    simp only [Act.put, List.setIfInBounds_toArray, List.set_cons_zero, List.set_cons_succ]
    clear H1 H2 H3 LD HB LX
    go_wp2
    refine bodyPost_ret (results_c2 rfl rfl (loadVar_en HF.out.2.2.1 HF.out.1)) rfl ?_
    refine ⟨?_, HF.out.2.1⟩
    rw [HF.out.2.2.2, HE.out]
    rfl
end Go.Proofs.YtldlljobofnmmaaDoor
