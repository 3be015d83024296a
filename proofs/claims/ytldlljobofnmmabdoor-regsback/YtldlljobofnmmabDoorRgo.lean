import Derived.Test.YtldlljobofnmmabDoorRgn
namespace Go.Proofs.YtldlljobofnmmabDoor
open Go.RowKit
set_option linter.unusedVariables false
set_option linter.unusedSimpArgs false

theorem ONxt.of' {w0 w w' : World} {base : Nat} {s s' : Rs} {p : PlK} {v : Value} {L : List EnV} (n : LNxt w base s p v L s' w') (t : Tch s.all w0 w) (hv : ∀ k, v.ownBlock = some k → s.all k ∨ w0.heap.size ≤ k) : ONxt w0 base s p L s' w' := by
  refine ⟨n.mem, n.key, n.r, n.bp, n.bk, n.la, n.li, fun j hj => ?_, t.trans' (n.tch.mono (O' := s.all) (fun j _ q => .inl q)) (fun j _ q => q)⟩
  rcases hj with hj | ⟨q, hq, e⟩
  · exact (n.bl j hj).imp .inl (fun q => Nat.le_trans t.size q)
  · rcases n.fr q hq with rfl | ⟨hq, _⟩
    · exact hv j e
    · exact .inl (.inr ⟨q, hq, e⟩)
/-- lay of a list that is the place's own, or new. -/
theorem lay_new {w0 W : World} {base : Nat} {s : Rs} (m : RgM W base s) (ko : KeysOk s.K s.P) (hb : base ≤ W.heap.size) {p : PlK} (hp : p.ok) {u : Value} {L : List EnV} (hu : RN.Lo W base u L) (ok : ∀ x ∈ L, x.ok) (t : Tch s.all w0 W) (l0 : ∀ j, s.all j → j < w0.heap.size) (hrel : u.ownBlock = (lvOf s.P p).ownBlock ∨ ∀ k, u.ownBlock = some k → w0.heap.size ≤ k) :
    Calls Tryd.prog 28 #[.pointer (some ⟨s.r, 0, none⟩), p.v, u] W fun e w' => e = .returned (.tuple #[]) ∧ ∃ s', ONxt w0 base s p L s' w' := by
  refine (lay_any m ko hb hp hu ok (fun q hq hne e => ?_)).mono ?_
  · rcases hrel with h | h
    · exact m.lv_ne q hq hne (e.trans h)
    · have hsome : ∃ k, q.2.1.ownBlock = some k := by
        rcases (m.en q hq).1 with ⟨_, e1⟩ | ⟨g, cap, cur, e1, _⟩
        · exact absurd e1 (m.en q hq).2.1
        · exact ⟨g, by rw [e1]; rfl⟩
      obtain ⟨k, hk⟩ := hsome
      have h1 := h k (e ▸ hk)
      have h2 := l0 k (.inr ⟨q, hq, hk⟩)
      omega
  · rintro e w' ⟨rfl, s', n⟩
    refine ⟨rfl, s', ONxt.of' n t (fun k hk => ?_)⟩
    rcases hrel with h | h
    · exact .inl (lv_all (h ▸ hk))
    · exact .inr (h k hk)
/-- append of an entry, then lay. -/
theorem app_lay {w0 W : World} {base : Nat} {s : Rs} (m : RgM W base s) (ko : KeysOk s.K s.P) (hb : base ≤ W.heap.size) {p : PlK} (hp : p.ok) {v1 : Value} {R : List EnV} (hv : RN.Lo W base v1 R) (ok : ∀ x ∈ R, x.ok) {a : Option Addr} {c : Nat} {x : EnV} (hx : x.ok) (hat : RN.At W a [x]) (hn : R.length + 1 ≤ 2500000000000) (t : Tch s.all w0 W) (l0 : ∀ j, s.all j → j < w0.heap.size) (hrel : (v1 = lvOf s.P p ∧ R = liOf s.P p) ∨ ∀ k, v1.ownBlock = some k → w0.heap.size ≤ k) :
    ∃ u W3, (Builtin.append_ #[44, 44] 44 #[v1, .slice a 1 c]).run Tryd.prog W = .ok u W3 ∧ Tch s.all w0 W3 ∧ RgM W3 base s ∧ Calls Tryd.prog 28 #[.pointer (some ⟨s.r, 0, none⟩), p.v, u] W3 fun e w' => e = .returned (.tuple #[]) ∧ ∃ s', ONxt w0 base s p (R ++ [x]) s' w' := by
  obtain ⟨u, W3, e, o, g, q, ol⟩ := RowT.lo_app RN_is W base v1 R ok a [x] c hv hat (fun y hy => by rw [List.mem_singleton.1 hy]; exact hx) (by simp; unfold maxLen; omega) (by simp; show _ * 80 ≤ _; omega) hb
  have t3 : Tch s.all w0 W3 := t.trans' (⟨g.os, g.tape, g.output, g.size, fun j hj hn => g.block j hj (fun e => hn e.symm)⟩ : Tch (fun j => v1.ownBlock = some j) W W3) (fun j hj e => by
    rcases hrel with ⟨rfl, _⟩ | h
    · exact lv_all e
    · have := h j e; omega)
  have m3 : RgM W3 base s := m.grow g (by
    rcases hrel with ⟨rfl, rfl⟩ | h
    · exact .inl ⟨rfl, ol⟩
    · exact .inr (fun k hk ha => by have := h k hk; have := l0 k ha; omega))
  refine ⟨u, W3, e, t3, m3, ?_⟩
  refine lay_new m3 ko (Nat.le_trans hb g.size) hp o (fun y hy => ?_) t3 l0 ?_
  · rcases List.mem_append.1 hy with h | h
    · exact ok y h
    · rw [List.mem_singleton.1 h]; exact hx
  · rcases q with q | q
    · rcases hrel with ⟨rfl, _⟩ | h
      · exact .inl q
      · exact .inr (fun k hk => h k (q ▸ hk))
    · exact .inr (fun k hk => by rw [q] at hk; injection hk with hk; have := t.size; omega)
/-- What is read in a region while a Regs may change. -/
structure S4 (s : Rs) (w4 W : World) : Prop where
  un : ∀ j, j < w4.heap.size → ¬ s.all j → W.heap[j]? = w4.heap[j]?
  c0 : W.cell? ⟨s.r, 0, none⟩ = some (.map (some s.bp))
theorem S4.of {s : Rs} {w4 W : World} {base : Nat} (t : Tch s.all w4 W) (m : RgM W base s) : S4 s w4 W := ⟨fun j hj hn => t.block j hj hn, m.c0⟩
theorem S4.nx {s s' : Rs} {w4 W : World} {base : Nat} {p : PlK} {L : List EnV} (n : ONxt w4 base s p L s' W) : S4 s w4 W := ⟨fun j hj hn => n.tch.block j hj hn, by have := n.mem.c0; rw [n.r, n.bp] at this; exact this⟩
theorem S4.ld {s : Rs} {w4 W : World} (h : S4 s w4 W) {j : Nat} {c : Array Value} {ty : TypeId} {fr : Nat × Nat} {base : Nat} (m : RgM w4 base s) (hj : w4.heap[j]? = some (.cells c ty fr)) (h1 : ty ≠ 69) (h2 : ty ≠ 65) : W.heap[j]? = some (.cells c ty fr) := (h.un j (Array.getElem?_eq_some_iff.1 hj).1 (m.other hj h1 h2)).trans hj
theorem S4.lr {s : Rs} {w4 W : World} (h : S4 s w4 W) : (Instr.loadAt 66 (.pointer (some ⟨s.r, 0 + 0, none⟩))).run Tryd.prog W = .ok (.map (some s.bp)) W := by
  have := h.c0
  go_simp
theorem rng_cells {W : World} {b : Nat} {cs : List Value} {t : TypeId} (h : W.heap[b]? = some (.cells cs.toArray t (0, 0))) : W.rangeAt b 0 cs := fun j v hv => by
  rw [Nat.zero_add, cell_of_row _ _ j _ _ _ h]
  simpa using hv
/-- A step's Back, and what it leaves. -/
def OpE (w : World) (base : Nat) (s : Rs) (H : List Rec) (p : PlK) (L : List EnV) (e : Ending) (w' : World) : Prop := ∃ rc s', e = .returned (.pointer (some ⟨rc.bk, 0, none⟩)) ∧ OpN w base s H p L rc s' w'
set_option maxRecDepth 100000 in
set_option maxHeartbeats 8000000 in
/-- Put. -/
theorem put_any {w : World} {base : Nat} {s : Rs} {H : List Rec} (h : RgAt w base s H) (hb : base ≤ w.heap.size) {p : PlK} (hp : p.ok) {id : IdK} (hid : id.ok) {x : VaV} (hx : x.ok) {fv : Value} {sn : IdK → Bool} (hs : Seen w fv sn) (hn : (liOf s.P p).length + 1 ≤ 2500000000000) :
    Calls Tryd.prog 15 #[.pointer (some ⟨s.r, 0, none⟩), p.v, id.v, x.v, fv] w (OpE w base s H p (Rg.res (fun y => sn y.id) (liOf s.P p) ++ [⟨id, x⟩])) := by
  -- the boxes
  have bA : Below w.heap.size w (w.alloc (.cells p.c.toArray 34)) := (Below.refl _ _).alloc (Nat.le_refl _) _
  have nA : (w.alloc (.cells p.c.toArray 34)).heap[w.heap.size]? = some (.cells p.c.toArray 34 (0, 0)) := heap_alloc_new _ _
  have EA := hidMk (show (Instr.box 34 p.v).run Tryd.prog w = .ok (.pointer (some ⟨w.heap.size, 0, none⟩)) (w.alloc (.cells p.c.toArray 34)) by rw [run_box]; rfl)
  generalize w.alloc (.cells p.c.toArray 34) = w1 at *
  have bB : Below w1.heap.size w1 (w1.alloc (.cells id.c.toArray 32)) := (Below.refl _ _).alloc (Nat.le_refl _) _
  have nB : (w1.alloc (.cells id.c.toArray 32)).heap[w1.heap.size]? = some (.cells id.c.toArray 32 (0, 0)) := heap_alloc_new _ _
  have EB := hidMk (show (Instr.box 32 id.v).run Tryd.prog w1 = .ok (.pointer (some ⟨w1.heap.size, 0, none⟩)) (w1.alloc (.cells id.c.toArray 32)) by rw [run_box]; rfl)
  generalize w1.alloc (.cells id.c.toArray 32) = w2 at *
  have bC : Below w2.heap.size w2 (w2.alloc (.cells x.c.toArray 39)) := (Below.refl _ _).alloc (Nat.le_refl _) _
  have nC : (w2.alloc (.cells x.c.toArray 39)).heap[w2.heap.size]? = some (.cells x.c.toArray 39 (0, 0)) := heap_alloc_new _ _
  have EC := hidMk (show (Instr.box 39 x.v).run Tryd.prog w2 = .ok (.pointer (some ⟨w2.heap.size, 0, none⟩)) (w2.alloc (.cells x.c.toArray 39)) by rw [run_box]; rfl)
  generalize w2.alloc (.cells x.c.toArray 39) = w3 at *
  have zA := bA.size
  have zB := bB.size
  have zC := bC.size
  have b3 : Below w.heap.size w w3 := (bA.trans (bB.mono zA)).trans (bC.mono (by omega))
  have nA3 : w3.heap[w.heap.size]? = some (.cells p.c.toArray 34 (0, 0)) := by
    have l1 := (Array.getElem?_eq_some_iff.1 nA).1
    rw [bC.block _ (by omega), bB.block _ l1]; exact nA
  have nB3 : w3.heap[w1.heap.size]? = some (.cells id.c.toArray 32 (0, 0)) := (bC.block _ (Array.getElem?_eq_some_iff.1 nB).1).trans nB
  have h3 := h.below b3
  have hs3 := hs.below b3
  obtain ⟨L, hLL⟩ : ∃ L, liOf s.P p = L := ⟨_, rfl⟩
  have okL := (h.mem.list p).2
  have lo3 := (h3.mem.list p).1
  rw [hLL] at hn okL lo3
  obtain ⟨CA, y1, EY, SY, CB⟩ := had_box lo3 okL (by omega) hs3
  obtain ⟨sf, hsf⟩ : ∃ sf : EnV → Bool, (fun y : EnV => sn y.id) = sf := ⟨_, rfl⟩
  rw [hsf] at CA CB ⊢
  rw [hLL]
  -- what the last two regions need, whatever came of had
  have TAIL : Hid (∀ tb tv w4, HadN w3 (Rg.hadI sf 0 L) tb tv w4 → ∃ sv2 y1, (Instr.buildSlice 44 1 #[(0, EnV.a ⟨id, x⟩)]).run Tryd.prog w4.drew = .ok sv2 y1 ∧ S4 s w4 y1 ∧ (Instr.lookup 66 (.map (some s.bp)) p.v false).run Tryd.prog y1 = .ok (lvOf s.P p) y1 ∧
      (Calls Tryd.prog 29 #[lvOf s.P p, tv] w4.drew fun e w' => ∃ v1 sv w2 u w3, e = .returned v1 ∧ S4 s w4 w' ∧ (Instr.buildSlice 44 1 #[(0, EnV.a ⟨id, x⟩)]).run Tryd.prog w' = .ok sv w2 ∧ S4 s w4 w2 ∧ (Builtin.append_ #[44, 44] 44 #[v1, sv]).run Tryd.prog w2 = .ok u w3 ∧ S4 s w4 w3 ∧ Calls Tryd.prog 28 #[.pointer (some ⟨s.r, 0, none⟩), p.v, u] w3 fun e w5 => e = .returned (.tuple #[]) ∧ S4 s w4 w5 ∧ ∃ s', ONxt w4 base s p (Rg.res sf L ++ [⟨id, x⟩]) s' w5) ∧
      (Calls Tryd.prog 29 #[lvOf s.P p, tv] y1 fun e w' => ∃ v1 u y3, e = .returned v1 ∧ S4 s w4 w' ∧ (Builtin.append_ #[44, 44] 44 #[v1, sv2]).run Tryd.prog w' = .ok u y3 ∧ S4 s w4 y3 ∧ Calls Tryd.prog 28 #[.pointer (some ⟨s.r, 0, none⟩), p.v, u] y3 fun e w5 => e = .returned (.tuple #[]) ∧ S4 s w4 w5 ∧ ∃ s', ONxt w4 base s p (Rg.res sf L ++ [⟨id, x⟩]) s' w5)) := by
    intro tb tv w4 hd
    have m4 := h3.mem.below hd.bel
    have bd : Below w4.heap.size w4 w4.drew := (Below.refl w4.heap.size w4).drew
    have l0 : ∀ j, s.all j → j < w4.heap.size := fun j hj => m4.allLt hj
    have hb4 : base ≤ w4.heap.size := by have := hd.bel.size; omega
    have ex : EnV.ok ⟨id, x⟩ := ⟨hid, hx⟩
    have okR : ∀ y ∈ Rg.res sf L, y.ok := fun y hy => okL y (List.mem_filter.1 hy).1
    have rl : (Rg.res sf L).length + 1 ≤ 2500000000000 := by have := Rg.res_len sf L 0; omega
    have byb : Below w4.heap.size w4.drew (w4.drew.alloc (.cells (RN.c ⟨id, x⟩).toArray RN.e)) := (Below.refl w4.heap.size w4.drew).alloc (Nat.le_refl _) _
    have hlit := RowT.lit RN w4.drew ⟨id, x⟩ RN.e
    have ebs := RowT.run_bs RN_is ⟨id, x⟩ ex w4.drew
    generalize w4.drew.alloc (.cells (RN.c ⟨id, x⟩).toArray RN.e) = y1 at *
    have by4 := bd.trans byb
    have my := m4.below by4
    refine ⟨_, y1, ebs, S4.of (tch_of by4 _) my, my.lookP p hp, ?_, ?_⟩
    · have md := m4.below bd
      refine (without_all (base := base) (lv := lvOf s.P p) (L := L) (sn := sf) (by rw [← hLL]; exact (md.list p).1) okL (by omega) (hd.l.below bd) hb4).mono ?_
      rintro e w' ⟨v1, rfl, lo1, b1, rel⟩
      have b14 := bd.trans b1
      have bs : Below w'.heap.size w' (w'.alloc (.cells (RN.c ⟨id, x⟩).toArray RN.e)) := (Below.refl _ _).alloc (Nat.le_refl _) _
      have hl2 := RowT.lit RN w' ⟨id, x⟩ RN.e
      have eb2 := RowT.run_bs RN_is ⟨id, x⟩ ex w'
      generalize w'.alloc (.cells (RN.c ⟨id, x⟩).toArray RN.e) = w2' at *
      have b24 := b14.trans (bs.mono b14.size)
      have m2 := m4.below b24
      obtain ⟨u, W3, ea, t3, m3, cl⟩ := app_lay (w0 := w4) (W := w2') (c := 1) m2 h.key (Nat.le_trans hb4 b24.size) hp (lo1.below bs) okR ex hl2 rl (tch_of b24 _) l0 (by
        rcases rel with ⟨e1, e2⟩ | r
        · exact .inl ⟨e1, by rw [e2, hLL]⟩
        · exact .inr r)
      exact ⟨v1, _, w2', u, W3, rfl, S4.of (tch_of b14 _) (m4.below b14), eb2, S4.of (tch_of b24 _) m2, ea, S4.of t3 m3, cl.mono fun e w5 ⟨h1, s', n⟩ => ⟨h1, S4.nx n, s', n⟩⟩
    · refine (without_all (base := base) (lv := lvOf s.P p) (L := L) (sn := sf) (by rw [← hLL]; exact (my.list p).1) okL (by omega) (hd.l.below by4) (Nat.le_trans hb4 by4.size)).mono ?_
      rintro e w' ⟨v1, rfl, lo1, b1, rel⟩
      have b14 := by4.trans (b1.mono by4.size)
      have m2 := m4.below b14
      obtain ⟨u, W3, ea, t3, m3, cl⟩ := app_lay (w0 := w4) (W := w') (c := 1) m2 h.key (Nat.le_trans hb4 b14.size) hp lo1 okR ex (hlit.below b1) rl (tch_of b14 _) l0 (by
        rcases rel with ⟨e1, e2⟩ | r
        · exact .inl ⟨e1, by rw [e2, hLL]⟩
        · exact .inr (fun k hk => by have := r k hk; have := by4.size; omega))
      exact ⟨v1, u, W3, rfl, S4.of (tch_of b14 _) m2, ea, S4.of t3 m3, cl.mono fun e w5 ⟨h1, s', n⟩ => ⟨h1, S4.nx n, s', n⟩⟩
  -- behind the step
  have FIN : Hid (∀ tb tv w4 w5 s', HadN w3 (Rg.hadI sf 0 L) tb tv w4 → ONxt w4 base s p (Rg.res sf L ++ [⟨id, x⟩]) s' w5 → Calls Tryd.prog 30 #[.pointer (some ⟨s.r, 0, none⟩), .func (.func 31) #[] #[.pointer (some ⟨w.heap.size, 0, none⟩), .pointer (some ⟨tb, 0, none⟩)]] w5 fun e w' => ∃ bk, e = .returned (.pointer (some ⟨bk, 0, none⟩)) ∧ ∃ rc s'', rc.bk = bk ∧ OpN w base s H p (Rg.res sf L ++ [⟨id, x⟩]) rc s'' w') := by
    intro tb tv w4 w5 s' hd nx
    rw [← nx.r]
    refine (step_any nx.mem 31 #[.pointer (some ⟨w.heap.size, 0, none⟩), .pointer (some ⟨tb, 0, none⟩)]).mono ?_
    rintro e w6 ⟨rfl, hst⟩
    have b4 := b3.trans (hd.bel.mono b3.size)
    refine ⟨_, rfl, _, _, rfl, op_done h b4 hp ((hd.bel.block _ (Array.getElem?_eq_some_iff.1 nA3).1).trans nA3) hd.b (hd.l.mono (Nat.zero_le _)) nx hst (by rw [hLL]; omega) ⟨sf, by rw [hLL], .inl ⟨rfl, ⟨id, x⟩, by rw [hLL]⟩⟩⟩
  have LD3 : Hid ((∀ W, Below w3.heap.size w3 W → (Instr.loadAt 66 (.pointer (some ⟨s.r, 0 + 0, none⟩))).run Tryd.prog W = .ok (.map (some s.bp)) W) ∧ (∀ W, Below w3.heap.size w3 W → (Instr.loadAt 34 (.pointer (some ⟨w.heap.size, 0, none⟩))).run Tryd.prog W = .ok p.v W) ∧ (∀ W, Below w3.heap.size w3 W → (Instr.lookup 66 (.map (some s.bp)) p.v false).run Tryd.prog W = .ok (lvOf s.P p) W)) := by
    refine ⟨fun W b => ?_, fun W b => ?_, fun W b => (h3.mem.below b).lookP p hp⟩
    · have := (h3.mem.below b).c0
      go_simp
    · exact ld_pl hp (rng_cells ((b.block _ (Array.getElem?_eq_some_iff.1 nA3).1).trans nA3))
  have LD4 : Hid (∀ tb tv w4, HadN w3 (Rg.hadI sf 0 L) tb tv w4 → (∀ W, S4 s w4 W → (Instr.loadAt 34 (.pointer (some ⟨w.heap.size, 0, none⟩))).run Tryd.prog W = .ok p.v W) ∧ (∀ W, S4 s w4 W → (Instr.loadAt 32 (.pointer (some ⟨w1.heap.size, 0, none⟩))).run Tryd.prog W = .ok id.v W) ∧ (∀ W, S4 s w4 W → (Instr.loadAt 39 (.pointer (some ⟨w2.heap.size, 0, none⟩))).run Tryd.prog W = .ok x.v W) ∧ (∀ W, S4 s w4 W → (Instr.loadAt 83 (.pointer (some ⟨tb, 0, none⟩))).run Tryd.prog W = .ok tv W) ∧ S4 s w4 w4.drew ∧ (Instr.lookup 66 (.map (some s.bp)) p.v false).run Tryd.prog w4.drew = .ok (lvOf s.P p) w4.drew) := by
    intro tb tv w4 hd
    have m4 := h3.mem.below hd.bel
    have l1 := (Array.getElem?_eq_some_iff.1 nA3).1
    have l2 := (Array.getElem?_eq_some_iff.1 nB3).1
    have l3 := (Array.getElem?_eq_some_iff.1 nC).1
    have k1 := (hd.bel.block _ l1).trans nA3
    have k2 := (hd.bel.block _ l2).trans nB3
    have k3 := (hd.bel.block _ l3).trans nC
    refine ⟨fun W hW => ld_pl hp (rng_cells (hW.ld m4 k1 (by decide) (by decide))), fun W hW => load_id hid (hW.ld m4 k2 (by decide) (by decide)), fun W hW => ld_va (rng_cells (hW.ld m4 k3 (by decide) (by decide))), fun W hW => ?_, S4.of (tch_of (Below.refl w4.heap.size w4).drew _) (m4.below (Below.refl w4.heap.size w4).drew), (m4.below (Below.refl w4.heap.size w4).drew).lookP p hp⟩
    have hk := hW.ld m4 hd.b (by decide) (by decide)
    obtain ⟨ta, tn, tc, et⟩ : ∃ ta tn tc, tv = .slice ta tn tc := by
      rcases hd.l with ⟨e, _⟩ | ⟨g, cap, cur, e, _⟩
      · exact ⟨_, _, _, e⟩
      · exact ⟨_, _, _, e⟩
    rw [et] at hk ⊢
    exact ld_sdl hk
  have HCA := hidMk CA
  have HCB := hidMk CB
  have HEY := hidMk (And.intro EY SY)
  have S3d : Below w3.heap.size w3 w3.drew := (Below.refl w3.heap.size w3).drew
  clear CA CB EY SY lo3 okL hs3 h3 nA3 nB3 nC b3 zA zB zC bA bB bC nA nB hLL hsf h hs
  go_enter Tryd.func15, Tryd.ntmps15
  go_upto_region 0 with fail
  refine put0 (b0 := w.heap.size) (b1 := w1.heap.size) (b2 := w2.heap.size) (p := p) (id := id) (x := x) (w1 := w1) (w2 := w2) (w3 := w3) _ w _ rfl rfl rfl rfl EA.out EB.out EC.out ?_
  intro a' w' hw' ha
  subst ha
  obtain rfl : w3 = w' := hw'.symm
  simp only [Act.put, List.setIfInBounds_toArray, List.set_cons_zero, List.set_cons_succ]
  clear EA EB EC
  go_upto_region 3 with fail
  refine put3 (rb := s.r) (mb := s.bp) (pb := w.heap.size) (tb2 := w3.heap.size) (p := p) (lv := lvOf s.P p) (y1 := y1) (fun W => Below w3.heap.size w3 W) (fun tb tv w' => HadN w3 (Rg.hadI sf 0 L) tb tv w') _ w3 _ rfl rfl rfl rfl S3d LD3.out.1 LD3.out.2.1 LD3.out.2.2 HCA.out HEY.out.1 HEY.out.2 HCB.out ?_ ?_
  rotate_left
  intro tv a' w4 hd ha
  obtain ⟨tb, htb⟩ : ∃ tb, w3.heap.size = tb := ⟨_, rfl⟩
  rw [htb] at hd ha
  rotate_left
  intro tv tb a' w4 hd ha
  all_goals
    subst ha
    simp only [Act.put, List.setIfInBounds_toArray, List.set_cons_zero, List.set_cons_succ]
    obtain ⟨k1, k2, k3, k4, k5, k6⟩ := LD4.out tb tv w4 hd
    obtain ⟨sv2, z1, e1, s1, l1, ca, cb⟩ := TAIL.out tb tv w4 hd
    have HK := hidMk (And.intro k1 (And.intro k2 (And.intro k3 (And.intro k4 (And.intro k5 k6)))))
    have HT := hidMk (And.intro e1 (And.intro s1 (And.intro l1 (And.intro ca cb))))
    have HD := hidMk hd
    clear k1 k2 k3 k4 k5 k6 e1 s1 l1 ca cb hd
    go_upto_region 4 with fail
    refine put4 (rb := s.r) (mb := s.bp) (pb := w.heap.size) (ib := w1.heap.size) (vb := w2.heap.size) (tb := tb) (p := p) (id := id) (x := x) (lv := lvOf s.P p) (tv := tv) (sv2 := sv2) (y1 := z1) (S4 s w4) (fun w5 => ∃ s', ONxt w4 base s p (Rg.res sf L ++ [⟨id, x⟩]) s' w5) _ w4 _ rfl rfl rfl rfl rfl rfl hid HK.out.2.2.2.2.1 (fun W hW => hW.lr) HK.out.1 HK.out.2.1 HK.out.2.2.1 HK.out.2.2.2.1 HK.out.2.2.2.2.2 HT.out.2.2.2.1 HT.out.1 HT.out.2.1 HT.out.2.2.1 HT.out.2.2.2.2 ?_ ?_ ?_
    rotate_left
    intro v1 u a' w5 hf ha
    rotate_left
    intro v1 u a' w5 hf ha
    rotate_left
    intro v1 sv u a' w5 hf ha
    all_goals
      subst ha
      simp only [Act.put, List.setIfInBounds_toArray, List.set_cons_zero, List.set_cons_succ]
      obtain ⟨s', nx⟩ := hf
      have CS := hidMk (FIN.out tb tv w4 w5 s' HD.out nx)
      clear HK HT nx
      go_upto_region 5 with fail
      refine put5 (rb := s.r) (pb := w.heap.size) (tb := tb) (fun bk w' => ∃ rc s'', rc.bk = bk ∧ OpN w base s H p (Rg.res sf L ++ [⟨id, x⟩]) rc s'' w') _ w5 _ rfl rfl rfl rfl CS.out ?_
      intro bk a' w6 hf ha
      subst ha
      simp only [Act.put, List.setIfInBounds_toArray, List.set_cons_zero, List.set_cons_succ]
      have HF := hidMk hf
      clear CS hf
      go_wp2
      go_ret
      obtain ⟨rc, s'', e, o⟩ := HF.out
      subst e
      exact ⟨rc, s'', rfl, o⟩
end Go.Proofs.YtldlljobofnmmabDoor
