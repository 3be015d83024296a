import Derived.Test.YtldlljobofnmmabDoorRgm
namespace Go.Proofs.YtldlljobofnmmabDoor
open Go.RowKit
set_option linter.unusedVariables false
set_option linter.unusedSimpArgs false

/-- A step that was done: its Back, its closure and that one's boxes, the place, what was taken there, and what lay there ahead of it and behind it. -/
structure Rec where
  bk : Nat
  F : Nat
  pb : Nat
  tb : Nat
  p : PlK
  tv : Value
  T : List (Nat × EnV)
  bef : List EnV
  aft : List EnV
structure Rec.at (w : World) (r : Rec) (last : Option Addr) : Prop where
  b : w.heap[r.bk]? = some (.cells #[.pointer last, .func (.func r.F) #[] #[.pointer (some ⟨r.pb, 0, none⟩), .pointer (some ⟨r.tb, 0, none⟩)]] 81 (0, 0))
  p : w.heap[r.pb]? = some (.cells r.p.c.toArray 34 (0, 0))
  t : w.heap[r.tb]? = some (.cells #[r.tv] 83 (0, 0))
  l : RD.Lo w 0 r.tv r.T
  ok : r.p.ok
  bok : ∀ x ∈ r.bef, x.ok
  bn : r.bef.length ≤ 2500000000000
def chs (sn : EnV → Bool) (gv : VaV → VaV) (L : List EnV) : List EnV := L.map (fun x => if sn x then chg gv x x else x)
/-- What a step did at its place. -/
def Rec.did (r : Rec) : Prop := ∃ sn : EnV → Bool, r.T = Rg.hadI sn 0 r.bef ∧ ((r.F = 31 ∧ ∃ e, r.aft = Rg.res sn r.bef ++ [e]) ∨ (r.F = 39 ∧ r.aft = Rg.res sn r.bef) ∨ (r.F = 37 ∧ ∃ gv, r.aft = chs sn gv r.bef))
def ptrH : List Rec → Option Addr
  | [] => none
  | r :: _ => some ⟨r.bk, 0, none⟩
def Hist (w : World) : List Rec → Prop
  | [] => True
  | r :: H => r.at w (ptrH H) ∧ Hist w H
abbrev PF := PlK → List EnV
def updF (f : PF) (p : PlK) (L : List EnV) : PF := fun q => if q = p then L else f q
def HOk : List Rec → PF → Prop
  | [], f => ∀ p, f p = []
  | r :: H, f => f r.p = r.aft ∧ r.did ∧ HOk H (updF f r.p r.bef)
theorem HOk.congr : ∀ {H : List Rec} {f g : PF}, HOk H f → (∀ p, g p = f p) → HOk H g
  | [], f, g, h, e => fun p => (e p).trans (h p)
  | r :: H, f, g, h, e => ⟨(e r.p).trans h.1, h.2.1, HOk.congr h.2.2 (fun q => by unfold updF; rw [e q])⟩
/-- A Regs with the steps that can be undone. -/
structure RgAt (w : World) (base : Nat) (s : Rs) (H : List Rec) : Prop where
  mem : RgM w base s
  key : KeysOk s.K s.P
  last : s.last = ptrH H
  hist : Hist w H
  hok : HOk H (liOf s.P)
theorem Rec.at.keep {w w' : World} {r : Rec} {la : Option Addr} (h : r.at w la) {O : Nat → Prop} (t : Tch O w w') (hO : ∀ j c ty fr, w.heap[j]? = some (.cells c ty fr) → ty ≠ 69 → ty ≠ 65 → ¬ O j) : r.at w' la := by
  have go : ∀ {j : Nat} {c : Array Value} {ty : TypeId} {fr : Nat × Nat}, w.heap[j]? = some (.cells c ty fr) → ty ≠ 69 → ty ≠ 65 → w'.heap[j]? = some (.cells c ty fr) := fun h1 h2 h3 => (t.block _ (Array.getElem?_eq_some_iff.1 h1).1 (hO _ _ _ _ h1 h2 h3)).trans h1
  refine ⟨go h.b (by decide) (by decide), go h.p (by decide) (by decide), go h.t (by decide) (by decide), h.l.keep (fun k hk => ?_), h.ok, h.bok, h.bn⟩
  obtain ⟨_, c, hc⟩ := h.l.cells hk
  exact (go hc (by decide) (by decide)).trans hc.symm
theorem Hist.keep {w w' : World} {O : Nat → Prop} (t : Tch O w w') (hO : ∀ j c ty fr, w.heap[j]? = some (.cells c ty fr) → ty ≠ 69 → ty ≠ 65 → ¬ O j) : ∀ {H : List Rec}, Hist w H → Hist w' H
  | [], _ => trivial
  | r :: H, h => ⟨h.1.keep t hO, Hist.keep t hO h.2⟩
theorem RgAt.keep {w w' : World} {base : Nat} {s : Rs} {H : List Rec} (h : RgAt w base s H) (hb : ∀ j, s.all j → w'.heap[j]? = w.heap[j]?) (hh : Hist w' H) : RgAt w' base s H := ⟨h.mem.keep (fun k hk => hb k (.inl hk)) (fun q hq k hk => hb k (.inr ⟨q, hq, hk⟩)), h.key, h.last, hh, h.hok⟩
theorem RgAt.below {w w' : World} {base : Nat} {s : Rs} {H : List Rec} (h : RgAt w base s H) (b : Below w.heap.size w w') : RgAt w' base s H := h.keep (fun j hj => b.block j (h.mem.allLt hj)) (h.hist.keep (tch_of b (fun _ => False)) (fun _ _ _ _ _ _ _ q => q))
/-- What a change at one place leaves, ahead of the step. -/
structure ONxt (w : World) (base : Nat) (s : Rs) (p : PlK) (L : List EnV) (s' : Rs) (w' : World) : Prop where
  mem : RgM w' base s'
  key : KeysOk s'.K s'.P
  r : s'.r = s.r
  bp : s'.bp = s.bp
  bk : s'.bk = s.bk
  la : s'.last = s.last
  li : ∀ q, liOf s'.P q = if q = p then L else liOf s.P q
  al : ∀ j, s'.all j → s.all j ∨ w.heap.size ≤ j
  tch : Tch s.all w w'
theorem ONxt.from {w0 w w' : World} {base : Nat} {s s' : Rs} {p : PlK} {L : List EnV} (t : Tch s.all w0 w) (h : ONxt w base s p L s' w') : ONxt w0 base s p L s' w' := ⟨h.mem, h.key, h.r, h.bp, h.bk, h.la, h.li, fun j hj => (h.al j hj).imp id (fun q => Nat.le_trans t.size q), t.trans' h.tch (fun j _ q => q)⟩
/-- lay behind a list that was made. -/
theorem ONxt.of {w w' : World} {base : Nat} {s s' : Rs} {p : PlK} {v : Value} {L : List EnV} (h : RgM w base s) (n : LNxt w base s p v L s' w') (hv : ∀ k, v.ownBlock = some k → s.all k ∨ w.heap.size ≤ k) : ONxt w base s p L s' w' := by
  refine ⟨n.mem, n.key, n.r, n.bp, n.bk, n.la, n.li, fun j hj => ?_, n.tch.mono (fun j _ q => .inl q)⟩
  rcases hj with hj | ⟨q, hq, e⟩
  · exact (n.bl j hj).imp .inl id
  · rcases n.fr q hq with rfl | ⟨hq, _⟩
    · exact hv j e
    · exact .inl (.inr ⟨q, hq, e⟩)
/-- A list that grew beside a Regs, or at its end. -/
theorem RgM.grow {w w' : World} {base : Nat} {s : Rs} (h : RgM w base s) {p : PlK} {v : Value} (g : w.grownBy w' v.ownBlock) (hv : (v = lvOf s.P p ∧ RN.Lo w' base v (liOf s.P p)) ∨ ∀ k, v.ownBlock = some k → ¬ s.all k) : RgM w' base s := by
  have nb : ∀ j ∈ s.bl, w'.heap[j]? = w.heap[j]? := fun j hj => g.block j (h.lt j hj) (fun e => by
    rcases hv with ⟨rfl, _⟩ | hv
    · unfold lvOf at e
      cases hl : M.look s.P p with
      | none => rw [hl] at e; cases e
      | some q => rw [hl] at e; exact h.apart (M.look_mem hl) e.symm hj
    · exact hv j e.symm (.inl hj))
  refine ⟨(nb _ (by simp [Rs.bl])).trans h.cell, h.pl.below (nb _ (by simp [Rs.bl])), h.kl.below (nb _ (by simp [Rs.bl])), fun r hr => (h.kr r hr).below (nb _ (Rs.row_bl hr)), fun q hq => ⟨?_, (h.en q hq).2⟩, h.dis, h.ead, h.lo⟩
  rcases hv with ⟨rfl, hlo⟩ | hv
  · by_cases e : q.1 = p
    · have hl : M.look s.P p = some q.2 := M.look_of_mem h.places (by rw [← e]; exact hq)
      unfold lvOf liOf at hlo
      rw [hl] at hlo
      exact hlo
    · refine (h.en q hq).1.keep (fun k hk => g.block k ((h.en q hq).1.lt hk) (fun e2 => ?_))
      unfold lvOf at e2
      cases hl : M.look s.P p with
      | none => rw [hl] at e2; cases e2
      | some q' =>
        rw [hl] at e2
        have := nodup_injG (·.2.1.ownBlock) h.ead q hq _ (M.look_mem hl) (hk.trans e2)
        rw [this] at e
        exact e rfl
  · exact (h.en q hq).1.keep (fun k hk => g.block k ((h.en q hq).1.lt hk) (fun e => hv k e.symm (.inr ⟨q, hq, hk⟩)))
/-- A list's block, where it is the map's own. -/
theorem lv_all {s : Rs} {p : PlK} {k : Nat} (h : (lvOf s.P p).ownBlock = some k) : s.all k := by
  unfold lvOf at h
  cases hl : M.look s.P p with
  | none => rw [hl] at h; cases h
  | some q => rw [hl] at h; exact .inr ⟨_, M.look_mem hl, h⟩
theorem RgM.lv_ne {w : World} {base : Nat} {s : Rs} (h : RgM w base s) {p : PlK} : ∀ q ∈ s.P, q.1 ≠ p → q.2.1.ownBlock ≠ (lvOf s.P p).ownBlock := fun q hq hne e => by
  unfold lvOf at e
  have hsome : q.2.1.ownBlock ≠ none := fun e0 => by
    rcases (h.en q hq).1 with ⟨_, e1⟩ | ⟨g, cap, cur, e1, _⟩
    · exact (h.en q hq).2.1 e1
    · rw [e1] at e0; cases e0
  cases hl : M.look s.P p with
  | none => rw [hl] at e; exact hsome e
  | some q' =>
    rw [hl] at e
    have := nodup_injG (·.2.1.ownBlock) h.ead q hq _ (M.look_mem hl) e
    rw [this] at hne
    exact hne rfl
/-- What an op leaves. -/
structure OpN (w : World) (base : Nat) (s : Rs) (H : List Rec) (p : PlK) (L : List EnV) (rc : Rec) (s' : Rs) (w' : World) : Prop where
  at' : RgAt w' base s' (rc :: H)
  r : s'.r = s.r
  li : ∀ q, liOf s'.P q = if q = p then L else liOf s.P q
  al : ∀ j, s'.all j → s.all j ∨ w.heap.size ≤ j
  tch : Tch s.all w w'
  new : w.heap.size ≤ rc.bk
  rp : rc.p = p
  rb : rc.bef = liOf s.P p
theorem op_done {w w4 w5 w6 : World} {base : Nat} {s s1 : Rs} {H : List Rec} (h : RgAt w base s H) (b4 : Below w.heap.size w w4) {F pb tb : Nat} {p : PlK} (hp : p.ok) {tv : Value} {T : List (Nat × EnV)} {L : List EnV} (hpb : w4.heap[pb]? = some (.cells p.c.toArray 34 (0, 0))) (htb : w4.heap[tb]? = some (.cells #[tv] 83 (0, 0))) (htl : RD.Lo w4 0 tv T)
    (nx : ONxt w4 base s p L s1 w5) (hst : RgM w6 base { s1 with last := some ⟨w5.heap.size, 0, none⟩ } ∧ w6.heap[w5.heap.size]? = some (.cells #[.pointer s1.last, .func (.func F) #[] #[.pointer (some ⟨pb, 0, none⟩), .pointer (some ⟨tb, 0, none⟩)]] 81 (0, 0)) ∧ Tch (fun j => j = s1.r) w5 w6)
    (hn : (liOf s.P p).length ≤ 2500000000000) (hdid : (⟨w5.heap.size, F, pb, tb, p, tv, T, liOf s.P p, L⟩ : Rec).did) : OpN w base s H p L ⟨w5.heap.size, F, pb, tb, p, tv, T, liOf s.P p, L⟩ { s1 with last := some ⟨w5.heap.size, 0, none⟩ } w6 := by
  obtain ⟨m6, k6, t6⟩ := hst
  have m4 := h.mem.below b4
  have t46 : Tch s.all w4 w6 := nx.tch.trans' t6 (fun j _ e => .inl (by rw [e, nx.r]; simp [Rs.bl]))
  have hO : ∀ j c ty fr, w4.heap[j]? = some (.cells c ty fr) → ty ≠ 69 → ty ≠ 65 → ¬ s.all j := fun j c ty fr h1 h2 h3 => m4.other h1 h2 h3
  have go : ∀ {j : Nat} {c : Array Value} {ty : TypeId} {fr : Nat × Nat}, w4.heap[j]? = some (.cells c ty fr) → ty ≠ 69 → ty ≠ 65 → w6.heap[j]? = some (.cells c ty fr) := fun h1 h2 h3 => (t46.block _ (Array.getElem?_eq_some_iff.1 h1).1 (hO _ _ _ _ h1 h2 h3)).trans h1
  refine ⟨⟨m6, nx.key, rfl, ⟨⟨?_, go hpb (by decide) (by decide), go htb (by decide) (by decide), htl.keep (fun k hk => ?_), hp, (h.mem.list p).2, hn⟩, (h.below b4).hist.keep t46 hO⟩, ⟨?_, hdid, ?_⟩⟩, nx.r, nx.li, fun j hj => ?_, (tch_of b4 _).trans' t46 (fun j _ q => q), Nat.le_trans b4.size nx.tch.size, rfl, rfl⟩
  · have e : s1.last = ptrH H := nx.la.trans h.last
    rw [← e]
    exact k6
  · obtain ⟨_, c, hc⟩ := htl.cells hk
    exact (go hc (by decide) (by decide)).trans hc.symm
  · show liOf s1.P p = L
    rw [nx.li, if_pos rfl]
  · refine h.hok.congr (fun q => ?_)
    show updF (liOf s1.P) p (liOf s.P p) q = _
    unfold updF
    by_cases e : q = p
    · rw [if_pos e, e]
    · rw [if_neg e, nx.li, if_neg e]
  · rcases nx.al j hj with q | q
    · exact .inl q
    · exact .inr (Nat.le_trans b4.size q)
/-- A cell that holds a list of stood ones is written. -/
theorem sd_store {W : World} {tb : Nat} {u : Value} {a : Option Addr} {n c : Nat} (h : W.heap[tb]? = some (.cells #[u] 83 (0, 0))) : ∃ W', (Instr.storeAt 83 (.pointer (some ⟨tb, 0, none⟩)) (.slice a n c)).run Tryd.prog W = .ok () W' ∧ W'.heap[tb]? = some (.cells #[.slice a n c] 83 (0, 0)) ∧ Tch (fun j => j = tb) W W' := by
  have c0 : W.cell? ⟨tb, 0, none⟩ = some u := (cell_of_row W tb 0 _ _ _ h).trans rfl
  have f0 := frozen_of_row W tb 0 _ _ h
  refine ⟨W.setCell ⟨tb, 0, none⟩ (.slice a n c), by go_simp, ?_, ⟨rfl, rfl, rfl, by simp [World.setCell], fun j _ hj => Go.heap_setCell_other _ _ _ _ hj⟩⟩
  exact Go.heap_setCell_same W tb 0 _ 83 _ h
theorem sd_alloc (W : World) : (Instr.alloc 83 true (.tuple #[])).run Tryd.prog W = .ok (.pointer (some ⟨W.heap.size, 0, none⟩)) (W.alloc (.cells #[.slice none 0 0] 83)) := by kernel_rfl
theorem ld_sdl {W : World} {tb : Nat} {a : Option Addr} {n c : Nat} (h : W.heap[tb]? = some (.cells #[.slice a n c] 83 (0, 0))) : (Instr.loadAt 83 (.pointer (some ⟨tb, 0, none⟩))).run Tryd.prog W = .ok (.slice a n c) W := by
  have c0 : W.cell? ⟨tb, 0, none⟩ = some (.slice a n c) := (cell_of_row W tb 0 _ _ _ h).trans rfl
  go_simp
/-- What had leaves in a box. -/
structure HadN (w : World) (T : List (Nat × EnV)) (tb : Nat) (tv : Value) (w' : World) : Prop where
  l : RD.Lo w' w.heap.size tv T
  b : w'.heap[tb]? = some (.cells #[tv] 83 (0, 0))
  bel : Below w.heap.size w w'
  ge : w.heap.size ≤ tb
/-- had and its box, in both orders. -/
theorem had_box {w : World} {base : Nat} {lv : Value} {L : List EnV} (hL : RN.Lo w base lv L) (ok : ∀ x ∈ L, x.ok) (hn : L.length ≤ 2500000000000) {fv : Value} {sn : IdK → Bool} (hs : Seen w fv sn) :
    (Calls Tryd.prog 27 #[lv, fv] w.drew fun e w' => ∃ tv tb wa wb, e = .returned tv ∧ Below w.heap.size w w' ∧ (Instr.alloc 83 true (.tuple #[])).run Tryd.prog w' = .ok (.pointer (some ⟨tb, 0, none⟩)) wa ∧ Below w.heap.size w wa ∧ (Instr.storeAt 83 (.pointer (some ⟨tb, 0, none⟩)) tv).run Tryd.prog wa = .ok () wb ∧ Below w.heap.size w wb ∧ HadN w (Rg.hadI (fun x => sn x.id) 0 L) tb tv wb) ∧
    ∃ y1, (Instr.alloc 83 true (.tuple #[])).run Tryd.prog w.drew = .ok (.pointer (some ⟨w.heap.size, 0, none⟩)) y1 ∧ Below w.heap.size w y1 ∧ Calls Tryd.prog 27 #[lv, fv] y1 fun e w' => ∃ tv wb, e = .returned tv ∧ Below w.heap.size w w' ∧ (Instr.storeAt 83 (.pointer (some ⟨w.heap.size, 0, none⟩)) tv).run Tryd.prog w' = .ok () wb ∧ Below w.heap.size w wb ∧ HadN w (Rg.hadI (fun x => sn x.id) 0 L) w.heap.size tv wb := by
  have bd : Below w.heap.size w w.drew := (Below.refl w.heap.size w).drew
  refine ⟨?_, ?_⟩
  · refine (had_seen (hL.below bd) ok hn (hs.below bd)).mono ?_
    rintro e w' ⟨tv, rfl, o, b⟩
    have bw := bd.trans b
    have ba : Below w'.heap.size w' (w'.alloc (.cells #[.slice none 0 0] 83)) := (Below.refl _ _).alloc (Nat.le_refl _) _
    have na : (w'.alloc (.cells #[.slice none 0 0] 83)).heap[w'.heap.size]? = some (.cells #[.slice none 0 0] 83 (0, 0)) := heap_alloc_new _ _
    obtain ⟨ta, tc, rfl⟩ := o.form
    obtain ⟨wb, es, nb, tb⟩ := sd_store (a := ta) (n := (Rg.hadI (fun x => sn x.id) 0 L).length) (c := tc) na
    have bwa := bw.trans (ba.mono bw.size)
    have bwb : Below w.heap.size w wb := bwa.trans (tb.below bwa.size (fun j e => by rw [e]; exact bw.size))
    refine ⟨_, w'.heap.size, _, wb, rfl, bw, sd_alloc w', bwa, es, bwb, ⟨?_, nb, bwb, bw.size⟩⟩
    refine (o.lo.below ba).keep (fun k hk => tb.block k (Nat.lt_of_lt_of_le (o.lt hk) ba.size) (fun e => by have := o.lt hk; omega))
  · have by1 : Below w.heap.size w.drew (w.drew.alloc (.cells #[.slice none 0 0] 83)) := (Below.refl w.heap.size w.drew).alloc (Nat.le_refl _) _
    have ny : (w.drew.alloc (.cells #[.slice none 0 0] 83)).heap[w.heap.size]? = some (.cells #[.slice none 0 0] 83 (0, 0)) := heap_alloc_new _ _
    have bw := bd.trans by1
    refine ⟨_, sd_alloc w.drew, bw, ?_⟩
    refine (had_seen (hL.below bw) ok hn (hs.below bw)).mono ?_
    rintro e w' ⟨tv, rfl, o, b⟩
    have z1 : w.heap.size < (w.drew.alloc (.cells #[.slice none 0 0] 83)).heap.size := (Array.getElem?_eq_some_iff.1 ny).1
    have bw' := bw.trans (b.mono bw.size)
    obtain ⟨ta, tc, rfl⟩ := o.form
    obtain ⟨wb, es, nb, tb⟩ := sd_store (a := ta) (n := (Rg.hadI (fun x => sn x.id) 0 L).length) (c := tc) ((b.block _ z1).trans ny)
    have bwb : Below w.heap.size w wb := bw'.trans (tb.below bw'.size (fun j e => by rw [e]; exact Nat.le_refl _))
    refine ⟨_, wb, rfl, bw', es, bwb, ⟨?_, nb, bwb, Nat.le_refl _⟩⟩
    refine (o.lo.keep (fun k hk => tb.block k (o.lt hk) (fun e => by have := (o.cells hk).1; omega))).mono (Nat.le_of_lt z1)
end Go.Proofs.YtldlljobofnmmabDoor
