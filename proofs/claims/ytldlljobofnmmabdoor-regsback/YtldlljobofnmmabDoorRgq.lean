import Derived.Test.YtldlljobofnmmabDoorRgv
namespace Go.Proofs.YtldlljobofnmmabDoor
open Go.RowKit
set_option linter.unusedVariables false
set_option linter.unusedSimpArgs false

theorem ch_all (sn : EnV → Bool) (gv : VaV → VaV) (L : List EnV) : Rg.ch (chg gv) L (Rg.hadI sn 0 L) = chs sn gv L := by
  have := Rg.ch_had sn (chg gv) id L []
  simpa [chs] using this
theorem ch_back (sn : EnV → Bool) (gv : VaV → VaV) (L : List EnV) : Rg.ch (chg (fun x => x)) (chs sn gv L) (Rg.hadI sn 0 L) = L := by
  have h := Rg.ch_had sn (chg (fun x => x)) (fun x => if sn x then chg gv x x else x) L []
  have e : (fun x => if sn x = true then chg (fun x => x) (if sn x = true then chg gv x x else x) x else if sn x = true then chg gv x x else x) = fun x : EnV => x := by
    funext x
    by_cases h : sn x = true
    · rw [if_pos h, if_pos h]; rfl
    · rw [if_neg h, if_neg h]
  rw [List.nil_append, List.nil_append, e, List.map_id'] at h
  exact h
theorem chs_ok {sn : EnV → Bool} {gv : VaV → VaV} (hg : ∀ x : VaV, x.ok → (gv x).ok) {L : List EnV} (ok : ∀ x ∈ L, x.ok) : ∀ x ∈ chs sn gv L, x.ok := fun x hx => by
  obtain ⟨y, hy, rfl⟩ := List.mem_map.1 hx
  split
  · exact ⟨(ok y hy).i, hg _ (ok y hy).w⟩
  · exact ok y hy
theorem chs_len (sn : EnV → Bool) (gv : VaV → VaV) (L : List EnV) : (chs sn gv L).length = L.length := by simp [chs]
/-- A list that was made, and lay. -/
theorem then_lay {w4 W : World} {base : Nat} {s : Rs} (m4 : RgM w4 base s) (ko : KeysOk s.K s.P) (hb : base ≤ w4.heap.size) {p : PlK} (hp : p.ok) {v : Value} {R : List EnV} (lo : RN.Lo W base v R) (ok : ∀ y ∈ R, y.ok) (b : Below w4.heap.size w4 W) (rel : v.ownBlock = (lvOf s.P p).ownBlock ∨ ∀ k, v.ownBlock = some k → w4.heap.size ≤ k) :
    S4 s w4 W ∧ Calls Tryd.prog 28 #[.pointer (some ⟨s.r, 0, none⟩), p.v, v] W fun e w5 => e = .returned (.tuple #[]) ∧ S4 s w4 w5 ∧ ∃ s', ONxt w4 base s p R s' w5 := by
  have m := m4.below b
  refine ⟨S4.of (tch_of b _) m, ?_⟩
  refine (lay_new (w0 := w4) m ko (Nat.le_trans hb b.size) hp lo ok (tch_of b _) (fun j hj => m4.allLt hj) rel).mono ?_
  rintro e w5 ⟨rfl, s', n⟩
  exact ⟨rfl, S4.nx n, s', n⟩
theorem op_lp {w4 : World} {base : Nat} {s : Rs} (m4 : RgM w4 base s) {p : PlK} (hp : p.ok) {pb : Nat} (k1 : w4.heap[pb]? = some (.cells p.c.toArray 34 (0, 0))) : ∀ W, S4 s w4 W → (Instr.loadAt 34 (.pointer (some ⟨pb, 0, none⟩))).run Tryd.prog W = .ok p.v W := fun W hW => ld_pl hp (rng_cells (hW.ld m4 k1 (by decide) (by decide)))
theorem op_lt {w4 : World} {base b2 : Nat} {s : Rs} (m4 : RgM w4 base s) {tb : Nat} {tv : Value} {T : List (Nat × EnV)} (hb : w4.heap[tb]? = some (.cells #[tv] 83 (0, 0))) (hl : RD.Lo w4 b2 tv T) : ∀ W, S4 s w4 W → (Instr.loadAt 83 (.pointer (some ⟨tb, 0, none⟩))).run Tryd.prog W = .ok tv W := fun W hW => by
  have hk := hW.ld m4 hb (by decide) (by decide)
  obtain ⟨ta, tn, tc, et⟩ : ∃ ta tn tc, tv = .slice ta tn tc := by
    rcases hl with ⟨e, _⟩ | ⟨g, cap, cur, e, _⟩
    · exact ⟨_, _, _, e⟩
    · exact ⟨_, _, _, e⟩
  rw [et] at hk ⊢
  exact ld_sdl hk
def OpF (w : World) (base : Nat) (s : Rs) (H : List Rec) (p : PlK) (L : List EnV) (bk : Nat) (w' : World) : Prop := ∃ rc s'', rc.bk = bk ∧ OpN w base s H p L rc s'' w'
/-- The end of an op: step. -/
theorem op_fin {w w4 w5 : World} {base : Nat} {s s' : Rs} {H : List Rec} (h : RgAt w base s H) (b4 : Below w.heap.size w w4) {p : PlK} (hp : p.ok) {pb tb F : Nat} {tv : Value} {T : List (Nat × EnV)} {L : List EnV} (kp : w4.heap[pb]? = some (.cells p.c.toArray 34 (0, 0))) (kt : w4.heap[tb]? = some (.cells #[tv] 83 (0, 0))) (kl : RD.Lo w4 0 tv T) (nx : ONxt w4 base s p L s' w5) (hn : (liOf s.P p).length ≤ 2500000000000) (did : ∀ bk, (⟨bk, F, pb, tb, p, tv, T, liOf s.P p, L⟩ : Rec).did) :
    Calls Tryd.prog 30 #[.pointer (some ⟨s.r, 0, none⟩), .func (.func F) #[] #[.pointer (some ⟨pb, 0, none⟩), .pointer (some ⟨tb, 0, none⟩)]] w5 fun e w' => ∃ bk, e = .returned (.pointer (some ⟨bk, 0, none⟩)) ∧ OpF w base s H p L bk w' := by
  rw [← nx.r]
  refine (step_any nx.mem F #[.pointer (some ⟨pb, 0, none⟩), .pointer (some ⟨tb, 0, none⟩)]).mono ?_
  rintro e w6 ⟨rfl, hst⟩
  exact ⟨_, rfl, _, _, rfl, op_done h b4 hp kp kt kl nx hst hn (did _)⟩
/-- What the regions of an op need, from its boxes on. -/
structure OpK (w w3 : World) (base : Nat) (s : Rs) (H : List Rec) (p : PlK) (pb : Nat) (sf : EnV → Bool) : Prop where
  l3 : (∀ W, Below w3.heap.size w3 W → (Instr.loadAt 66 (.pointer (some ⟨s.r, 0 + 0, none⟩))).run Tryd.prog W = .ok (.map (some s.bp)) W) ∧ (∀ W, Below w3.heap.size w3 W → (Instr.loadAt 34 (.pointer (some ⟨pb, 0, none⟩))).run Tryd.prog W = .ok p.v W) ∧ (∀ W, Below w3.heap.size w3 W → (Instr.lookup 66 (.map (some s.bp)) p.v false).run Tryd.prog W = .ok (lvOf s.P p) W)
  l4 : ∀ tb tv w4, HadN w3 (Rg.hadI sf 0 (liOf s.P p)) tb tv w4 → (∀ W, S4 s w4 W → (Instr.loadAt 34 (.pointer (some ⟨pb, 0, none⟩))).run Tryd.prog W = .ok p.v W) ∧ (∀ W, S4 s w4 W → (Instr.loadAt 83 (.pointer (some ⟨tb, 0, none⟩))).run Tryd.prog W = .ok tv W) ∧ S4 s w4 w4.drew ∧ (Instr.lookup 66 (.map (some s.bp)) p.v false).run Tryd.prog w4.drew = .ok (lvOf s.P p) w4.drew ∧ RgM w4 base s ∧ base ≤ w4.heap.size
  fin : ∀ F L, (∀ bk tb tv, (⟨bk, F, pb, tb, p, tv, Rg.hadI sf 0 (liOf s.P p), liOf s.P p, L⟩ : Rec).did) → ∀ tb tv w4 w5 s', HadN w3 (Rg.hadI sf 0 (liOf s.P p)) tb tv w4 → ONxt w4 base s p L s' w5 → Calls Tryd.prog 30 #[.pointer (some ⟨s.r, 0, none⟩), .func (.func F) #[] #[.pointer (some ⟨pb, 0, none⟩), .pointer (some ⟨tb, 0, none⟩)]] w5 fun e w' => ∃ bk, e = .returned (.pointer (some ⟨bk, 0, none⟩)) ∧ OpF w base s H p L bk w'
theorem OpK.mk' {w w3 : World} {base : Nat} {s : Rs} {H : List Rec} (h : RgAt w base s H) (hb : base ≤ w.heap.size) (b3 : Below w.heap.size w w3) {p : PlK} (hp : p.ok) {pb : Nat} (nA3 : w3.heap[pb]? = some (.cells p.c.toArray 34 (0, 0))) (hn : (liOf s.P p).length ≤ 2500000000000) (sf : EnV → Bool) : OpK w w3 base s H p pb sf := by
  have h3 := h.below b3
  refine ⟨⟨fun W b => ?_, fun W b => ?_, fun W b => (h3.mem.below b).lookP p hp⟩, fun tb tv w4 hd => ?_, fun F L did tb tv w4 w5 s' hd nx => ?_⟩
  · have := (h3.mem.below b).c0
    go_simp
  · exact ld_pl hp (rng_cells ((b.block _ (Array.getElem?_eq_some_iff.1 nA3).1).trans nA3))
  · have m4 := h3.mem.below hd.bel
    have k1 := (hd.bel.block _ (Array.getElem?_eq_some_iff.1 nA3).1).trans nA3
    exact ⟨op_lp m4 hp k1, op_lt m4 hd.b hd.l, S4.of (tch_of (Below.refl w4.heap.size w4).drew _) (m4.below (Below.refl w4.heap.size w4).drew), (m4.below (Below.refl w4.heap.size w4).drew).lookP p hp, m4, by have := hd.bel.size; have := b3.size; omega⟩
  · have k1 := (hd.bel.block _ (Array.getElem?_eq_some_iff.1 nA3).1).trans nA3
    exact op_fin h (b3.trans (hd.bel.mono b3.size)) hp k1 hd.b (hd.l.mono (Nat.zero_le _)) nx hn (fun bk => did bk tb tv)
set_option maxRecDepth 100000 in
set_option maxHeartbeats 8000000 in
/-- Delete. -/
theorem delete_any {w : World} {base : Nat} {s : Rs} {H : List Rec} (h : RgAt w base s H) (hb : base ≤ w.heap.size) {p : PlK} (hp : p.ok) {fv : Value} {sn : IdK → Bool} (hs : Seen w fv sn) (hn : (liOf s.P p).length ≤ 2500000000000) :
    Calls Tryd.prog 22 #[.pointer (some ⟨s.r, 0, none⟩), p.v, fv] w (OpE w base s H p (Rg.res (fun y => sn y.id) (liOf s.P p))) := by
  have bA : Below w.heap.size w (w.alloc (.cells p.c.toArray 34)) := (Below.refl _ _).alloc (Nat.le_refl _) _
  have nA : (w.alloc (.cells p.c.toArray 34)).heap[w.heap.size]? = some (.cells p.c.toArray 34 (0, 0)) := heap_alloc_new _ _
  have EA := hidMk (show (Instr.box 34 p.v).run Tryd.prog w = .ok (.pointer (some ⟨w.heap.size, 0, none⟩)) (w.alloc (.cells p.c.toArray 34)) by rw [run_box]; rfl)
  generalize w.alloc (.cells p.c.toArray 34) = w3 at *
  obtain ⟨pb, hpb⟩ : ∃ pb, w.heap.size = pb := ⟨_, rfl⟩
  have h3 := h.below bA
  have okL := (h.mem.list p).2
  obtain ⟨CA, y1, EY, SY, CB⟩ := had_box (h3.mem.list p).1 okL hn (hs.below bA)
  obtain ⟨sf, hsf⟩ : ∃ sf : EnV → Bool, (fun y : EnV => sn y.id) = sf := ⟨_, rfl⟩
  rw [hsf] at CA CB ⊢
  have OK := hidMk (OpK.mk' h hb bA hp nA hn sf)
  rw [hpb] at OK EA
  have TAIL : Hid (∀ tb tv w4, HadN w3 (Rg.hadI sf 0 (liOf s.P p)) tb tv w4 → Calls Tryd.prog 29 #[lvOf s.P p, tv] w4.drew fun e w' => ∃ u, e = .returned u ∧ S4 s w4 w' ∧ Calls Tryd.prog 28 #[.pointer (some ⟨s.r, 0, none⟩), p.v, u] w' fun e w5 => e = .returned (.tuple #[]) ∧ S4 s w4 w5 ∧ ∃ s', ONxt w4 base s p (Rg.res sf (liOf s.P p)) s' w5) := by
    intro tb tv w4 hd
    obtain ⟨_, _, _, _, m4, hb4⟩ := OK.out.l4 tb tv w4 hd
    have bd : Below w4.heap.size w4 w4.drew := (Below.refl w4.heap.size w4).drew
    refine (without_all (base := base) (sn := sf) ((m4.below bd).list p).1 okL hn (hd.l.below bd) hb4).mono ?_
    rintro e w' ⟨v1, rfl, lo1, b1, rel⟩
    exact ⟨v1, rfl, then_lay m4 h.key hb4 hp lo1 (fun y hy => okL y (List.mem_filter.1 hy).1) (bd.trans b1) (rel.imp (fun q => by rw [q.1]) id)⟩
  have DID : Hid (∀ bk tb tv, (⟨bk, 39, pb, tb, p, tv, Rg.hadI sf 0 (liOf s.P p), liOf s.P p, Rg.res sf (liOf s.P p)⟩ : Rec).did) := fun bk tb tv => ⟨sf, rfl, .inr (.inl ⟨rfl, rfl⟩)⟩
  have HCA := hidMk CA
  have HCB := hidMk CB
  have HEY := hidMk (And.intro EY SY)
  have S3d : Below w3.heap.size w3 w3.drew := (Below.refl w3.heap.size w3).drew
  clear CA CB EY SY okL h3 nA bA hsf h hs hpb
  go_enter Tryd.func22, Tryd.ntmps22
  go_upto_region 3 with (first
    | (refine wpList_run rfl (exec_boxE (t := 34) (v := p.v) (u := .pointer (some ⟨pb, 0, none⟩)) (w2 := w3) rfl rfl EA.out) ?_)
    | fail)
  clear EA
  refine del3 (rb := s.r) (mb := s.bp) (pb := pb) (tb2 := w3.heap.size) (p := p) (lv := lvOf s.P p) (y1 := y1) (fun W => Below w3.heap.size w3 W) (fun tb tv w' => HadN w3 (Rg.hadI sf 0 (liOf s.P p)) tb tv w') _ w3 _ rfl rfl rfl rfl S3d OK.out.l3.1 OK.out.l3.2.1 OK.out.l3.2.2 HCA.out HEY.out.1 HEY.out.2 HCB.out ?_ ?_
  rotate_left
  intro tv a' w4 hd ha
  obtain ⟨tb, htb⟩ : ∃ tb, w3.heap.size = tb := ⟨_, rfl⟩
  rw [htb] at hd ha
  rotate_left
  intro tv tb a' w4 hd ha
  all_goals
    subst ha
    simp only [Act.put, List.setIfInBounds_toArray, List.set_cons_zero, List.set_cons_succ]
    obtain ⟨k1, k2, k3, k4, _⟩ := OK.out.l4 tb tv w4 hd
    have HK := hidMk (And.intro k1 (And.intro k2 (And.intro k3 k4)))
    have HT := hidMk (TAIL.out tb tv w4 hd)
    have HD := hidMk hd
    clear k1 k2 k3 k4 hd
    go_upto_region 4 with fail
    refine del4 (rb := s.r) (mb := s.bp) (pb := pb) (tb := tb) (p := p) (lv := lvOf s.P p) (tv := tv) (S4 s w4) (fun w5 => ∃ s', ONxt w4 base s p (Rg.res sf (liOf s.P p)) s' w5) _ w4 _ rfl rfl rfl rfl HK.out.2.2.1 (fun W hW => hW.lr) HK.out.1 HK.out.2.1 HK.out.2.2.2 HT.out ?_
    intro u a' w5 hf ha
    subst ha
    simp only [Act.put, List.setIfInBounds_toArray, List.set_cons_zero, List.set_cons_succ]
    obtain ⟨s', nx⟩ := hf
    have CS := hidMk (OK.out.fin _ _ DID.out tb tv w4 w5 s' HD.out nx)
    clear HK HT nx
    go_upto_region 5 with fail
    refine del5 (rb := s.r) (pb := pb) (tb := tb) (OpF w base s H p (Rg.res sf (liOf s.P p))) _ w5 _ rfl rfl rfl rfl CS.out ?_
    intro bk a' w6 hf ha
    subst ha
    simp only [Act.put, List.setIfInBounds_toArray, List.set_cons_zero, List.set_cons_succ]
    have HF := hidMk hf
    clear CS hf
    go_wp2
    go_ret
    obtain ⟨rc, s'', e, o⟩ := HF.out
    subst e
    exact ⟨rc, s'', rfl, o⟩
set_option maxRecDepth 100000 in
set_option maxHeartbeats 8000000 in
/-- Add. -/
theorem add_any {w : World} {base : Nat} {s : Rs} {H : List Rec} (h : RgAt w base s H) (hb : base ≤ w.heap.size) {p : PlK} (hp : p.ok) {n : Int} (hnn : -9223372036854775808 ≤ n ∧ n ≤ 9223372036854775807) {fv : Value} {sn : IdK → Bool} (hs : Seen w fv sn) (hn : (liOf s.P p).length ≤ 2500000000000) :
    Calls Tryd.prog 16 #[.pointer (some ⟨s.r, 0, none⟩), p.v, .int .i64 n, fv] w (OpE w base s H p (chs (fun y => sn y.id) (sumV n) (liOf s.P p))) := by
  have bA : Below w.heap.size w (w.alloc (.cells p.c.toArray 34)) := (Below.refl _ _).alloc (Nat.le_refl _) _
  have nA : (w.alloc (.cells p.c.toArray 34)).heap[w.heap.size]? = some (.cells p.c.toArray 34 (0, 0)) := heap_alloc_new _ _
  have EA := hidMk (show (Instr.box 34 p.v).run Tryd.prog w = .ok (.pointer (some ⟨w.heap.size, 0, none⟩)) (w.alloc (.cells p.c.toArray 34)) by rw [run_box]; rfl)
  generalize w.alloc (.cells p.c.toArray 34) = w1 at *
  have l1 := (Array.getElem?_eq_some_iff.1 nA).1
  have bB : Below w1.heap.size w1 (w1.alloc (.cells #[.int .i64 n] 2)) := (Below.refl _ _).alloc (Nat.le_refl _) _
  have nB : (w1.alloc (.cells #[.int .i64 n] 2)).heap[w1.heap.size]? = some (.cells #[.int .i64 n] 2 (0, 0)) := heap_alloc_new _ _
  have EB := hidMk (show (Instr.box 2 (.int .i64 n)).run Tryd.prog w1 = .ok (.pointer (some ⟨w1.heap.size, 0, none⟩)) (w1.alloc (.cells #[.int .i64 n] 2)) by rw [run_box]; rfl)
  obtain ⟨pb, hpb⟩ : ∃ pb, w.heap.size = pb := ⟨_, rfl⟩
  obtain ⟨nb, hnb⟩ : ∃ nb, w1.heap.size = nb := ⟨_, rfl⟩
  generalize w1.alloc (.cells #[.int .i64 n] 2) = w3 at *
  have b3 : Below w.heap.size w w3 := bA.trans (bB.mono bA.size)
  have nA3 : w3.heap[w.heap.size]? = some (.cells p.c.toArray 34 (0, 0)) := (bB.block _ l1).trans nA
  have h3 := h.below b3
  have okL := (h.mem.list p).2
  obtain ⟨CA, y1, EY, SY, CB⟩ := had_box (h3.mem.list p).1 okL hn (hs.below b3)
  obtain ⟨sf, hsf⟩ : ∃ sf : EnV → Bool, (fun y : EnV => sn y.id) = sf := ⟨_, rfl⟩
  rw [hsf] at CA CB ⊢
  have OK := hidMk (OpK.mk' h hb b3 hp nA3 hn sf)
  rw [hpb] at OK EA
  rw [hnb] at EB nB
  have TAIL : Hid (∀ tb tv w4, HadN w3 (Rg.hadI sf 0 (liOf s.P p)) tb tv w4 → Calls Tryd.prog 34 #[lvOf s.P p, tv, .func (.func 35) #[] #[.pointer (some ⟨nb, 0, none⟩)]] w4.drew fun e w' => ∃ u, e = .returned u ∧ S4 s w4 w' ∧ Calls Tryd.prog 28 #[.pointer (some ⟨s.r, 0, none⟩), p.v, u] w' fun e w5 => e = .returned (.tuple #[]) ∧ S4 s w4 w5 ∧ ∃ s', ONxt w4 base s p (chs sf (sumV n) (liOf s.P p)) s' w5) := by
    intro tb tv w4 hd
    obtain ⟨_, _, _, _, m4, hb4⟩ := OK.out.l4 tb tv w4 hd
    have bd : Below w4.heap.size w4 w4.drew := (Below.refl w4.heap.size w4).drew
    have kn : w4.drew.heap[nb]? = _ := (bd.block nb (Array.getElem?_eq_some_iff.1 ((hd.bel.block nb (Array.getElem?_eq_some_iff.1 nB).1).trans nB)).1).trans ((hd.bel.block nb (Array.getElem?_eq_some_iff.1 nB).1).trans nB)
    refine (changed_all (base := base) (sn := sf) (L := liOf s.P p) ((m4.below bd).list p).1 okL okL rfl hn (hd.l.below bd) hb4 (turns_add hnn kn)).mono ?_
    rintro e w' ⟨v1, rfl, lo1, b1, rel⟩
    rw [ch_all] at lo1
    exact ⟨v1, rfl, then_lay m4 h.key hb4 hp lo1 (chs_ok (fun x hx => sumV_ok hx) okL) (bd.trans b1) (rel.imp (fun q => by rw [q]) id)⟩
  have DID : Hid (∀ bk tb tv, (⟨bk, 37, pb, tb, p, tv, Rg.hadI sf 0 (liOf s.P p), liOf s.P p, chs sf (sumV n) (liOf s.P p)⟩ : Rec).did) := fun bk tb tv => ⟨sf, rfl, .inr (.inr ⟨rfl, _, rfl⟩)⟩
  have HCA := hidMk CA
  have HCB := hidMk CB
  have HEY := hidMk (And.intro EY SY)
  have S3d : Below w3.heap.size w3 w3.drew := (Below.refl w3.heap.size w3).drew
  clear CA CB EY SY okL h3 nA bA hsf h hs hpb hnb nB bB b3 nA3 l1
  obtain ⟨LL, hLL⟩ : ∃ LL, chs sf (sumV n) (liOf s.P p) = LL := ⟨_, rfl⟩
  rw [hLL] at TAIL DID ⊢
  clear hLL
  go_enter Tryd.func16, Tryd.ntmps16
  go_upto_region 3 with (first
    | (refine wpList_run rfl (exec_boxE (t := 34) (v := p.v) (u := .pointer (some ⟨pb, 0, none⟩)) (w2 := w1) rfl rfl EA.out) ?_)
    | (refine wpList_run rfl (exec_boxE (t := 2) (v := .int .i64 n) (u := .pointer (some ⟨nb, 0, none⟩)) (w2 := w3) rfl rfl EB.out) ?_)
    | fail)
  clear EA EB
  refine add3 (rb := s.r) (mb := s.bp) (pb := pb) (tb2 := w3.heap.size) (p := p) (lv := lvOf s.P p) (y1 := y1) (fun W => Below w3.heap.size w3 W) (fun tb tv w' => HadN w3 (Rg.hadI sf 0 (liOf s.P p)) tb tv w') _ w3 _ rfl rfl rfl rfl S3d OK.out.l3.1 OK.out.l3.2.1 OK.out.l3.2.2 HCA.out HEY.out.1 HEY.out.2 HCB.out ?_ ?_
  rotate_left
  intro tv a' w4 hd ha
  obtain ⟨tb, htb⟩ : ∃ tb, w3.heap.size = tb := ⟨_, rfl⟩
  rw [htb] at hd ha
  rotate_left
  intro tv tb a' w4 hd ha
  all_goals
    subst ha
    simp only [Act.put, List.setIfInBounds_toArray, List.set_cons_zero, List.set_cons_succ]
    obtain ⟨k1, k2, k3, k4, _⟩ := OK.out.l4 tb tv w4 hd
    have HK := hidMk (And.intro k1 (And.intro k2 (And.intro k3 k4)))
    have HT := hidMk (TAIL.out tb tv w4 hd)
    have HD := hidMk hd
    clear k1 k2 k3 k4 hd
    go_upto_region 4 with fail
    refine add4 (rb := s.r) (mb := s.bp) (pb := pb) (tb := tb) (p := p) (lv := lvOf s.P p) (tv := tv) (nb := nb) (S4 s w4) (fun w5 => ∃ s', ONxt w4 base s p LL s' w5) _ w4 _ rfl rfl rfl rfl rfl HK.out.2.2.1 (fun W hW => hW.lr) HK.out.1 HK.out.2.1 HK.out.2.2.2 HT.out ?_
    intro u a' w5 hf ha
    subst ha
    simp only [Act.put, List.setIfInBounds_toArray, List.set_cons_zero, List.set_cons_succ]
    obtain ⟨s', nx⟩ := hf
    have CS := hidMk (OK.out.fin _ _ DID.out tb tv w4 w5 s' HD.out nx)
    clear HK HT nx
    go_upto_region 5 with fail
    refine add5 (rb := s.r) (pb := pb) (tb := tb) (OpF w base s H p LL) _ w5 _ rfl rfl rfl rfl CS.out ?_
    intro bk a' w6 hf ha
    subst ha
    simp only [Act.put, List.setIfInBounds_toArray, List.set_cons_zero, List.set_cons_succ]
    have HF := hidMk hf
    clear CS hf
    go_wp2
    go_ret
    obtain ⟨rc, s'', e, o⟩ := HF.out
    subst e
    exact ⟨rc, s'', rfl, o⟩
end Go.Proofs.YtldlljobofnmmabDoor
