import Derived.Test.YtifendlpeebofaaGreatDoorP6
import Derived.Test.YtifendlpeebofaaGreatDoorP0
import Derived.Test.YtifendlpeebofaaGreatDoorMa
import Derived.Maps.RangeRun
import Derived.Test.YtifendlpeebofaaGreatDoorP5
set_option linter.unusedSimpArgs false
set_option linter.unusedVariables false
set_option maxRecDepth 100000
set_option maxHeartbeats 4000000
namespace Go.Proofs.YtifendlpeebofaaGreatDoor
open Go.RowKit Go.Shelf Sq
attribute [local go_sem] Oper.semAt_some
def CvS (w : World) (fm : Nat) (E : List Elt) (L : List MkV) (W : World) : Prop := ∃ D, CmAt W w.heap.size fm D (fun nm => cvN E L nm) ∧ Below w.heap.size w W
theorem CvS.skip {w W W' : World} {fm : Nat} {E : List Elt} {L : List MkV} {x : MkV} (h : CvS w fm E L W) (b : Below W.heap.size W W') (hx : ¬ (cvE E x).fr < (cvE E x).to) : CvS w fm E (L ++ [x]) W' := by
  obtain ⟨D, c, bl⟩ := h
  refine ⟨D, ?_, bl.trans (b.mono bl.size)⟩
  rw [show (fun nm => cvN E (L ++ [x]) nm) = fun nm => cvN E L nm from funext fun nm => by rw [cvN_snoc, if_neg (fun q => hx q.1), List.append_nil]]
  exact c.below b
theorem cvN_put {E : List Elt} {L : List MkV} {x : MkV} (hx : (cvE E x).fr < (cvE E x).to) : (fun nm => cvN E (L ++ [x]) nm) = fun k' => if k' = x.nm then cvN E L x.nm ++ [cvE E x] else cvN E L k' := by
  funext nm
  rw [cvN_snoc]
  by_cases h : nm = x.nm
  · rw [if_pos ⟨hx, h⟩, if_pos h, h]
  · rw [if_neg (fun q => h q.2), if_neg h, List.append_nil]
theorem CvS.more {w W : World} {fm : Nat} {E : List Elt} {L : List MkV} {x : MkV} {p : SpV} {D : List (ByteArray × Value)} (hp : cvE E x = p) (hl : (cvE E x).fr < (cvE E x).to) (c : CmAt W w.heap.size fm D (fun k' => if k' = x.nm then cvN E L x.nm ++ [p] else cvN E L k')) (b : Below w.heap.size w W) : CvS w fm E (L ++ [x]) W := by
  subst hp
  rw [← cvN_put hl] at c
  exact ⟨D, c, b⟩
set_option maxHeartbeats 8000000 in
theorem covers_any {w : World} {s : Sx} {E : List Elt} {base : Nat} {m : Mx} (h : SeqAt w s E) (hm : MkAt w base m) :
    Calls Tryz.prog 63 #[.pointer (some ⟨m.mb, 0, none⟩), .pointer (some ⟨s.sb, 0, none⟩)] w fun e w' => ∃ fm, e = .returned (.map (some fm)) ∧ CvS w fm E m.L w' := by
  obtain ⟨E1, C1, b1⟩ := CmAt.new w
  obtain ⟨w1, hw1⟩ : ∃ w1, w.alloc (.map #[] 0) = w1 := ⟨_, rfl⟩
  rw [hw1] at E1 C1 b1
  obtain ⟨la, lc, elv, hat⟩ := hm.lvS
  have LL := (hm.below b1).ldl
  rw [elv] at LL
  have HH := hidMk (fun (W : World) (b : Below w.heap.size w W) => h.below b)
  have HOK := hidMk (fun x hx => cvE_ok (x := x) h hx)
  have RN := hidMk (fun x => reach_nat h.lk.ok x)
  have FEW := hidMk h.few
  have HAT := hidMk (fun (W : World) (b : Below w.heap.size w W) => hat.below b)
  have MOK := hidMk hm.ok
  obtain ⟨n, hn⟩ : ∃ n, m.L.length = n := ⟨_, rfl⟩
  have HN := hidMk (show m.L.length = n ∧ n ≤ 900000000000 from ⟨hn, by rw [← hn]; exact hm.n⟩)
  rw [hn] at LL
  obtain ⟨fm, hfm⟩ : ∃ fm, w.heap.size = fm := ⟨_, rfl⟩
  have I0 := hidMk (show CvS w fm E (m.L.take 0) w1 from ⟨[], by rw [← hfm]; exact C1, b1⟩)
  rw [hfm] at E1
  clear hw1 C1 b1 elv hat h hm hn hfm
  go_enter Tryz.func63, Tryz.ntmps63
  go_upto_region 1 with fail
  refine cvr1 (fm := fm) (w1 := w1) _ w _ rfl E1 ?_
  intro a' w3 hw ha
  obtain rfl : w1 = w3 := hw.symm
  subst ha
  simp only [Act.put, List.setIfInBounds_toArray, List.set_cons_zero, List.set_cons_succ]
  clear E1
  go_upto_region 2 with fail
  refine cvr2 (mb := m.mb) (n := n) (c := lc) (la := la) _ w1 _ rfl rfl LL ?_
  intro a' w3 hw ha
  obtain rfl : w1 = w3 := hw.symm
  subst ha
  simp only [Act.put, List.setIfInBounds_toArray, List.set_cons_zero, List.set_cons_succ]
  clear LL
  go_wp2
  go_loopw [17] (fun v17 wr => ∃ i : Nat, v17 = .int .i64 (i : Int) ∧ i ≤ n ∧ Hid (CvS w fm E (m.L.take i) wr)) (fun v17 _ => n - (intOf v17).toNat)
  case atStart => exact ⟨0, rfl, Nat.zero_le _, I0⟩
  case round =>
    clear I0
    obtain ⟨i, rfl, hi, HI⟩ := hrel
    by_cases h : i < n
    · have h' : (i : Int) < (n : Int) := by omega
      have hn64 : n ≤ 9223372036854775807 := by have := HN.out; omega
      obtain ⟨x, hx⟩ : ∃ x, m.L[i]? = some x := ⟨_, List.getElem?_eq_getElem (by have := HN.out; omega)⟩
      have MX := hidMk (MOK.out x (List.mem_of_getElem? hx))
      have TK := hidMk (show m.L.take (i + 1) = m.L.take i ++ [x] by rw [List.take_add_one, hx]; rfl)
      have MS := hidMk (show n - (((i + 1 : Nat) : Int)).toNat < n - ((i : Nat) : Int).toNat by simp only [Int.toNat_natCast]; omega)
      have HH1 := hidMk h
      obtain ⟨D, HC, hbl⟩ : ∃ D, Hid (CmAt wr w.heap.size fm D (fun nm => cvN E (m.L.take i) nm)) ∧ Hid (Below w.heap.size w wr) := by
        obtain ⟨D, c, b⟩ := HI.out
        exact ⟨D, hidMk c, hidMk b⟩
      obtain ⟨g, o, rfl, _, hr⟩ := (HAT.out wr hbl.out).get (i := i) (by have := HN.out; omega)
      have hr' : wr.rangeAt g (o + 105 * i) x.c := by
        have e : m.L[i]'(by have := HN.out; omega) = x := (List.getElem?_eq_some_iff.1 hx).2
        rw [e] at hr; exact hr
      have LX := RowT.ld RM_is MX.out.1 hr'
      have EA := RowT.bx_zero RM_is wr
      have ES := RowT.bx_new RM_is wr MX.out.1
      obtain ⟨hbx, hbb⟩ := RowT.bx_is RM wr x
      clear hr hr' hx
      go_upto_region 4 with fail
      refine cvr4 (g := g) (o := o) (n := n) (c := lc) (i := i) (eb := wr.heap.size) (x := x) _ wr _ rfl rfl rfl h hn64 LX EA ES ?_
      intro a' w3 hw ha
      subst ha
      rw [← hw] at hbx hbb
      obtain ⟨w4, hw4⟩ : ∃ w4, w3 = w4 := ⟨_, rfl⟩
      rw [hw4] at hbx hbb ⊢
      simp only [Act.put, List.setIfInBounds_toArray, List.set_cons_zero, List.set_cons_succ]
      clear LX EA ES hw hw4
      obtain ⟨f, t, hft, hf, ht⟩ := RN.out x
      have b4 := hbl.out.trans (hbb.mono hbl.out.size)
      have RC := hidMk (reach_any (HH.out w4 b4) MX.out.1 MX.out.2 hbx)
      have HFT := hidMk hft
      have HB4 := hidMk (And.intro hbx hbb)
      have hF := hidMk (show cvE E x = ⟨idxE E (f : Int), idxE E (t : Int), x.nm, x.v⟩ by unfold cvE; rw [hft])
      rw [hft] at RC
      clear hbx hbb b4 hft
      go_upto_region 5 with fail
      refine cvr5 (sb := s.sb) (eb := wr.heap.size) (f := (f : Int)) (t := (t : Int)) (fun W => Below w4.heap.size w4 W) _ w4 _ rfl rfl rfl RC.out ?_
      intro a' w5 b5 ha
      subst ha
      simp only [Act.put, List.setIfInBounds_toArray, List.set_cons_zero, List.set_cons_succ]
      clear RC
      have hb05 : Below wr.heap.size wr w5 := HB4.out.2.trans (b5.mono HB4.out.2.size)
      have hbx5 := HB4.out.1.below b5
      have B05 := hidMk hb05
      have BX5 := hidMk hbx5
      clear hb05 hbx5 b5 HB4
      have hfe := FEW.out
      have H5 : ∀ W, Below w5.heap.size w5 W → SeqAt W s E := fun W b => HH.out W ((hbl.out.trans (B05.out.mono hbl.out.size)).trans (b.mono (Nat.le_trans hbl.out.size B05.out.size)))
      have IX : ∀ (r : Nat), r ≤ E.length → ∀ W, Below w5.heap.size w5 W → Calls Tryz.prog 55 #[.pointer (some ⟨s.sb, 0, none⟩), .int .i64 (r : Int)] W fun e w1 => e = .returned (.int .i64 (idxE E (r : Int))) ∧ Below W.heap.size W w1 := fun r hr W b => index_at_any (H5 W b) (by omega)
      have okp := HOK.out x MX.out.1
      rw [hF.out] at okp
      have IF := IX f hf
      have IT := IX t ht
      clear IX H5 hfe
      obtain ⟨fi, hfi⟩ : ∃ fi, idxE E (f : Int) = fi := ⟨_, rfl⟩
      obtain ⟨ti, hti⟩ : ∃ ti, idxE E (t : Int) = ti := ⟨_, rfl⟩
      rw [hfi] at IF okp hF
      rw [hti] at IT okp hF
      clear hfi hti
      go_upto_region 6 with fail
      refine cvr6 (sb := s.sb) (eb := wr.heap.size) (f := (f : Int)) (t := (t : Int)) (fi := fi) (ti := ti) (x := x) (fun W => Below w5.heap.size w5 W) (fun pb W => Below w5.heap.size w5 W ∧ w5.heap.size ≤ pb ∧ RSp.Bx W pb zSp7) (fun pb W => Below w5.heap.size w5 W ∧ w5.heap.size ≤ pb ∧ RSp.Bx W pb ⟨fi, ti, x.nm, x.v⟩) _ w5 _ rfl rfl rfl rfl rfl ((Below.refl _ _).drew) (fun _ _ h => h.1) (fun _ _ h => h.1) (fun W b => mk_nm MX.out.1 (RowT.Bx.rng (BX5.out.below b))) (fun W b => mk_v MX.out.1 (RowT.Bx.rng (BX5.out.below b)))
        (fun W b => (IF W b).mono fun e W1 q => ⟨q.1, b.trans (q.2.mono b.size)⟩) (fun W b => (IT W b).mono fun e W1 q => ⟨q.1, b.trans (q.2.mono b.size)⟩)
        (fun pb W b => (IF W b.1).mono fun e W1 q => ⟨q.1, b.1.trans (q.2.mono b.1.size), b.2.1, b.2.2.below q.2⟩) (fun pb W b => (IT W b.1).mono fun e W1 q => ⟨q.1, b.1.trans (q.2.mono b.1.size), b.2.1, b.2.2.below q.2⟩)
        (fun W b => ⟨_, _, RowT.bx_zero RSp_is W, b.trans ((RowT.bx_is RSp W zSp7).2.mono b.size), b.size, (RowT.bx_is RSp W zSp7).1⟩)
        (fun pb W b => ⟨_, RowT.bx_store RSp_is zSp7_ok okp b.2.2, b.1.trans (set_below _ b.1.size b.2.1), b.2.1, setRow_heap W pb _ _ _ _ b.2.2⟩) ?_ ?_ ?_
      all_goals
        rintro pb a' w6 ⟨b6, hpb, hb6⟩ ha
        subst ha
        simp only [Act.put, List.setIfInBounds_toArray, List.set_cons_zero, List.set_cons_succ]
        have b06 : Below wr.heap.size wr w6 := B05.out.trans (b6.mono B05.out.size)
        have bx6 := BX5.out.below b6
        have PB := hidMk (Nat.le_trans B05.out.size hpb)
        have PL := hidMk (Array.getElem?_eq_some_iff.1 hb6).1
        obtain ⟨r, hr⟩ : ∃ r, decide (fi < ti) = r := ⟨_, rfl⟩
        have L1 := sp_fr hb6
        have L2 := sp_to hb6
        have B06 := hidMk b06
        have BX6 := hidMk bx6
        have HB6 := hidMk hb6
        clear b6 hpb hb6 b06 bx6
        go_upto_region 7 with fail
        refine cvr7 (eb := pb) (p := ⟨fi, ti, x.nm, x.v⟩) (r := r) _ w6 _ rfl rfl hr L1 L2 ?_
        intro a' w3 hw ha
        obtain rfl : w6 = w3 := hw.symm
        subst ha
        simp only [Act.put, List.setIfInBounds_toArray, List.set_cons_zero, List.set_cons_succ]
        clear L1 L2
        have H := HH1.out
        cases r with
        | false =>
          have NI := hidMk (show CvS w fm E (m.L.take (i + 1)) w6 by
            rw [TK.out]
            exact CvS.skip HI.out B06.out (by rw [hF.out]; exact of_decide_eq_false hr))
          clear HI HC
          go_wp2
          rw [show ((i : Int) + 1) = ((i + 1 : Nat) : Int) by omega]
          exact ⟨⟨i + 1, rfl, H, NI⟩, MS.out⟩
        | true =>
          have B6d : Below wr.heap.size wr w6.drew := B06.out.trans ((Below.refl _ _).drew)
          have C6 := HC.out.below B6d
          have ltp : (cvE E x).fr < (cvE E x).to := by rw [hF.out]; exact of_decide_eq_true hr
          have nmk : txOk x.nm := MX.out.1.nm
          have lnk : (cvN E (m.L.take i) x.nm).length + 1 ≤ 2000000000000 := by
            have := cvN_len E (m.L.take i) x.nm
            rw [List.length_take] at this
            have := HN.out
            omega
          obtain ⟨sv, y1, v2, y2, y3, g1, bb1, g2, k2, m2, g3, b3, C7⟩ := C6.push (Nat.le_trans hbl.out.size B6d.size) nmk okp lnk
          have NI := hidMk (show CvS w fm E (m.L.take (i + 1)) y3 by
            rw [TK.out]
            exact CvS.more hF.out ltp C7 ((hbl.out.trans (B6d.mono hbl.out.size)).trans b3))
          have ow : ∀ j, (uV D x.nm).ownBlock = some j → j < wr.heap.size := fun j hj => (HC.out.own x.nm).lt hj
          have ne1 : (uV D x.nm).ownBlock ≠ some wr.heap.size := fun e => Nat.lt_irrefl _ (ow _ e)
          have ne2 : (uV D x.nm).ownBlock ≠ some pb := fun e => Nat.lt_irrefl _ (Nat.lt_of_lt_of_le (ow _ e) PB.out)
          have X6 : RM.Bx w6.drew wr.heap.size x := BX6.out
          have P6 : RSp.Bx w6.drew pb ⟨fi, ti, x.nm, x.v⟩ := HB6.out
          have l1 := (Array.getElem?_eq_some_iff.1 X6).1
          have l2 := (Array.getElem?_eq_some_iff.1 P6).1
          have S2 : M.MapAt y2 fm tx txOk D ∧ RM.Bx y2 wr.heap.size x ∧ RSp.Bx y2 pb ⟨fi, ti, x.nm, x.v⟩ := ⟨m2, (k2 _ l1 ne1).trans X6, (k2 _ l2 ne2).trans P6⟩
          have S1 : M.MapAt y1 fm tx txOk D ∧ RM.Bx y1 wr.heap.size x ∧ RSp.Bx y1 pb ⟨fi, ti, x.nm, x.v⟩ := ⟨C6.m.below (bb1.block _ C6.m.lt), X6.below bb1, P6.below bb1⟩
          have S0 : M.MapAt w6.drew fm tx txOk D ∧ RM.Bx w6.drew wr.heap.size x ∧ RSp.Bx w6.drew pb ⟨fi, ti, x.nm, x.v⟩ := ⟨C6.m, X6, P6⟩
          clear HI HC B6d C6 ltp lnk bb1 k2 m2 b3 C7 ow ne1 ne2 X6 P6 l1 l2 B06 BX6 HB6
          go_upto_region 8 with fail
          refine cvr8 (fm := fm) (eb := wr.heap.size) (sb := pb) (p := ⟨fi, ti, x.nm, x.v⟩) (x := x) (u := uV D x.nm) (sv := sv) (v2 := v2) (w1 := y1) (w2 := y2) (w3 := y3) (fun W => M.MapAt W fm tx txOk D ∧ RM.Bx W wr.heap.size x ∧ RSp.Bx W pb ⟨fi, ti, x.nm, x.v⟩) _ w6 _ rfl rfl rfl rfl S0 (fun W q => mk_nm MX.out.1 (RowT.Bx.rng q.2.1)) (fun W q => RowT.ld RSp_is okp (RowT.Bx.rng q.2.2)) (fun W q => CmAt.lookr q.1 nmk) g1 S1 g2 S2 g3 ?_
          intro a' w3 hw ha
          obtain rfl : y3 = w3 := hw.symm
          subst ha
          simp only [Act.put, List.setIfInBounds_toArray, List.set_cons_zero, List.set_cons_succ]
          clear g1 g2 g3 S0 S1 S2
          go_wp2
          rw [show ((i : Int) + 1) = ((i + 1 : Nat) : Int) by omega]
          exact ⟨⟨i + 1, rfl, H, NI⟩, MS.out⟩
    · have h' : ¬ ((i : Int) < (n : Int)) := by omega
      obtain rfl : i = n := by omega
      go_wp2
      go_ret
      refine ⟨_, rfl, ?_⟩
      have := HI.out
      rw [List.take_of_length_le (by have := HN.out; omega)] at this
      exact this
end Go.Proofs.YtifendlpeebofaaGreatDoor
namespace Go.Proofs.YtifendlpeebofaaGreatDoor
open Go.RowKit
def spn5f_o0 : Oper := ⟨some 14, .next (.tmp 13) false, 0, "tell.go:51", #[], none⟩
def spn5f_o1 : Oper := ⟨some 15, .extract (.tmp 14) 0, 4, "tell.go:51", #[⟨0, .data⟩], none⟩
def spn5f_ops : Array Oper := #[spn5f_o0, spn5f_o1]
theorem spn5f {rb : Nat} (a : Act) (w : World) (Q : Exit → Act → World → Prop) (zz : a.tmps.size = 25)
    (t13 : a.tmps.getD 13 undef = .pointer (some ⟨rb, 0, none⟩))
    (EN : (Instr.next (.pointer (some ⟨rb, 0, none⟩)) false 0).run Tryz.prog w = .ok (.tuple #[.bool false]) w)
    (h : ∀ (a' : Act) (w' : World), w' = w → a' = ((a).put (some 14) (.tuple #[.bool false])).put (some 15) (.bool false) → Q .normal a' w') :
    (Code.region 5 spn5f_ops false).wp Tryz.prog Q a w := by
  refine z0 rfl ?_
  refine zv (v := .tuple #[.bool false]) rfl (exec_nextM rfl (zi t13 rfl) EN) ?_
  refine zv rfl (exec_extract rfl (zg zz rfl) rfl) ?_
  exact ze rfl (h _ _ (rfl) rfl)
theorem spn5t {rb : Nat} {kx vx : Value} {w1 : World} (a : Act) (w : World) (Q : Exit → Act → World → Prop) (zz : a.tmps.size = 25)
    (t13 : a.tmps.getD 13 undef = .pointer (some ⟨rb, 0, none⟩))
    (EN : (Instr.next (.pointer (some ⟨rb, 0, none⟩)) false 0).run Tryz.prog w = .ok (.tuple #[.bool true, kx, vx]) w1)
    (h : ∀ (a' : Act) (w' : World), w' = w1 → a' = ((a).put (some 14) (.tuple #[.bool true, kx, vx])).put (some 15) (.bool true) → Q .normal a' w') :
    (Code.region 5 spn5f_ops false).wp Tryz.prog Q a w := by
  refine z0 rfl ?_
  refine zv (v := .tuple #[.bool true, kx, vx]) rfl (exec_nextM rfl (zi t13 rfl) EN) ?_
  refine zv rfl (exec_extract rfl (zg zz rfl) rfl) ?_
  exact ze rfl (h _ _ (rfl) rfl)
def spn6_o0 : Oper := ⟨some 16, .entry (.tmp 13), 0, "tell.go:51", #[], none⟩
def spn6_o1 : Oper := ⟨some 17, .extract (.tmp 16) 1, 49, "tell.go:51", #[⟨0, .data⟩], none⟩
def spn6_o2 : Oper := ⟨some 7, .assign (.tmp 17), 49, "tell.go:51", #[⟨1, .data⟩, ⟨0, .phase⟩, ⟨1, .phase⟩], none⟩
def spn6_ops : Array Oper := #[spn6_o0, spn6_o1, spn6_o2]
theorem spn6 {rb : Nat} {kx vx : Value} (a : Act) (w : World) (Q : Exit → Act → World → Prop) (zz : a.tmps.size = 25)
    (t13 : a.tmps.getD 13 undef = .pointer (some ⟨rb, 0, none⟩))
    (EE : (Instr.entry (.pointer (some ⟨rb, 0, none⟩))).run Tryz.prog w = .ok (.tuple #[kx, vx]) w)
    (h : ∀ (a' : Act) (w' : World), w' = w → a' = (((a).put (some 16) (.tuple #[kx, vx])).put (some 17) (vx)).put (some 7) (vx) → Q .normal a' w') :
    (Code.region 6 spn6_ops false).wp Tryz.prog Q a w := by
  refine z0 rfl ?_
  refine zv (v := .tuple #[kx, vx]) rfl (exec_entryM rfl (zi t13 rfl) EE) ?_
  refine zv rfl (exec_extract rfl (zg zz rfl) rfl) ?_
  refine zv rfl (xas rfl (zg zz rfl)) ?_
  exact ze rfl (h _ _ (rfl) rfl)
def spn8_o0 : Oper := ⟨some 22, .move (.tmp 5), 49, "tell.go:54", #[], none⟩
def spn8_o1 : Oper := ⟨some 23, .call { callee := Callee.value (Operand.func 57), args := #[.tmp 22], argTypes := #[49] }, 0, "tell.go:54", #[⟨0, .data⟩], none⟩
def spn8_ops : Array Oper := #[spn8_o0, spn8_o1]
theorem spn8 {lv : Value} (Fin : World → Prop) (a : Act) (w : World) (Q : Exit → Act → World → Prop) (zz : a.tmps.size = 25)
    (t5 : a.tmps.getD 5 undef = lv)
    (CC : Calls Tryz.prog 57 #[lv] w fun e w' => e = .returned (.tuple #[]) ∧ Fin w')
    (h : ∀ (a' : Act) (w' : World), Fin w' → a' = ((a).put (some 22) (lv)).put (some 23) (.tuple #[]) → Q .normal a' w') :
    (Code.region 8 spn8_ops false).wp Tryz.prog Q a w := by
  refine z0 rfl ?_
  refine zv rfl (xmv rfl (zi t5 rfl)) ?_
  refine zc rfl (exec_c1 rfl (zg zz rfl)) (CC) (fun e x1 hx => ?_)
  obtain ⟨rfl, HF⟩ := hx
  refine ⟨_, rfl, ?_⟩
  exact ze rfl (h _ _ (HF) rfl)
end Go.Proofs.YtifendlpeebofaaGreatDoor
namespace Go.Proofs.YtifendlpeebofaaGreatDoor.M
open Go.RowKit Go.ChangeMaps
section
variable {P : Program} {κ : Type}
def kv (e : MapEntry) : Value × Value := (e.key, e.val)
def Iter (w : World) (b r : Nat) (enc : κ → Value) (E T : List (κ × Value)) : Prop :=
  ∃ es clock since seen c0, w.heap[b]? = some (.map es clock) ∧ es.toList.map (fun e => (e.key, e.val)) = E.map (fun p => (enc p.1, p.2)) ∧ Stamps (es.toList.map (·.born)) clock ∧
    w.heap[r]? = some (.mapIter (some b) since seen c0) ∧ (∀ x ∈ es.toList, x.born < since) ∧ since ≤ c0 ∧ since ≤ clock ∧ (leftOf es seen).toList.map (fun e => (e.key, e.val)) = T.map (fun p => (enc p.1, p.2))
def Now (w : World) (b r : Nat) (x y : Value) : Prop :=
  ∃ (es : Array MapEntry) (clock since : Nat) (seen : Array Nat) (e : MapEntry), w.heap[r]? = some (.mapIter (some b) since (seen.push e.born) clock) ∧ w.heap[b]? = some (.map es clock) ∧ e ∈ es.toList ∧ (es.toList.map (·.born)).Nodup ∧ e.key = x ∧ e.val = y
theorem Iter.same {w w' : World} {b r : Nat} {enc : κ → Value} {E T : List (κ × Value)} (h : Iter w b r enc E T) (hb : w'.heap[b]? = w.heap[b]?) (hr : w'.heap[r]? = w.heap[r]?) : Iter w' b r enc E T := by
  obtain ⟨es, c, s, n, c0, h1, h2, h3, h4, h5⟩ := h
  exact ⟨es, c, s, n, c0, hb.trans h1, h2, h3, hr.trans h4, h5⟩
theorem Now.run {w : World} {b r : Nat} {x y : Value} (h : Now w b r x y) : (Instr.entry (.pointer (some ⟨r, 0, none⟩))).run P w = .ok (.tuple #[x, y]) w := by
  obtain ⟨es, c, s, n, e, h1, h2, h3, h4, rfl, rfl⟩ := h
  exact run_entry_at w r b s n es c e h1 h2 h3 h4
theorem range_any {t k e : TypeId} {w : World} {b : Nat} {enc : κ → Value} {V : κ → Prop} {E : List (κ × Value)} (ht : P.underlying t = some (.map k e)) (h : MapAt w b enc V E) :
    ∃ w', (Instr.range t (.map (some b))).run P w = .ok (.pointer (some ⟨w.heap.size, 0, none⟩)) w' ∧ Iter w' b w.heap.size enc E E ∧ w'.heap.size = w.heap.size + 1 ∧ Below w.heap.size w w' := by
  have hlt := h.lt
  obtain ⟨⟨es, c, hb, he, hs⟩, hn, hV⟩ := h
  refine ⟨_, run_range_map w t k e b es c ht hb, ⟨es, c, c, #[], c, (heap_alloc_old w _ hlt).trans hb, he, hs, heap_alloc_new _ _, fun x hx => hs.1 _ (List.mem_map.2 ⟨x, hx, rfl⟩), Nat.le_refl _, Nat.le_refl _, ?_⟩, by simp, (Below.refl _ _).alloc (Nat.le_refl _) _⟩
  rw [show leftOf es #[] = es by simp [leftOf]]
  exact he
theorem next_any {ty : TypeId} {w : World} {b r : Nat} {enc : κ → Value} {E T : List (κ × Value)} (h : Iter w b r enc E T) :
    (T = [] ∧ (Instr.next (.pointer (some ⟨r, 0, none⟩)) false ty).run P w = .ok (.tuple #[.bool false]) w) ∨
    ∃ A p B w', T = A ++ p :: B ∧ (Instr.next (.pointer (some ⟨r, 0, none⟩)) false ty).run P w = .ok (.tuple #[.bool true, enc p.1, p.2]) w' ∧ Iter w' b r enc E (A ++ B) ∧ Now w' b r (enc p.1) p.2 ∧ Tch (fun j => j = r) w w' ∧ w'.heap.size = w.heap.size := by
  obtain ⟨es, c, since, seen, c0, hb, he, hs, hr, hold, hsc, hc, hl⟩ := h
  have hrl : r < w.heap.size := (Array.getElem?_eq_some_iff.1 hr).1
  have hne : b ≠ r := by
    rintro rfl
    rw [hb] at hr
    cases hr
  rcases run_next_at (P := P) w ty r b since c0 seen es c hr hb hold hsc with ⟨h0, hrun⟩ | ⟨e, hm, w1, hw1, hrun⟩
  · left
    refine ⟨?_, hrun⟩
    have : (leftOf es seen).toList = [] := by rw [← Array.length_toList] at h0; exact List.eq_nil_of_length_eq_zero h0
    rw [this] at hl
    simpa using hl.symm
  · right
    obtain ⟨X, Y, hXY⟩ := List.append_of_mem hm
    rw [hXY, List.map_append, List.map_cons] at hl
    obtain ⟨A, T2, rfl, hA, hT2⟩ := List.map_eq_append_iff.1 hl.symm
    obtain ⟨p, B, rfl, hp, hB⟩ := List.map_eq_cons_iff.1 hT2
    have hk1 : enc p.1 = e.key := (Prod.mk.inj hp).1
    have hk2 : p.2 = e.val := (Prod.mk.inj hp).2
    have hmem : e ∈ es.toList := by
      have : e ∈ leftOf es seen := by simpa using hm
      unfold leftOf at this
      rw [Array.mem_filter] at this
      simpa using this.1
    have hsub : ((leftOf es seen).toList.map (·.born)).Nodup := by
      refine hs.2.sublist (List.Sublist.map _ ?_)
      unfold leftOf
      rw [Array.toList_filter]
      exact List.filter_sublist
    have hlf : (leftOf es (seen.push e.born)).toList = X ++ Y := by
      have e1 : leftOf es (seen.push e.born) = (leftOf es seen).filter (fun x => !(x.born == e.born)) := by
        unfold leftOf
        rw [Array.filter_filter]
        congr 1
        funext x
        cases h1 : (x.born == e.born) <;> cases h2 : seen.contains x.born <;> simp_all [Array.contains_push]
      rw [e1, Array.toList_filter, hXY, List.filter_append, List.filter_cons]
      rw [hXY, List.map_append, List.map_cons] at hsub
      have hd := List.nodup_append.1 hsub
      have hd2 := List.nodup_cons.1 hd.2.1
      rw [if_neg (by simp)]
      congr 1
      · refine List.filter_eq_self.2 fun x hx => ?_
        have := hd.2.2 x.born (List.mem_map.2 ⟨x, hx, rfl⟩) e.born (List.mem_cons_self ..)
        simpa using this
      · refine List.filter_eq_self.2 fun x hx => ?_
        have : x.born ≠ e.born := fun q => hd2.1 (by rw [← q]; exact List.mem_map.2 ⟨x, hx, rfl⟩)
        simpa using this
    have hw : ∀ j : Nat, w1.heap[j]? = w.heap[j]? := fun j => by rcases hw1 with rfl | rfl <;> rfl
    have hsz : w1.heap.size = w.heap.size := by rcases hw1 with rfl | rfl <;> rfl
    have hrr : (setBlock w1 r (.mapIter (some b) since (seen.push e.born) c)).heap[r]? = some (.mapIter (some b) since (seen.push e.born) c) := by
      simp [setBlock, hsz, hrl]
    have ho : ∀ j, j ≠ r → (setBlock w1 r (.mapIter (some b) since (seen.push e.born) c)).heap[j]? = w.heap[j]? := fun j hj => by
      rw [← hw j]
      simp [setBlock, Array.getElem?_setIfInBounds, Ne.symm hj]
    refine ⟨A, p, B, _, rfl, by rw [hk1, hk2]; exact hrun, ⟨es, c, since, _, c, (ho b hne).trans hb, he, hs, hrr, hold, hc, hc, ?_⟩, ⟨es, c, since, seen, e, hrr, (ho b hne).trans hb, hmem, hs.2, hk1.symm, hk2.symm⟩, ?_, ?_⟩
    · rw [hlf, List.map_append, List.map_append, hA, hB]
    · refine ⟨?_, ?_, ?_, by simp [setBlock, hsz], fun j hj hn => ho j hn⟩
      all_goals (rcases hw1 with rfl | rfl <;> rfl)
    · simp [setBlock, hsz]
end
end Go.Proofs.YtifendlpeebofaaGreatDoor.M
namespace Go.Proofs.YtifendlpeebofaaGreatDoor
open Go.RowKit
theorem iter_left {κ : Type} {w : World} {b r : Nat} {enc : κ → Value} {E T : List (κ × Value)} (h : M.Iter w b r enc E T) : w.rangeLeft b r = T.length := by
  obtain ⟨es, c, since, seen, c0, hb, he, hs, hr, hold, hsc, hc, hl⟩ := h
  simp only [World.rangeLeft, hb, hr]
  have := congrArg List.length hl
  simpa using this
theorem iter_r {κ : Type} {w : World} {b r : Nat} {enc : κ → Value} {E T : List (κ × Value)} (h : M.Iter w b r enc E T) : (∃ a s n c, w.heap[r]? = some (.mapIter a s n c)) ∧ ∃ es c, w.heap[b]? = some (.map es c) := by
  obtain ⟨es, c, since, seen, c0, hb, he, hs, hr, _⟩ := h
  exact ⟨⟨_, _, _, _, hr⟩, _, _, hb⟩
end Go.Proofs.YtifendlpeebofaaGreatDoor
namespace Go.Proofs.YtifendlpeebofaaGreatDoor
open Go.RowKit Go.Shelf Sq
def rnsN (E : List Elt) (L : List MkV) (nm : ByteArray) : List SpV := runsL (cvN E L nm) nm (cutsL (cvN E L nm))
structure SpI (w : World) (E : List Elt) (L : List MkV) (fm r : Nat) (D : List (ByteArray × Value)) (X : List ByteArray) (T : List (ByteArray × Value)) (lv : Value) (W : World) : Prop where
  cm : CmAt W w.heap.size fm D (fun nm => cvN E L nm)
  it : M.Iter W fm r tx D T
  row : RSp.Own W w.heap.size lv (X.flatMap (rnsN E L))
  perm : (X ++ T.map (·.1)).Perm (D.map (·.1))
  sub : ∀ p ∈ T, p ∈ D
  ds : ∀ k v j, M.look D k = some v → v.ownBlock = some j → lv.ownBlock ≠ some j
  rb : w.heap.size ≤ r
  bel : Below w.heap.size w W
section
variable {w W W' : World} {E : List Elt} {L : List MkV} {fm r : Nat} {D T : List (ByteArray × Value)} {X : List ByteArray} {lv : Value}
theorem SpI.nodup (h : SpI w E L fm r D X T lv W) : X.Nodup := by
  have := h.perm.nodup_iff.2 h.cm.m.2.1
  exact (List.nodup_append.1 this).1
theorem SpI.few (h : SpI w E L fm r D X T lv W) : (X.flatMap (rnsN E L)).length ≤ 2 * L.length := flat_few h.nodup
theorem SpI.rcell (h : SpI w E L fm r D X T lv W) {v : Value} {M : List SpV} {b : Nat} (o : RSp.Own W b v M) : v.ownBlock ≠ some r ∧ v.ownBlock ≠ some fm := by
  obtain ⟨⟨_, _, _, _, hr⟩, _, _, hb⟩ := iter_r h.it
  refine ⟨fun e => ?_, fun e => ?_⟩
  · obtain ⟨_, c, hc⟩ := o.cells e
    rw [hc] at hr; cases hr
  · obtain ⟨_, c, hc⟩ := o.cells e
    rw [hc] at hb; cases hb
theorem SpI.next (h : SpI w E L fm r D X T lv W) {A B : List (ByteArray × Value)} {p : ByteArray × Value} (hT : T = A ++ p :: B) (it : M.Iter W' fm r tx D (A ++ B)) (t : Tch (fun j => j = r) W W') :
    CmAt W' w.heap.size fm D (fun nm => cvN E L nm) ∧ RSp.Own W' w.heap.size lv (X.flatMap (rnsN E L)) ∧ Below w.heap.size w W' := by
  have kb : ∀ j, j < W.heap.size → j ≠ r → W'.heap[j]? = W.heap[j]? := fun j hj hn => t.block j hj hn
  obtain ⟨⟨_, _, _, _, hr⟩, _, _, hb⟩ := iter_r h.it
  have nfr : fm ≠ r := fun e => by rw [e, hr] at hb; cases hb
  refine ⟨⟨h.cm.m.below (kb fm h.cm.m.lt nfr), fun k v e => ⟨(h.cm.rows k v e).1.keep (fun j hj => kb j ((h.cm.rows k v e).1.lt hj) (fun q => (h.rcell (h.cm.rows k v e).1).1 (by rw [← q]; exact hj))), (h.cm.rows k v e).2⟩, h.cm.nil, h.cm.ds, h.cm.fb⟩, h.row.keep (fun j hj => kb j (h.row.lt hj) (fun q => (h.rcell h.row).1 (by rw [← q]; exact hj))), h.bel.trans (t.below h.bel.size (fun j e => by rw [e]; exact h.rb))⟩
theorem SpI.more (h : SpI w E L fm r D X T lv W) {A B : List (ByteArray × Value)} {p : ByteArray × Value} (hT : T = A ++ p :: B) {W1 W2 : World} (it1 : M.Iter W1 fm r tx D (A ++ B)) (cm1 : CmAt W1 w.heap.size fm D (fun nm => cvN E L nm)) (row1 : RSp.Own W1 w.heap.size lv (X.flatMap (rnsN E L))) (b1 : Below w.heap.size w W1)
    {u : Value} {b : Nat} (hb : w.heap.size ≤ b) (b2 : Below W1.heap.size W1 W2) (hu : RSp.Own W2 b u (rnsN E L p.1)) (oku : ∀ x ∈ rnsN E L p.1, x.ok) (hL : L.length ≤ 900000000000) :
    ∃ v2 W3, (Builtin.append_ #[49, 49] 49 #[lv, u]).run Tryz.prog W2 = .ok v2 W3 ∧ SpI w E L fm r D (X ++ [p.1]) (A ++ B) v2 W3 := by
  have pm : ((X ++ [p.1]) ++ (A ++ B).map (·.1)).Perm (D.map (·.1)) := by
    refine List.Perm.trans ?_ h.perm
    rw [hT, List.append_assoc, List.map_append, List.map_append, List.map_cons, List.singleton_append]
    exact List.Perm.append_left X List.perm_middle.symm
  have nd : (X ++ [p.1]).Nodup := (List.nodup_append.1 (pm.nodup_iff.2 h.cm.m.2.1)).1
  have fl : ((X ++ [p.1]).flatMap (rnsN E L)).length ≤ 2 * L.length := flat_few nd
  have fe : (X ++ [p.1]).flatMap (rnsN E L) = X.flatMap (rnsN E L) ++ rnsN E L p.1 := by simp
  rw [fe, List.length_append] at fl
  obtain ⟨a, c, rfl, hat, _⟩ := hu.open RSp_is oku
  have bw2 : w.heap.size ≤ W2.heap.size := Nat.le_trans b1.size b2.size
  have row2 := row1.below b2
  have cm2 := cm1.below b2
  have it2 := it1.same (b2.block fm cm1.m.lt) (b2.block r (by
    obtain ⟨⟨_, _, _, _, hr⟩, _⟩ := iter_r it1
    exact (Array.getElem?_eq_some_iff.1 hr).1))
  obtain ⟨v2, W3, e, o3, g, q⟩ := RowT.run_app RSp_is W2 w.heap.size lv _ a (rnsN E L p.1) c row2 hat oku (by unfold maxLen; omega) (by show _ * 72 ≤ _; omega) bw2
  have no : ∀ j, lv.ownBlock = some j → w.heap.size ≤ j ∧ ∃ c, W2.heap[j]? = some (.cells c RSp.e (0, 0)) := fun j hj => row2.cells hj
  have kb : ∀ j, j < W2.heap.size → lv.ownBlock ≠ some j → W3.heap[j]? = W2.heap[j]? := fun j hj hn => g.block j hj (fun e => hn e.symm)
  obtain ⟨⟨_, _, _, _, hr⟩, _, _, hbm⟩ := iter_r it2
  have nr : lv.ownBlock ≠ some r := fun e => by
    obtain ⟨_, c, hc⟩ := no r e
    rw [hc] at hr; cases hr
  have nf : lv.ownBlock ≠ some fm := fun e => by
    obtain ⟨_, c, hc⟩ := no fm e
    rw [hc] at hbm; cases hbm
  refine ⟨v2, W3, e, ⟨cm2.m.below (kb fm cm2.m.lt nf), fun k v e => ⟨(cm2.rows k v e).1.keep (fun j hj => kb j ((cm2.rows k v e).1.lt hj) (h.ds k v j e hj)), (cm2.rows k v e).2⟩, cm2.nil, cm2.ds, cm2.fb⟩, it2.same (kb fm cm2.m.lt nf) (kb r (Array.getElem?_eq_some_iff.1 hr).1 nr), by rw [fe]; exact o3, pm, fun x hx => h.sub x (by
    rw [hT]
    rcases List.mem_append.1 hx with hx | hx
    · simp [hx]
    · simp [hx]), fun k v j e hj hv => ?_, h.rb, (b1.trans (b2.mono b1.size)).trans ((Below.refl _ _).grown g bw2 (fun k e => (no k e).1))⟩
  rcases q with q | q
  · rw [q] at hv; exact h.ds k v j e hj hv
  · rw [q] at hv
    cases hv
    exact Nat.lt_irrefl _ ((cm2.rows k v e).1.lt hj)
end
theorem cvN_ok {w : World} {s : Sx} {E : List Elt} (h : SeqAt w s E) {L : List MkV} (ok : ∀ x ∈ L, x.ok) (rt : ∀ x ∈ L, x.v.right = true) (hn : L.length ≤ 900000000000) {nm : ByteArray} (hne : cvN E L nm ≠ []) : CvOk (cvN E L nm) nm where
  ok := fun c hc => by
    obtain ⟨x, hx, rfl⟩ := cvN_mem hc
    exact cvE_ok h (ok x hx)
  rt := fun c hc => by
    obtain ⟨x, hx, rfl⟩ := cvN_mem hc
    exact rt x hx
  nm := cvN_nm
  lt := cvN_lt
  ne := hne
  len := Nat.le_trans (cvN_len E L nm) hn
theorem CvOk.all {C : List SpV} {nm : ByteArray} (h : CvOk C nm) : ∀ q ∈ runsL C nm (cutsL C), PkOk q := by
  obtain ⟨c, hc⟩ := List.exists_mem_of_ne_nil C h.ne
  have := cuts_two hc (h.lt c hc)
  exact h.runs _ (by omega)
attribute [local go_sem] Oper.semAt_some
def SpR (w : World) (E : List Elt) (L : List MkV) (v : Value) (w' : World) : Prop := ∃ S, RSp.Lo w' w.heap.size v S ∧ SpansIs (hE E L) S ∧ (∀ p ∈ S, PkOk p) ∧ S.length ≤ 2 * L.length ∧ Below w.heap.size w w'
theorem SpI.done {w W : World} {E : List Elt} {L : List MkV} {fm r : Nat} {D : List (ByteArray × Value)} {X : List ByteArray} {lv : Value} (h : SpI w E L fm r D X [] lv W) (ck : ∀ nm, cvN E L nm ≠ [] → CvOk (cvN E L nm) nm) {S : List SpV} (hp : S.Perm (X.flatMap (rnsN E L))) (hs : SdS S) : SpansIs (hE E L) S ∧ (∀ p ∈ S, PkOk p) ∧ S.length ≤ 2 * L.length := by
  have pm : X.Perm (D.map (·.1)) := by simpa using h.perm
  have hn : ∀ nm, nm ∈ X ↔ cvN E L nm ≠ [] := fun nm => by
    rw [pm.mem_iff]
    constructor
    · intro hm
      obtain ⟨⟨k, v⟩, hkv, rfl⟩ := List.mem_map.1 hm
      exact (h.cm.rows k v (M.look_of_mem h.cm.m.2.1 hkv)).2
    · intro hne
      cases e : M.look D nm with
      | none => exact absurd (h.cm.nil nm e) hne
      | some v => exact List.mem_map.2 ⟨_, M.look_mem e, rfl⟩
  refine ⟨spans_all h.nodup hn hp hs, fun p hpm => ?_, ?_⟩
  · obtain ⟨nm, h1, h2⟩ := List.mem_flatMap.1 (hp.mem_iff.1 hpm)
    exact (ck nm ((hn nm).1 h1)).all p h2
  · rw [hp.length_eq]
    exact h.few
theorem SpI.rok {w W : World} {E : List Elt} {L : List MkV} {fm r : Nat} {D T : List (ByteArray × Value)} {X : List ByteArray} {lv : Value} (h : SpI w E L fm r D X T lv W) (ck : ∀ nm, cvN E L nm ≠ [] → CvOk (cvN E L nm) nm) : ∀ x ∈ X.flatMap (rnsN E L), x.ok := fun p hp => by
  obtain ⟨nm, h1, h2⟩ := List.mem_flatMap.1 hp
  have : nm ∈ D.map (·.1) := h.perm.mem_iff.1 (List.mem_append_left _ h1)
  obtain ⟨⟨k, v⟩, hkv, rfl⟩ := List.mem_map.1 this
  exact ((ck k (h.cm.rows k v (M.look_of_mem h.cm.m.2.1 hkv)).2).all p h2).1
set_option maxHeartbeats 8000000 in
theorem Spans_any {w : World} {s : Sx} {E : List Elt} {base : Nat} {m : Mx} (h : SeqAt w s E) (hm : MkAt w base m) (rt : ∀ x ∈ m.L, x.v.right = true) (hT : K.V.Tabs w) :
    Calls Tryz.prog 25 #[.pointer (some ⟨m.mb, 0, none⟩), .pointer (some ⟨s.sb, 0, none⟩)] w fun e w' => ∃ v, e = .returned v ∧ SpR w E m.L v w' := by
  have CK := hidMk (fun nm (q : cvN E m.L nm ≠ []) => cvN_ok h (L := m.L) (fun x hx => (hm.ok x hx).1) rt hm.n (nm := nm) q)
  have HN := hidMk hm.n
  have HT := hidMk (fun (W : World) (b : Below w.heap.size w W) => hT.below b)
  have CC := hidMk ((covers_any h hm).mono (R' := fun e w1 => ∃ fm, e = .returned (.map (some fm)) ∧ ∃ rb w2, (Instr.range 117 (.map (some fm))).run Tryz.prog w1 = .ok (.pointer (some ⟨rb, 0, none⟩)) w2 ∧ ∃ D, SpI w E m.L fm rb D [] D (.slice none 0 0) w2) (fun e w1 q => by
    obtain ⟨fm, rfl, D, c, b⟩ := q
    obtain ⟨w2, er, it, z, b2⟩ := M.range_any (P := Tryz.prog) Tryz.underlying117 c.m
    exact ⟨fm, rfl, _, w2, er, D, c.below b2, it, RowT.own_nil _ _ _, by simp, fun _ q => q, fun _ _ _ _ _ q => (by cases q), b.size, b.trans (b2.mono b.size)⟩))
  clear h hm rt hT
  go_enter Tryz.func25, Tryz.ntmps25
  go_upto_region 4 with fail
  refine spn4 (mb := m.mb) (sb := s.sb) (fun fm rb w2 => ∃ D, SpI w E m.L fm rb D [] D (.slice none 0 0) w2) _ w _ rfl rfl rfl CC.out ?_
  rintro fm rb a' w2 ⟨D, hI⟩ ha
  subst ha
  simp only [Act.put, List.setIfInBounds_toArray, List.set_cons_zero, List.set_cons_succ]
  clear CC
  have I0 := hidMk hI
  clear hI
  go_wp2
  go_loopw [5] (fun v5 wr => ∃ (X : List ByteArray) (T : List (ByteArray × Value)), Hid (SpI w E m.L fm rb D X T v5 wr)) (fun _ wr => wr.rangeLeft fm rb)
  case atStart => exact ⟨[], D, I0⟩
  case round =>
    clear I0
    obtain ⟨X, T, HI⟩ := hrel
    rcases M.next_any (P := Tryz.prog) (ty := 0) HI.out.it with ⟨rfl, hnx⟩ | ⟨A, p, B, w5, hTe, hnx, it5, now5, t5, z5⟩
    · go_upto_region 5 with fail
      refine spn5f (rb := rb) _ wr _ rfl rfl hnx ?_
      intro a' w3 hw ha
      obtain rfl : wr = w3 := hw.symm
      subst ha
      simp only [Act.put, List.setIfInBounds_toArray, List.set_cons_zero, List.set_cons_succ]
      clear hnx
      have CS := hidMk (sortSp_any wr w.heap.size u5 _ HI.out.row.lo (HI.out.rok CK.out) (Nat.le_trans HI.out.few (by have := HN.out; omega)))
      go_upto_region 8 with fail
      refine spn8 (lv := u5) (fun W => SpR w E m.L u5 W) _ wr _ rfl rfl (CS.out.mono ?_) ?_
      · rintro e W ⟨rfl, S, hp, hs, lo, t⟩
        obtain ⟨q1, q2, q3⟩ := HI.out.done CK.out hp hs
        exact ⟨rfl, S, lo, q1, q2, q3, HI.out.bel.trans (t.below HI.out.bel.size (fun j hj => (HI.out.row.cells hj).1))⟩
      rintro a' w4 hf ha
      have HF := hidMk hf
      subst ha
      simp only [Act.put, List.setIfInBounds_toArray, List.set_cons_zero, List.set_cons_succ]
      clear CS hf
      go_wp2
      go_ret
      exact ⟨_, rfl, HF.out⟩
    · obtain ⟨cm5, row5, b5⟩ := HI.out.next hTe it5 t5
      have hml := iter_left HI.out.it
      have hpD : p ∈ D := HI.out.sub p (by rw [hTe]; simp)
      have hlk := M.look_of_mem cm5.m.2.1 (k := p.1) (v := p.2) hpD
      obtain ⟨rw5, ne5⟩ := cm5.rows p.1 p.2 hlk
      have ck := CK.out p.1 ne5
      obtain ⟨pa, pc, ep, hat, _⟩ := rw5.open RSp_is ck.ok
      have RA := runs_any (lc := pc) hat ck (HT.out w5 b5)
      have CR : Calls Tryz.prog 64 #[p.2] w5 fun e w1 => ∃ u, e = .returned u ∧ ∃ v2 w2, (Builtin.append_ #[49, 49] 49 #[u5, u]).run Tryz.prog w1 = .ok v2 w2 ∧ SpI w E m.L fm rb D (X ++ [p.1]) (A ++ B) v2 w2 := by
        rw [ep]
        refine RA.mono ?_
        rintro e W ⟨u, rfl, o, b⟩
        obtain ⟨v2, W3, ea, nx⟩ := HI.out.more hTe it5 cm5 row5 b5 b5.size b o (fun q hq => (ck.all q hq).1) HN.out
        exact ⟨u, rfl, v2, W3, ea, nx⟩
      have HC := hidMk CR
      have EE := now5.run (P := Tryz.prog)
      have HML := hidMk (show wr.rangeLeft fm rb = A.length + B.length + 1 by rw [hml, hTe]; simp; omega)
      clear cm5 row5 b5 hml hpD hlk rw5 ne5 ck ep hat RA CR it5 now5 t5 z5 hTe HI
      go_upto_region 5 with fail
      refine spn5t (rb := rb) (kx := tx p.1) (vx := p.2) (w1 := w5) _ wr _ rfl rfl hnx ?_
      intro a' w3 hw ha
      obtain rfl : w5 = w3 := hw.symm
      subst ha
      simp only [Act.put, List.setIfInBounds_toArray, List.set_cons_zero, List.set_cons_succ]
      clear hnx
      go_upto_region 6 with fail
      refine spn6 (rb := rb) (kx := tx p.1) (vx := p.2) _ w5 _ rfl rfl EE ?_
      intro a' w3 hw ha
      obtain rfl : w5 = w3 := hw.symm
      subst ha
      simp only [Act.put, List.setIfInBounds_toArray, List.set_cons_zero, List.set_cons_succ]
      clear EE
      go_upto_region 7 with fail
      refine spn7 (lv := u5) (cv := p.2) (fun u v2 W => SpI w E m.L fm rb D (X ++ [p.1]) (A ++ B) v2 W) _ w5 _ rfl rfl rfl HC.out ?_
      rintro u v2 a' w6 hf ha
      have NI := hidMk hf
      have ML : w6.rangeLeft fm rb < wr.rangeLeft fm rb := by
        rw [iter_left hf.it, HML.out]
        simp
      have HM := hidMk ML
      subst ha
      simp only [Act.put, List.setIfInBounds_toArray, List.set_cons_zero, List.set_cons_succ]
      clear HC hf ML
      go_wp2
      exact ⟨⟨_, _, NI⟩, HM.out⟩
end Go.Proofs.YtifendlpeebofaaGreatDoor
namespace Go.Proofs.YtifendlpeebofaaGreatDoor
open Go.ChangeShapes Go.WideShapes Go.ChangeAt Go.RowKit
section
variable {H : Type} {enc : TypeId × Value → H} {W : World}
theorem i64_wf {z : Int} (h : (Lit.int .i64 z).wf = true) : -9223372036854775808 ≤ z ∧ z ≤ 9223372036854775807 := by
  simp [Lit.wf, IntKind.min, IntKind.max, IntKind.signed, IntKind.bits] at h
  omega
theorem u8_wf {z : Int} (h : (Lit.int .u8 z).wf = true) : 0 ≤ z ∧ z ≤ 255 := by
  simp [Lit.wf, IntKind.min, IntKind.max, IntKind.signed, IntKind.bits] at h
  omega
def intV : Value → Int
  | .int _ z => z
  | _ => 0
theorem cells_int : Tryz.prog.cellsOf 3 = 1 := by kernel_rfl
theorem cells_str : Tryz.prog.cellsOf 9 = 1 := by kernel_rfl
theorem cells_hash : Tryz.prog.cellsOf 34 = 32 := by kernel_rfl
theorem cells_id : Tryz.prog.cellsOf 36 = 33 := by kernel_rfl
theorem hash_cells {fuel : Nat} {cs : List Value} {y : DataW H × List MemPlace} (h : DataW.trod enc Tryz.prog W 0 (fun _ => true) true fuel 34 cs = some y) : ∃ l : List UInt8, l.length = 32 ∧ cs = hcs l := by
  obtain ⟨xs, m, _, _, hlen, hxs, hall⟩ := DataW.trod_array Tryz.underlying34 h
  rw [cells_hash] at hlen
  have hce : Tryz.prog.cellsOf 5 = 1 := by kernel_rfl
  have key : ∀ i (hi : i < cs.length), ∃ z : Int, cs[i] = .int .u8 z ∧ 0 ≤ z ∧ z ≤ 255 := by
    intro i hi
    have h1 := hall i (by omega)
    rw [hce, Nat.mul_one, List.getElem?_eq_getElem (by omega)] at h1
    obtain ⟨z, e0, _, w0⟩ := DataW.trod_int Tryz.underlying5 h1
    have hb := u8_wf w0
    refine ⟨z, ?_, hb.1, hb.2⟩
    rw [List.drop_eq_getElem_cons hi, List.take_succ_cons, List.take_zero] at e0
    exact (List.cons.inj e0).1
  refine ⟨cs.map (fun v => UInt8.ofNat (intV v).toNat), by simpa using hlen, ?_⟩
  apply List.ext_getElem
  · simp [hcs, bs]
  · intro i h1 h2
    obtain ⟨z, hz, z0, z1⟩ := key i h1
    simp only [hcs, bs, List.map_map, List.getElem_map, Function.comp_apply]
    rw [hz]
    simp only [intV, Value.int.injEq, true_and]
    rw [UInt8.toNat_ofNat']
    omega
theorem list_split {α : Type} {l : List α} {n m : Nat} (h : l.length = n + m) : ∃ a b, l = a ++ b ∧ a.length = n ∧ b.length = m := ⟨l.take n, l.drop n, (List.take_append_drop n l).symm, by simp; omega, by simp; omega⟩
theorem id_cells {fuel : Nat} {cs : List Value} {y : DataW H × List MemPlace} (h : DataW.trod enc Tryz.prog W 0 (fun _ => true) true fuel 36 cs = some y) : ∃ x : IdK, x.ok ∧ cs = x.c := by
  obtain ⟨y0, y1, n, _, hcl, h0, h1⟩ := trod_struct2 Tryz.underlying36 h
  rw [cells_id] at hcl
  obtain ⟨A, B, rfl, hA, hB⟩ := list_split (n := 32) (m := 1) hcl
  simp only [cells_hash, cells_int, List.drop_zero] at h0 h1
  rw [← hA, List.take_left] at h0
  rw [← hA, List.drop_left, List.take_of_length_le (by omega)] at h1
  obtain ⟨k, hk, rfl⟩ := hash_cells h0
  obtain ⟨z, e0, _, w0⟩ := DataW.trod_int Tryz.underlying3 h1
  subst e0
  have b := i64_wf w0
  exact ⟨⟨k, z⟩, ⟨hk, b.1, b.2⟩, rfl⟩
end
theorem trod_float {H : Type} {enc : TypeId × Value → H} {P : Program} {w : World} {base : Nat} {spare : Nat → Bool} {held : Bool} {fuel : Nat} {t : TypeId} {cs : List Value} {x : DataW H × List MemPlace} {k : FloatKind} (ht : P.underlying t = some (.float k)) (h : DataW.trod enc P w base spare held fuel t cs = some x) :
    ∃ b, cs = [.float k b] ∧ (Lit.float k b).wf = true := by
  cases fuel with
  | zero => simp [DataW.trod] at h
  | succ n =>
    unfold DataW.trod at h
    rw [ht] at h
    split at h <;> simp_all
theorem cells_u8k : Tryz.prog.cellsOf 37 = 1 := by kernel_rfl
theorem cells_i64 : Tryz.prog.cellsOf 2 = 1 := by kernel_rfl
theorem cells_flt : Tryz.prog.cellsOf 38 = 1 := by kernel_rfl
theorem cells_va : Tryz.prog.cellsOf 40 = 4 := by kernel_rfl
section
variable {H : Type} {enc : TypeId × Value → H} {W : World}
theorem va_cells (fuel : Nat) (cs : List Value) (y : DataW H × List MemPlace) (h : DataW.trod enc Tryz.prog W 0 (fun _ => true) true fuel 40 cs = some y) : ∃ x : VaV, x.ok ∧ cs = x.c := by
  obtain ⟨xs, n, _, hx, hcl, hlen, hfs⟩ := DataW.trod_struct Tryz.underlying40 h
  rw [cells_va] at hcl
  have hlen : xs.length = 4 := hlen
  obtain ⟨a, b, c, d, rfl⟩ : ∃ a b c d, cs = [a, b, c, d] := by
    match cs, hcl with
    | [a, b, c, d], _ => exact ⟨a, b, c, d, rfl⟩
  match xs, hlen with
  | [y0, y1, y2, y3], _ =>
    have t0 : DataW.trod enc Tryz.prog W 0 (fun _ => true) true n 37 (([a, b, c, d].drop 0).take (Tryz.prog.cellsOf 37)) = some y0 := hfs 0 _ rfl
    have t1 : DataW.trod enc Tryz.prog W 0 (fun _ => true) true n 2 (([a, b, c, d].drop 1).take (Tryz.prog.cellsOf 2)) = some y1 := hfs 1 _ rfl
    have t2 : DataW.trod enc Tryz.prog W 0 (fun _ => true) true n 38 (([a, b, c, d].drop 2).take (Tryz.prog.cellsOf 38)) = some y2 := hfs 2 _ rfl
    have t3 : DataW.trod enc Tryz.prog W 0 (fun _ => true) true n 9 (([a, b, c, d].drop 3).take (Tryz.prog.cellsOf 9)) = some y3 := hfs 3 _ rfl
    rw [cells_u8k] at t0
    rw [cells_i64] at t1
    rw [cells_flt] at t2
    rw [cells_str] at t3
    obtain ⟨z0, q0, _, w0⟩ := DataW.trod_int Tryz.underlying37 t0
    obtain ⟨z1, q1, _, w1⟩ := DataW.trod_int Tryz.underlying2 t1
    obtain ⟨z2, q2, w2⟩ := trod_float Tryz.underlying38 t2
    obtain ⟨z3, q3, _, w3⟩ := DataW.trod_string Tryz.underlying9 t3
    simp at q0 q1 q2 q3
    subst q0 q1 q2 q3
    have u0 := u8_wf w0
    have u1 := i64_wf w1
    exact ⟨⟨z0, z1, z2, z3⟩, ⟨u0.1, u0.2, u1.1, u1.2, by simpa [Lit.wf] using w2, w3⟩, rfl⟩
end
structure OpM where
  kind : Int
  id : IdK
  fr : IdK
  ti : IdK
  nm : ByteArray
  v : VaV
  sd : Int
structure OpM.ok (o : OpM) : Prop where
  id : o.id.ok
  fr : o.fr.ok
  ti : o.ti.ok
  kind : -9223372036854775808 ≤ o.kind ∧ o.kind ≤ 9223372036854775807
  nm : o.nm.size ≤ maxLen
  v : o.v.ok
  sd : -9223372036854775808 ≤ o.sd ∧ o.sd ≤ 9223372036854775807
section
variable {H : Type} {enc : TypeId × Value → H} {W : World}
end
end Go.Proofs.YtifendlpeebofaaGreatDoor
namespace Go.Proofs.YtifendlpeebofaaGreatDoor
open Go.RowKit
def idN (n : Int) : IdK := ⟨zId.h, n⟩
theorem build_idN (n : Int) (w : World) : (Instr.build 36 #[(1, .int .i64 n)]).run Tryz.prog w = .ok (idN n).v w := by kernel_rfl
section
variable {w : World} {a : Act} {o : Oper} {x y : Operand}
theorem exec_build1 {P : Program} {t : TypeId} {v0 v : Value} (ho : o.op = .build t #[(1, x)]) (h0 : a.eval x = v0) (hl : (Instr.build t #[(1, v0)]).run P w = .ok v w) : (execOp a.eval o).run P w = .ok (.value v) w := by
  unfold execOp; simp only [ho, List.map_toArray, List.map_cons, List.map_nil, h0, Sem.run_bind, hl, Result.andThen_ok, Sem.run_pure]
theorem exec_c7 {P : Program} {F : Nat} {ts : Array TypeId} {x1 x2 x3 x4 x5 x6 x7 : Operand} {v1 v2 v3 v4 v5 v6 v7 : Value} (ho : o.op = .call { callee := .value (.func F), args := #[x1, x2, x3, x4, x5, x6, x7], argTypes := ts }) (h1 : a.eval x1 = v1) (h2 : a.eval x2 = v2) (h3 : a.eval x3 = v3) (h4 : a.eval x4 = v4) (h5 : a.eval x5 = v5) (h6 : a.eval x6 = v6) (h7 : a.eval x7 = v7) (hf : (callFunc F #[v1, v2, v3, v4, v5, v6, v7]).run P w = .ok (.enter F #[v1, v2, v3, v4, v5, v6, v7]) w := by go_simp) : (execOp a.eval o).run P w = .ok (.enter F #[v1, v2, v3, v4, v5, v6, v7]) w := by
  have e0 : a.eval (.func F) = .func (.func F) #[] #[] := rfl
  unfold execOp; simp [ho, resolve, invoke, h1, h2, h3, h4, h5, h6, h7, e0, Deferred.ofValue, Result.andThen, hf]
end
end Go.Proofs.YtifendlpeebofaaGreatDoor
namespace Go.Proofs.YtifendlpeebofaaGreatDoor
open Go.RowKit Sq
theorem idN_inj {a b : Int} : idN a = idN b ↔ a = b := by simp [idN]
theorem idN_zero : idN 0 = zId := rfl
theorem idN_ok {n : Int} (h : -9223372036854775808 ≤ n ∧ n ≤ 9223372036854775807) : (idN n).ok := ⟨zId_ok.l, h.1, h.2⟩
def seg (a n : Nat) : List Elt := (List.range n).map fun (i : Nat) => (⟨idN ((a + i + 1 : Nat) : Int), idN ((a + i : Nat) : Int), true⟩ : Elt)
theorem seg_len (a n : Nat) : (seg a n).length = n := by simp [seg]
theorem seg_succ (a n : Nat) : seg a (n + 1) = seg a n ++ [⟨idN ((a + n + 1 : Nat) : Int), idN ((a + n : Nat) : Int), true⟩] := by
  unfold seg
  rw [List.range_succ, List.map_append]
  rfl
theorem seg_app (a m : Nat) : ∀ n, seg a (m + n) = seg a m ++ seg (a + m) n
  | 0 => by simp [seg]
  | n + 1 => by rw [← Nat.add_assoc, seg_succ, seg_app a m n, seg_succ, List.append_assoc, Nat.add_assoc a m n]
theorem seg_one (a : Nat) : seg a 1 = [⟨idN ((a + 1 : Nat) : Int), idN ((a : Nat) : Int), true⟩] := by simp [seg]
theorem seg_mem {a n : Nat} {y : Elt} (h : y ∈ seg a n) : ∃ i, i < n ∧ y.id = idN ((a + i + 1 : Nat) : Int) := by
  obtain ⟨i, hi, rfl⟩ := List.mem_map.1 h
  exact ⟨i, List.mem_range.1 hi, rfl⟩
theorem seg_not {a n : Nat} {p : Int} (h : p ≤ a ∨ (a : Int) + n < p) : ∀ y ∈ seg a n, y.id ≠ idN p := fun y hy e => by
  obtain ⟨i, hi, q⟩ := seg_mem hy
  rw [q, idN_inj] at e
  omega
theorem seg_cut {a n p : Nat} (h0 : a < p) (h1 : p ≤ a + n) : seg a n = seg a (p - a - 1) ++ (⟨idN (p : Int), idN ((p - 1 : Nat) : Int), true⟩ : Elt) :: seg p (a + n - p) := by
  have e : n = (p - a - 1) + (1 + (a + n - p)) := by omega
  rw [show seg a n = seg a ((p - a - 1) + (1 + (a + n - p))) by rw [← e], seg_app, seg_app, seg_one]
  rw [show a + (p - a - 1) = p - 1 by omega, show p - 1 + 1 = p by omega]
  rfl
theorem ahead_mid {A B : List Elt} {e : Elt} (h : ∀ y ∈ A, y.id ≠ e.id) : aheadE (A ++ e :: B) false e.id = (A.length : Int) := by
  unfold aheadE
  rw [if_pos (hasE_iff.2 ⟨e, by simp, rfl⟩), takeWhile_mid (fun y hy => by simp [h y hy]) (by simp)]
  congr 1
  rw [List.countP_eq_length]
  intro y _
  rfl
theorem ahead_seg {k p : Nat} (h0 : 0 < p) (h1 : p ≤ k) : aheadE (seg 0 k) false (idN (p : Int)) = (p : Int) - 1 := by
  rw [seg_cut h0 (by omega)]
  have := ahead_mid (A := seg 0 (p - 0 - 1)) (B := seg p (0 + k - p)) (e := ⟨idN (p : Int), idN ((p - 1 : Nat) : Int), true⟩) (seg_not (.inr (by omega)))
  rw [this, seg_len]
  omega
theorem has_seg {k p : Nat} (h0 : 0 < p) (h1 : p ≤ k) : hasE (seg 0 k) (idN (p : Int)) = true := by
  rw [seg_cut h0 (by omega)]
  exact hasE_iff.2 ⟨_, List.mem_append.2 (.inr (List.mem_cons_self ..)), rfl⟩
theorem hasnt {E : List Elt} {k : IdK} (h : ∀ y ∈ E, y.id ≠ k) : hasE E k = false := by
  cases e : hasE E k with
  | false => rfl
  | true => obtain ⟨y, hy, q⟩ := hasE_iff.1 e; exact absurd q (h y hy)
theorem ins_seg (k : Nat) : insC (seg 0 k) (idN ((k : Int) + 1)) (idN (k : Int)) = 0 ∧ insR (seg 0 k) (idN ((k : Int) + 1)) (idN (k : Int)) = seg 0 (k + 1) := by
  have c : insC (seg 0 k) (idN ((k : Int) + 1)) (idN (k : Int)) = 0 := by
    unfold insC
    rw [if_neg (show ¬ (idN ((k : Int) + 1)).n < 1 by show ¬ (k : Int) + 1 < 1; omega), if_neg (by rw [hasnt (seg_not (.inr (by omega)))]; decide), if_neg]
    rintro ⟨h1, h2⟩
    rcases Nat.eq_zero_or_pos k with rfl | hk
    · exact h1 idN_zero
    · rw [has_seg hk (Nat.le_refl _)] at h2; cases h2
  refine ⟨c, ?_⟩
  unfold insR
  rw [if_pos c, seg_succ, Nat.zero_add]
  unfold putE
  rcases Nat.eq_zero_or_pos k with rfl | hk
  · rw [if_pos (by exact idN_zero)]; rfl
  · rw [if_neg (fun e => by rw [← idN_zero, idN_inj] at e; omega)]
    rw [show k = (k - 1) + 1 by omega, seg_succ, Nat.zero_add]
    have := insE_mid (A := seg 0 (k - 1)) (B := []) (e := ⟨idN ((k - 1 + 1 : Nat) : Int), idN ((k - 1 : Nat) : Int), true⟩) (x := ⟨idN ((k - 1 + 1 : Nat) + 1), idN ((k - 1 + 1 : Nat) : Int), true⟩) (seg_not (.inr (by omega)))
    rw [this]
    simp
theorem gr_new {w w1 w2 : World} {s : Sx} {m : Mx} (hs : SeqAt w1 s []) (c1 : ∀ j ∈ s.bl, w.heap.size ≤ j) (b1 : Below w.heap.size w w1) (hm : MkAt w2 w1.heap.size m) (hL : m.L = []) (c2 : ∀ j, m.bl j → w1.heap.size ≤ j) (b2 : Below w1.heap.size w1 w2) : Gr w s.sb m.mb (seg 0 0) [] w2 :=
  ⟨⟨s, m, rfl, rfl, hs.below b2, ⟨hm.cell, hm.lo.mono b1.size, hm.ok, hm.map, hm.n⟩, hL, c1, fun j hj => Nat.le_trans b1.size (c2 j hj), fun j hj hq => by
    have := hs.lt j hj
    have := c2 j hq
    omega⟩, b1.trans (b2.mono b1.size)⟩
end Go.Proofs.YtifendlpeebofaaGreatDoor
namespace Go.Proofs.YtifendlpeebofaaGreatDoor
open Go.RowKit Go.Shelf Sq
attribute [local go_sem] Oper.semAt_some
def RR : RowT MkV := ⟨MkV.c, MkV.ok, 105, 184, 99, 88, zMk⟩
structure Rx where
  rb : Nat
  lv : Value
  L : List MkV
structure RkAt (w : World) (base : Nat) (r : Rx) : Prop where
  cell : w.heap[r.rb]? = some (.cells #[r.lv] 90 (0, 0))
  row : RR.Own w base r.lv r.L
  ok : ∀ x ∈ r.L, x.ok
  b : base ≤ r.rb
  n : r.L.length ≤ 900000000000
def Rx.bl (r : Rx) (j : Nat) : Prop := j = r.rb ∨ r.lv.ownBlock = some j
section
variable {w w' W : World} {base : Nat} {r : Rx}
end
section
variable {w W : World} {base : Nat} {m : Rx}
end
section
variable {W : World} {b o : Nat} {x : OpM}
end
def NT (W W' : World) : Prop := ∀ (j : Nat) (c : Array Value) (t : TypeId) (z : Nat × Nat), W.heap[j]? = some (.cells c t z) → t ≠ 87 → t ≠ 95 → t ≠ 90 → t ≠ 99 → W'.heap[j]? = W.heap[j]?
structure Gq (w : World) (sb mb rb : Nat) (E : List Elt) (L Lr : List MkV) (W : World) : Prop where
  q : ∃ (s : Sx) (m : Mx) (r : Rx), s.sb = sb ∧ m.mb = mb ∧ r.rb = rb ∧ SeqAt W s E ∧ MkAt W w.heap.size m ∧ RkAt W w.heap.size r ∧ m.L = L ∧ r.L = Lr ∧ (∀ j ∈ s.bl, w.heap.size ≤ j) ∧ (∀ j, m.bl j → w.heap.size ≤ j) ∧ (∀ j ∈ s.bl, ¬ m.bl j) ∧ (∀ j ∈ s.bl, ¬ r.bl j) ∧ (∀ j, m.bl j → ¬ r.bl j)
  bel : Below w.heap.size w W
section
variable {w W W' : World} {sb mb rb : Nat} {E : List Elt} {L Lr : List MkV}
end
attribute [local go_sem] Oper.semAt_some
end Go.Proofs.YtifendlpeebofaaGreatDoor
