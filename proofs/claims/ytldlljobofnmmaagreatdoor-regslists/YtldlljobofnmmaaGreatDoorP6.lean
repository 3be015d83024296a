import Derived.Test.YtldlljobofnmmaaGreatDoorP5
import Derived.Test.YtldlljobofnmmaaGreatDoorP4
import Derived.Test.YtldlljobofnmmaaGreatDoorRows
import Derived.WalkKit
import Derived.WalkSpells
import Derived.WalkLawsBesides
import Derived.Maps.AppendAt
import Derived.Laws.OwnMore
import Derived.Below
import Derived.OwnWalk
import Derived.Deep.MidRow
import Derived.Laws.Concat
import Derived.Laws.IdiomStrings
import Derived.Test.YtldlljobofnmmaaGreatDoorP0
import Derived.Test.YtldlljobofnmmaaGreatDoorP3
set_option maxRecDepth 100000
set_option maxHeartbeats 4000000
namespace Go.Proofs.YtldlljobofnmmaaGreatDoor
open Go.RowKit
set_option linter.unusedVariables false
set_option linter.unusedSimpArgs false
variable {K : Nat → Option Obj}
structure OpS (w0 : World) (o : OpR) (I : List IdK) : Prop where
  ok : o.ok w0
  sn : SeenL w0 o.seen I
  n : I.length ≤ 3518437208883
set_option maxHeartbeats 16000000 in
theorem dstep_any {w0 w : World} {B1 B2 x ro d m : Nat} {p : Pz} (h : PY K w0 B1 B2 x ro d m p w) (hm : m + 1 ≤ 1100000000000) {pa : Option Addr} {pc : Nat} {Ps : List PlK} (hP : RowAt 67 PlK.c w0 pa Ps) (okP : ∀ x ∈ Ps, x.ok) (hPn : Ps.length ≤ 2000000000000) {o : OpR} {I : List IdK} (ho : OpS w0 o I) :
    Calls Tryz.prog 7 #[.pointer (some ⟨x, 0, none⟩), o.a, .slice pa Ps.length pc] w fun e w' => e = .returned (.bool true) ∧ ∃ p', PY K w0 B1 B2 x ro d (m + 1) p' w' := by
  have HH := hidMk h
  have HO := hidMk ho
  obtain ⟨pn, hpn⟩ : ∃ n, Ps.length = n := ⟨_, rfl⟩
  obtain ⟨wb, EB, nb, bb⟩ := box_op w o
  obtain ⟨ob, hob⟩ : ∃ b, w.heap.size = b := ⟨_, rfl⟩
  obtain ⟨q, hq0⟩ : ∃ q, atP Ps o.pl = q := ⟨_, rfl⟩
  have hq : q.ok := by rw [← hq0]; exact atP_ok okP _
  have HLQ : Hid ((liOf p.s.P q).length ≤ m) := by
    have := (h.mx p.X (.inl rfl)).2 q
    rw [h.ln.eq] at this
    exact this
  rw [hob] at EB nb
  have HBB := hidMk bb
  have CA : Hid (Calls Tryz.prog 8 #[.slice pa pn pc, .int .i64 o.pl] wb fun e w' => e = .returned q.v ∧ ∃ pb w1 w2, (Instr.alloc 68 true (.tuple #[])).run Tryz.prog w' = .ok (.pointer (some ⟨pb, 0, none⟩)) w1 ∧ (Instr.storeAt 68 (.pointer (some ⟨pb, 0, none⟩)) q.v).run Tryz.prog w1 = .ok () w2 ∧ (Below w.heap.size w w2 ∧ Loc o q ob pb w2)) := by
    have b0 := h.bel.trans (bb.mono h.bel.size)
    rw [← hpn]
    refine (at_any (hP.below b0) okP hPn ho.ok.pl).mono ?_
    rintro e w' ⟨rfl, b⟩
    rw [hq0]
    obtain ⟨w1, w2, e1, e2, n2, b2⟩ := pl_new w' hq
    have b12 := b.trans (b2.mono b.size)
    exact ⟨rfl, w'.heap.size, w1, w2, e1, e2, bb.trans (b12.mono bb.size), ⟨(b12.block _ (Array.getElem?_eq_some_iff.1 nb).1).trans nb, n2⟩⟩
  have LPL : Hid ((Instr.loadAt 3 (.pointer (some ⟨ob, 0 + 1, none⟩))).run Tryz.prog wb = .ok (.int .i64 o.pl) wb) := op_plc (rng_cells nb)
  have HEB := hidMk EB
  have hkd := ho.ok.kind
  rw [hpn]
  clear h ho hP okP hPn hpn hq0 EB nb bb hob
  go_enter Tryz.func7, Tryz.ntmps7
  go_upto_region 1 with (first
    | (refine wpList_run rfl (exec_boxE (t := 66) (v := o.a) (u := .pointer (some ⟨ob, 0, none⟩)) (w2 := wb) rfl rfl HEB.out) ?_)
    | fail)
  refine stp1 (ob := ob) (pn := pn) (pc := pc) (pa := pa) (o := o) (p := q) (fun pb w' => Below w.heap.size w w' ∧ Loc o q ob pb w') _ wb _ rfl rfl rfl (fun W e => by rw [e]; exact LPL.out) CA.out ?_
  intro pb a' w1 hf ha
  subst ha
  simp only [Act.put, List.setIfInBounds_toArray, List.set_cons_zero, List.set_cons_succ]
  have K1 := hidMk hf
  clear hf CA LPL HEB HBB
  obtain ⟨e0, y1, u, y2, ib, y3, w4, E0, b1, E1, E2, E3, b4, tl⟩ := ids_copy w1 (HO.out.sn.below (HH.out.bel.trans (K1.out.1.mono HH.out.bel.size))) HO.out.n
  have LSN : Hid ((Instr.loadAt 64 (.pointer (some ⟨ob, 0 + 40, none⟩))).run Tryz.prog y1 = .ok o.seen y1) := by
    obtain ⟨sa, sc, es, _⟩ := HO.out.sn.at'
    exact op_sc HO.out.ok.id ⟨_, _, _, es⟩ (rng_cells (K1.out.2.below b1).o)
  have HE := hidMk (And.intro E0 (And.intro E1 (And.intro E2 E3)))
  have B4 : Hid (Below w.heap.size w w4) := K1.out.1.trans (b4.mono K1.out.1.size)
  have LC4 := hidMk (K1.out.2.below b4)
  have TL4 := hidMk tl
  clear E0 b1 E1 E2 E3 b4 tl K1
  go_upto_region 2 with fail
  refine stp2 (ob := ob) (ib := ib) (o := o) (e0 := e0) (u := u) (w1 := y1) (w2 := y2) (w3 := y3) (w4 := w4) _ w1 _ rfl rfl (fun W e => by rw [e]; exact LSN.out) HE.out.1 HE.out.2.1 HE.out.2.2.1 HE.out.2.2.2 ?_
  intro a' w5 hf ha
  subst ha
  obtain rfl : w4 = w5 := hf.symm
  simp only [Act.put, List.setIfInBounds_toArray, List.set_cons_zero, List.set_cons_succ]
  clear HE LSN
  have LKD : Hid ((Instr.loadAt 3 (.pointer (some ⟨ob, 0 + 0, none⟩))).run Tryz.prog w4 = .ok (.int .i64 o.kind) w4) := op_kc (rng_cells LC4.out.o)
  have LBK : Hid ((Instr.loadAt 3 (.pointer (some ⟨ob, 0 + 41, none⟩))).run Tryz.prog w4 = .ok (.int .i64 o.back) w4) := op_bc HO.out.ok.id (rng_cells LC4.out.o)
  go_upto_region 5 with fail
  refine stp5 (ob := ob) (o := o) _ w4 _ rfl rfl (fun W e => by rw [e]; exact LKD.out) ?_
  intro a' w5 hf ha
  subst ha
  obtain rfl : w4 = w5 := hf.symm
  simp only [Act.put, List.setIfInBounds_toArray, List.set_cons_zero, List.set_cons_succ]
  have bd : Below w4.heap.size w4 w4.drew := (Below.refl _ _).drew
  have P4 : Hid (PY K w0 B1 B2 x ro d m p w4.drew) := (HH.out.below B4.out).below bd
  have L4 := hidMk (LC4.out.below bd)
  have T4 := hidMk (TL4.out.below bd)
  have S4 : Hid (SS K B1 B2 x ro d o q ob pb w4.drew) := ⟨p, P4.out.pm, L4.out⟩
  have LL : Hid (∀ W, SS K B1 B2 x ro d o q ob pb W → (Instr.loadAt 26 (.pointer (some ⟨x, 0 + 0, none⟩))).run Tryz.prog W = .ok (.pointer (some ⟨ro, 0, none⟩)) W ∧ (Instr.loadAt 28 (.pointer (some ⟨x, 0 + 1, none⟩))).run Tryz.prog W = .ok (.pointer (some ⟨d, 0, none⟩)) W ∧ (Instr.loadAt 68 (.pointer (some ⟨pb, 0, none⟩))).run Tryz.prog W = .ok q.v W ∧ (Instr.loadAt 59 (.pointer (some ⟨ob, 0 + 2, none⟩))).run Tryz.prog W = .ok o.id.v W ∧ (Instr.loadAt 63 (.pointer (some ⟨ob, 0 + 35, none⟩))).run Tryz.prog W = .ok o.v.v W ∧ (Instr.loadAt 2 (.pointer (some ⟨ob, 0 + 39, none⟩))).run Tryz.prog W = .ok (.int .i64 o.n) W ∧ (Instr.loadAt 64 (.pointer (some ⟨ob, 0 + 40, none⟩))).run Tryz.prog W = .ok o.seen W) := by
    rintro W ⟨p', pm, lc⟩
    have rg := rng_cells lc.o
    obtain ⟨sa, sc, es, _⟩ := HO.out.sn.at'
    exact ⟨pm.ldr, pm.ldd, ld_pl hq (rng_cells lc.p), op_idc HO.out.ok.id rg, op_vac HO.out.ok.id rg, op_nc HO.out.ok.id rg, op_sc HO.out.ok.id ⟨_, _, _, es⟩ rg⟩
  have CU : Hid (Calls Tryz.prog 16 #[.pointer (some ⟨x, 0, none⟩), .int .i64 o.back] w4 fun e w' => e = .returned (.bool true) ∧ ∃ p', PY K w0 B1 B2 x ro d (m + 1) p' w') := by
    refine (dundo_any (HH.out.below B4.out) (by omega) HO.out.ok.back).mono ?_
    rintro e w' ⟨rfl, p', py, _⟩
    exact ⟨rfl, p', py.mono (Nat.le_succ _)⟩
  have SAME : Hid (∃ p', PY K w0 B1 B2 x ro d (m + 1) p' w4) := ⟨p, (HH.out.below B4.out).mono (Nat.le_succ _)⟩
  obtain ⟨kd, hke⟩ : ∃ k, o.kind = k := ⟨_, rfl⟩
  rw [hke] at hkd ⊢
  clear LKD bd LC4 TL4 B4 hke
  by_cases h0 : kd = 0
  · subst h0
    clear hkd CU SAME LBK
    obtain ⟨L, hLe⟩ : ∃ L, Rg.res (inL I) (liOf p.s.P q) ++ [⟨o.id, o.v⟩] = L := ⟨_, rfl⟩
    have hLb : L.length ≤ m + 1 := by
      rw [← hLe]
      have h1 := Rg.res_len (inL I) (liOf p.s.P q) 0
      have h2 := HLQ.out
      rw [List.length_append, List.length_singleton]
      omega
    have HLL := hidMk hLb
    clear hLb
    have CC : Hid (Calls Tryz.prog 18 #[.pointer (some ⟨ro, 0, none⟩), q.v, o.id.v, o.v.v, .func (.func 22) #[] #[.pointer (some ⟨ib, 0, none⟩)]] w4.drew fun e w' => ∃ bk, e = .returned (.pointer (some ⟨bk, 0, none⟩)) ∧ SS K B1 B2 x ro d o q ob pb w' ∧ G1 K w0 B1 B2 x ro d p o q ob pb L bk w') := by
      have py := P4.out
      have cc := put_any py.pm.ra py.h1 hq HO.out.ok.id HO.out.ok.v (.inr ⟨_, _, rfl, T4.out⟩) (by have := HLQ.out; omega)
      rw [py.pm.r] at cc
      refine cc.mono fun e w' hop => ?_
      have hop2 : OpE w4.drew B1 p.s p.H q L e w' := by rw [← hLe]; exact hop
      exact op_prog py L4.out hop2
    have CD : Hid (∀ bk W, G1 K w0 B1 B2 x ro d p o q ob pb L bk W → Calls Tryz.prog 24 #[.pointer (some ⟨d, 0, none⟩), q.v, o.id.v, o.v.v, o.seen] W.drew fun e w' => e = .returned (.tuple #[]) ∧ SS K B1 B2 x ro d o q ob pb w' ∧ G2 K w0 B1 B2 x ro d p q L bk w') := by
      intro bk W g0
      have g1 := g0.drew
      have gg := g1
      obtain ⟨rc, s', k, pm, lc, gb⟩ := gg
      have hxl := (HH.out.mx p.X (.inl rfl)).1
      have hxe := (HH.out.mx p.X (.inl rfl)).2 q
      have hdl := HH.out.md
      have cc := rf_put pm.rf gb.h2 gb.b HH.out.l2 (by simp only; omega) (by simp only; omega) hq HO.out.ok.id HO.out.ok.v HO.out.sn (by simp only; omega)
      refine cc.mono ?_
      rintro e w' ⟨rfl, rfo⟩
      simp only at rfo
      rw [HH.out.ln.eq, show _ = L from hLe] at rfo
      exact ⟨rfl, op_doc HH.out.l2 g1 rfo⟩
    clear hLe
    go_upto_region 8 with fail
    refine stp8 (x := x) (rb := ro) (ob := ob) (pb := pb) (o := o) (p := q) (fv := .func (.func 22) #[] #[.pointer (some ⟨ib, 0, none⟩)]) (SS K B1 B2 x ro d o q ob pb) (G1 K w0 B1 B2 x ro d p o q ob pb L) _ w4 _ rfl rfl rfl rfl rfl S4.out (fun W h => (LL.out W h).1) (fun W h => (LL.out W h).2.2.1) (fun W h => (LL.out W h).2.2.2.1) (fun W h => (LL.out W h).2.2.2.2.1) CC.out ?_
    intro bk a' w5 hf ha
    subst ha
    simp only [Act.put, List.setIfInBounds_toArray, List.set_cons_zero, List.set_cons_succ]
    have K1 := hidMk hf
    have S5 : Hid (SS K B1 B2 x ro d o q ob pb w5.drew) := by
      obtain ⟨rc, s', k, pm, lc, gb⟩ := hf.drew
      exact ⟨_, pm, lc⟩
    clear hf CC S4 P4 L4 T4
    go_upto_region 9 with fail
    refine stp9 (x := x) (d := d) (ob := ob) (pb := pb) (o := o) (p := q) (SS K B1 B2 x ro d o q ob pb) (G2 K w0 B1 B2 x ro d p q L bk) _ w5 _ rfl rfl rfl rfl S5.out (fun W h => (LL.out W h).2.1) (fun W h => (LL.out W h).2.2.1) (fun W h => (LL.out W h).2.2.2.1) (fun W h => (LL.out W h).2.2.2.2.1) (fun W h => (LL.out W h).2.2.2.2.2.2) (CD.out bk w5 K1.out) ?_
    intro a' w6 hf ha
    subst ha
    simp only [Act.put, List.setIfInBounds_toArray, List.set_cons_zero, List.set_cons_succ]
    clear K1 S5 LL
    obtain ⟨sv, y1, bv2, y2, y3, l18, e18a, e18b, e18c, g3⟩ := tail18 HH.out.l2 (by have := HH.out.mb; omega) hf
    have H18 := hidMk (And.intro l18 (And.intro e18a (And.intro e18b e18c)))
    have K3 := hidMk g3.drew
    clear hf g3 l18 e18a e18b e18c CD
    go_upto_region 18 with fail
    refine stp18 (x := x) (bk := bk) (bv := p.bv) (sv := sv) (bv2 := bv2) (w1 := y1) (w2 := y2) (w3 := y3) _ w6 _ rfl rfl rfl (fun W e => by rw [e]; exact H18.out.1) H18.out.2.1 H18.out.2.2.1 H18.out.2.2.2 ?_
    intro a' w7 hf ha
    subst ha
    obtain rfl : y3 = w7 := hf.symm
    simp only [Act.put, List.setIfInBounds_toArray, List.set_cons_zero, List.set_cons_succ]
    clear H18
    obtain ⟨sv2, z1, iv2, z2, z3, x0, xs, cs, e19a, x1, e19b, x2, e19c, pyz⟩ := tail19 HH.out.l1 HH.out.l2 HH.out.ln HH.out.mb HH.out.md HH.out.mx hm HLL.out K3.out
    have X0 := hidMk x0
    have XS := hidMk xs
    have CSS := hidMk cs
    have H19 := hidMk (And.intro e19a (And.intro x1 (And.intro e19b (And.intro x2 e19c))))
    have PYZ := hidMk pyz
    clear x0 xs cs e19a x1 e19b x2 e19c pyz K3
    go_upto_region 19 with fail
    refine stp19 (x := x) (d := d) (z := ((p.D.length + 1 : Nat) : Int)) (iv := p.sv) (sv := sv2) (iv2 := iv2) (w1 := z1) (w2 := z2) (w3 := z3) (XC x ro d bv2 p.sv) _ y3 _ rfl rfl X0.out (fun W h => xc_s XS.out h) (fun W h => xc_d h) CSS.out X0.out H19.out.1 H19.out.2.1 H19.out.2.2.1 H19.out.2.2.2.1 H19.out.2.2.2.2 ?_
    intro a' w8 hf ha
    subst ha
    obtain rfl : z3 = w8 := hf.symm
    simp only [Act.put, List.setIfInBounds_toArray, List.set_cons_zero, List.set_cons_succ]
    clear H19 CSS X0 XS HLL
    go_wp2
    go_ret
    exact ⟨rfl, PYZ.out⟩
  · by_cases h1 : kd = 1
    · subst h1
      clear hkd CU SAME LBK h0
      obtain ⟨L, hLe⟩ : ∃ L, Rg.res (inL I) (liOf p.s.P q) = L := ⟨_, rfl⟩
      have hLb : L.length ≤ m + 1 := by
        rw [← hLe]
        have h1 := Rg.res_len (inL I) (liOf p.s.P q) 0
        have h2 := HLQ.out
        omega
      have HLL := hidMk hLb
      clear hLb
      have CC : Hid (Calls Tryz.prog 25 #[.pointer (some ⟨ro, 0, none⟩), q.v, .func (.func 22) #[] #[.pointer (some ⟨ib, 0, none⟩)]] w4.drew fun e w' => ∃ bk, e = .returned (.pointer (some ⟨bk, 0, none⟩)) ∧ SS K B1 B2 x ro d o q ob pb w' ∧ G1 K w0 B1 B2 x ro d p o q ob pb L bk w') := by
        have py := P4.out
        have cc := delete_any py.pm.ra py.h1 hq (.inr ⟨_, _, rfl, T4.out⟩) (by have := HLQ.out; omega)
        rw [py.pm.r] at cc
        refine cc.mono fun e w' hop => ?_
        have hop2 : OpE w4.drew B1 p.s p.H q L e w' := by rw [← hLe]; exact hop
        exact op_prog py L4.out hop2
      have CD : Hid (∀ bk W, G1 K w0 B1 B2 x ro d p o q ob pb L bk W → Calls Tryz.prog 26 #[.pointer (some ⟨d, 0, none⟩), q.v, o.seen] W.drew fun e w' => e = .returned (.tuple #[]) ∧ SS K B1 B2 x ro d o q ob pb w' ∧ G2 K w0 B1 B2 x ro d p q L bk w') := by
        intro bk W g0
        have g1 := g0.drew
        have gg := g1
        obtain ⟨rc, s', k, pm, lc, gb⟩ := gg
        have hxl := (HH.out.mx p.X (.inl rfl)).1
        have hxe := (HH.out.mx p.X (.inl rfl)).2 q
        have hdl := HH.out.md
        have cc := rf_delete pm.rf gb.h2 gb.b HH.out.l2 (by simp only; omega) (by simp only; omega) hq HO.out.sn
        refine cc.mono ?_
        rintro e w' ⟨rfl, rfo⟩
        simp only at rfo
        rw [HH.out.ln.eq, show _ = L from hLe] at rfo
        exact ⟨rfl, op_doc HH.out.l2 g1 rfo⟩
      clear hLe
      go_upto_region 11 with fail
      refine stp11 (x := x) (rb := ro) (ob := ob) (pb := pb) (o := o) (p := q) (fv := .func (.func 22) #[] #[.pointer (some ⟨ib, 0, none⟩)]) (SS K B1 B2 x ro d o q ob pb) (G1 K w0 B1 B2 x ro d p o q ob pb L) _ w4 _ rfl rfl rfl rfl rfl S4.out (fun W h => (LL.out W h).1) (fun W h => (LL.out W h).2.2.1) CC.out ?_
      intro bk a' w5 hf ha
      subst ha
      simp only [Act.put, List.setIfInBounds_toArray, List.set_cons_zero, List.set_cons_succ]
      have K1 := hidMk hf
      have S5 : Hid (SS K B1 B2 x ro d o q ob pb w5.drew) := by
        obtain ⟨rc, s', k, pm, lc, gb⟩ := hf.drew
        exact ⟨_, pm, lc⟩
      clear hf CC S4 P4 L4 T4
      go_upto_region 12 with fail
      refine stp12 (x := x) (d := d) (ob := ob) (pb := pb) (o := o) (p := q) (SS K B1 B2 x ro d o q ob pb) (G2 K w0 B1 B2 x ro d p q L bk) _ w5 _ rfl rfl rfl rfl S5.out (fun W h => (LL.out W h).2.1) (fun W h => (LL.out W h).2.2.1) (fun W h => (LL.out W h).2.2.2.2.2.2) (CD.out bk w5 K1.out) ?_
      intro a' w6 hf ha
      subst ha
      simp only [Act.put, List.setIfInBounds_toArray, List.set_cons_zero, List.set_cons_succ]
      clear K1 S5 LL
      obtain ⟨sv, y1, bv2, y2, y3, l18, e18a, e18b, e18c, g3⟩ := tail18 HH.out.l2 (by have := HH.out.mb; omega) hf
      have H18 := hidMk (And.intro l18 (And.intro e18a (And.intro e18b e18c)))
      have K3 := hidMk g3.drew
      clear hf g3 l18 e18a e18b e18c CD
      go_upto_region 18 with fail
      refine stp18 (x := x) (bk := bk) (bv := p.bv) (sv := sv) (bv2 := bv2) (w1 := y1) (w2 := y2) (w3 := y3) _ w6 _ rfl rfl rfl (fun W e => by rw [e]; exact H18.out.1) H18.out.2.1 H18.out.2.2.1 H18.out.2.2.2 ?_
      intro a' w7 hf ha
      subst ha
      obtain rfl : y3 = w7 := hf.symm
      simp only [Act.put, List.setIfInBounds_toArray, List.set_cons_zero, List.set_cons_succ]
      clear H18
      obtain ⟨sv2, z1, iv2, z2, z3, x0, xs, cs, e19a, x1, e19b, x2, e19c, pyz⟩ := tail19 HH.out.l1 HH.out.l2 HH.out.ln HH.out.mb HH.out.md HH.out.mx hm HLL.out K3.out
      have X0 := hidMk x0
      have XS := hidMk xs
      have CSS := hidMk cs
      have H19 := hidMk (And.intro e19a (And.intro x1 (And.intro e19b (And.intro x2 e19c))))
      have PYZ := hidMk pyz
      clear x0 xs cs e19a x1 e19b x2 e19c pyz K3
      go_upto_region 19 with fail
      refine stp19 (x := x) (d := d) (z := ((p.D.length + 1 : Nat) : Int)) (iv := p.sv) (sv := sv2) (iv2 := iv2) (w1 := z1) (w2 := z2) (w3 := z3) (XC x ro d bv2 p.sv) _ y3 _ rfl rfl X0.out (fun W h => xc_s XS.out h) (fun W h => xc_d h) CSS.out X0.out H19.out.1 H19.out.2.1 H19.out.2.2.1 H19.out.2.2.2.1 H19.out.2.2.2.2 ?_
      intro a' w8 hf ha
      subst ha
      obtain rfl : z3 = w8 := hf.symm
      simp only [Act.put, List.setIfInBounds_toArray, List.set_cons_zero, List.set_cons_succ]
      clear H19 CSS X0 XS HLL
      go_wp2
      go_ret
      exact ⟨rfl, PYZ.out⟩
    · by_cases h2 : kd = 2
      · subst h2
        clear hkd CU SAME LBK h0 h1
        obtain ⟨L, hLe⟩ : ∃ L, chs (inL I) (sumV o.n) (liOf p.s.P q) = L := ⟨_, rfl⟩
        have hLb : L.length ≤ m + 1 := by
          rw [← hLe]
          have h2 := HLQ.out
          rw [chs_len]
          omega
        have HLL := hidMk hLb
        clear hLb
        have CC : Hid (Calls Tryz.prog 19 #[.pointer (some ⟨ro, 0, none⟩), q.v, .int .i64 o.n, .func (.func 22) #[] #[.pointer (some ⟨ib, 0, none⟩)]] w4.drew fun e w' => ∃ bk, e = .returned (.pointer (some ⟨bk, 0, none⟩)) ∧ SS K B1 B2 x ro d o q ob pb w' ∧ G1 K w0 B1 B2 x ro d p o q ob pb L bk w') := by
          have py := P4.out
          have cc := add_any py.pm.ra py.h1 hq HO.out.ok.n (.inr ⟨_, _, rfl, T4.out⟩) (by have := HLQ.out; omega)
          rw [py.pm.r] at cc
          refine cc.mono fun e w' hop => ?_
          have hop2 : OpE w4.drew B1 p.s p.H q L e w' := by rw [← hLe]; exact hop
          exact op_prog py L4.out hop2
        have CD : Hid (∀ bk W, G1 K w0 B1 B2 x ro d p o q ob pb L bk W → Calls Tryz.prog 27 #[.pointer (some ⟨d, 0, none⟩), q.v, .int .i64 o.n, o.seen] W.drew fun e w' => e = .returned (.tuple #[]) ∧ SS K B1 B2 x ro d o q ob pb w' ∧ G2 K w0 B1 B2 x ro d p q L bk w') := by
          intro bk W g0
          have g1 := g0.drew
          have gg := g1
          obtain ⟨rc, s', k, pm, lc, gb⟩ := gg
          have hxl := (HH.out.mx p.X (.inl rfl)).1
          have hxe := (HH.out.mx p.X (.inl rfl)).2 q
          have hdl := HH.out.md
          have cc := rf_add pm.rf gb.h2 gb.b HH.out.l2 (by simp only; omega) (by simp only; omega) hq HO.out.ok.n HO.out.sn
          refine cc.mono ?_
          rintro e w' ⟨rfl, rfo⟩
          simp only at rfo
          rw [HH.out.ln.eq, show _ = L from hLe] at rfo
          exact ⟨rfl, op_doc HH.out.l2 g1 rfo⟩
        clear hLe
        go_upto_region 14 with fail
        refine stp14 (x := x) (rb := ro) (ob := ob) (pb := pb) (o := o) (p := q) (fv := .func (.func 22) #[] #[.pointer (some ⟨ib, 0, none⟩)]) (SS K B1 B2 x ro d o q ob pb) (G1 K w0 B1 B2 x ro d p o q ob pb L) _ w4 _ rfl rfl rfl rfl rfl S4.out (fun W h => (LL.out W h).1) (fun W h => (LL.out W h).2.2.1) (fun W h => (LL.out W h).2.2.2.2.2.1) CC.out ?_
        intro bk a' w5 hf ha
        subst ha
        simp only [Act.put, List.setIfInBounds_toArray, List.set_cons_zero, List.set_cons_succ]
        have K1 := hidMk hf
        have S5 : Hid (SS K B1 B2 x ro d o q ob pb w5.drew) := by
          obtain ⟨rc, s', k, pm, lc, gb⟩ := hf.drew
          exact ⟨_, pm, lc⟩
        clear hf CC S4 P4 L4 T4
        go_upto_region 15 with fail
        refine stp15 (x := x) (d := d) (ob := ob) (pb := pb) (o := o) (p := q) (SS K B1 B2 x ro d o q ob pb) (G2 K w0 B1 B2 x ro d p q L bk) _ w5 _ rfl rfl rfl rfl S5.out (fun W h => (LL.out W h).2.1) (fun W h => (LL.out W h).2.2.1) (fun W h => (LL.out W h).2.2.2.2.2.1) (fun W h => (LL.out W h).2.2.2.2.2.2) (CD.out bk w5 K1.out) ?_
        intro a' w6 hf ha
        subst ha
        simp only [Act.put, List.setIfInBounds_toArray, List.set_cons_zero, List.set_cons_succ]
        clear K1 S5 LL
        obtain ⟨sv, y1, bv2, y2, y3, l18, e18a, e18b, e18c, g3⟩ := tail18 HH.out.l2 (by have := HH.out.mb; omega) hf
        have H18 := hidMk (And.intro l18 (And.intro e18a (And.intro e18b e18c)))
        have K3 := hidMk g3.drew
        clear hf g3 l18 e18a e18b e18c CD
        go_upto_region 18 with fail
        refine stp18 (x := x) (bk := bk) (bv := p.bv) (sv := sv) (bv2 := bv2) (w1 := y1) (w2 := y2) (w3 := y3) _ w6 _ rfl rfl rfl (fun W e => by rw [e]; exact H18.out.1) H18.out.2.1 H18.out.2.2.1 H18.out.2.2.2 ?_
        intro a' w7 hf ha
        subst ha
        obtain rfl : y3 = w7 := hf.symm
        simp only [Act.put, List.setIfInBounds_toArray, List.set_cons_zero, List.set_cons_succ]
        clear H18
        obtain ⟨sv2, z1, iv2, z2, z3, x0, xs, cs, e19a, x1, e19b, x2, e19c, pyz⟩ := tail19 HH.out.l1 HH.out.l2 HH.out.ln HH.out.mb HH.out.md HH.out.mx hm HLL.out K3.out
        have X0 := hidMk x0
        have XS := hidMk xs
        have CSS := hidMk cs
        have H19 := hidMk (And.intro e19a (And.intro x1 (And.intro e19b (And.intro x2 e19c))))
        have PYZ := hidMk pyz
        clear x0 xs cs e19a x1 e19b x2 e19c pyz K3
        go_upto_region 19 with fail
        refine stp19 (x := x) (d := d) (z := ((p.D.length + 1 : Nat) : Int)) (iv := p.sv) (sv := sv2) (iv2 := iv2) (w1 := z1) (w2 := z2) (w3 := z3) (XC x ro d bv2 p.sv) _ y3 _ rfl rfl X0.out (fun W h => xc_s XS.out h) (fun W h => xc_d h) CSS.out X0.out H19.out.1 H19.out.2.1 H19.out.2.2.1 H19.out.2.2.2.1 H19.out.2.2.2.2 ?_
        intro a' w8 hf ha
        subst ha
        obtain rfl : z3 = w8 := hf.symm
        simp only [Act.put, List.setIfInBounds_toArray, List.set_cons_zero, List.set_cons_succ]
        clear H19 CSS X0 XS HLL
        go_wp2
        go_ret
        exact ⟨rfl, PYZ.out⟩
      · by_cases h3 : kd = 3
        · subst h3
          clear hkd SAME h0 h1 h2 LL S4 P4 L4 T4
          go_upto_region 17 with fail
          refine stp17 (x := x) (ob := ob) (o := o) (fun w' => ∃ p', PY K w0 B1 B2 x ro d (m + 1) p' w') _ w4 _ rfl rfl rfl (fun W e => by rw [e]; exact LBK.out) CU.out ?_
          intro a' w5 hf ha
          subst ha
          simp only [Act.put, List.setIfInBounds_toArray, List.set_cons_zero, List.set_cons_succ]
          have K5 := hidMk hf
          clear hf CU LBK
          go_wp2
          go_ret
          exact ⟨rfl, K5.out⟩
        · clear LL S4 P4 L4 T4 CU LBK
          go_wp2
          go_ret
          exact ⟨rfl, SAME.out⟩
variable {K : Nat → Option Obj}
theorem szOpR : (Tryz.prog.info? 66).map (·.size) = some 42 := by kernel_rfl
theorem ld_op {w W : World} {b o : Nat} {x : OpR} (hx : x.ok w) (h : W.rangeAt b o x.c) : (Instr.loadAt 66 (.pointer (some ⟨b, o, none⟩))).run Tryz.prog W = .ok x.a W :=
  run_loadAt_mid (P := Tryz.prog) W b o 66 x.c _ h Tryz.underlying66 rfl (by rw [OpR.len hx]; exact szOpR)
structure PlI (w : World) (pa : Option Addr) (Ps : List PlK) (a : Option Addr) (L : List OpR) : Prop where
  hP : RowAt 67 PlK.c w pa Ps
  okP : ∀ x ∈ Ps, x.ok
  hPn : Ps.length ≤ 2000000000000
  hL : RowAt 42 OpR.c w a L
  okL : ∀ x ∈ L, ∃ I, OpS w x I
  hLn : L.length ≤ 1034834473202
def p0 (so : Rs) : Pz := ⟨so, [], [], ⟨none, 0, 0⟩, .slice none 0 0, [], .slice none 0 0, [], .slice none 0 0, []⟩
theorem py_start {w w1 w2 w3 : World} (b1 : Below w.heap.size w w1) {so : Rs} (ra : RgAt w2 w1.heap.size so []) (rl : ∀ q, liOf so.P q = []) (b2 : Below w1.heap.size w1 w2) {d : Nat} (rf : RfP w2.heap.size w3 d [] ⟨none, 0, 0⟩ (.slice none 0 0) []) (b3 : Below w2.heap.size w2 w3) :
    PY (fun _ => none) w w1.heap.size w2.heap.size w3.heap.size so.r d 0 (p0 so) (w3.alloc (.cells #[.pointer (some ⟨so.r, 0, none⟩), .pointer (some ⟨d, 0, none⟩), .slice none 0 0, .slice none 0 0] 33)) := by
  have b4 : Below w3.heap.size w3 (w3.alloc (.cells #[.pointer (some ⟨so.r, 0, none⟩), .pointer (some ⟨d, 0, none⟩), .slice none 0 0, .slice none 0 0] 33)) := (Below.refl _ _).alloc (Nat.le_refl _) _
  have z1 := b1.size
  have z2 := b2.size
  have z3 := b3.size
  have z4 := b4.size
  refine ⟨⟨(ra.below b3).below b4, rf.below b4, rfl, heap_alloc_new _ _, ⟨rfl, Or.inl ⟨rfl, rfl⟩⟩, ⟨rfl, Or.inl ⟨rfl, rfl⟩⟩, by simp [p0], ?_, z3, fun j o ho => by cases ho⟩, ⟨fun q => ?_, HM.nil, rfl, by simp [p0], by simp [p0], by simp [p0], ?_⟩, by simp [p0], by simp [p0], ?_, ?_, z1, by omega, by omega, by omega⟩
  · rintro j (⟨q, hq, _⟩ | ⟨g, hg, _⟩)
    · cases hq
    · cases hg
  · show entF [] q = liOf so.P q
    rw [rl]
    rfl
  · intro n h1 h2
    simp [p0] at h2
    omega
  · rintro Y (rfl | ⟨g, hg, _⟩)
    · exact ⟨Nat.le_refl _, fun q => Nat.le_refl _⟩
    · cases hg
  · have c1 := b1.trans (b2.mono z1)
    have c2 := c1.trans (b3.mono c1.size)
    exact c2.trans (b4.mono c2.size)
section
variable {w : World} {pa : Option Addr} {pc : Nat} {Ps : List PlK} {a : Option Addr} {L : List OpR}
theorem PlI.at' (h : PlI w pa Ps a L) {i : Nat} (hi : i < L.length) : ∃ q I g o, OpS w q I ∧ a = some ⟨g, o, none⟩ ∧ ∀ W, Below w.heap.size w W → (Instr.loadAt 66 (.pointer (some ⟨g, o + 42 * i, none⟩))).run Tryz.prog W = .ok q.a W := by
  obtain ⟨x, hx⟩ : ∃ x, L[i]? = some x := ⟨_, List.getElem?_eq_getElem hi⟩
  obtain ⟨I, ho⟩ := h.okL x (List.mem_of_getElem? hx)
  rcases h.hL with e | ⟨g, o, e, h1, h2⟩
  · rw [e] at hx; cases hx
  · exact ⟨x, I, g, o, ho, e, fun W b => ld_op ho.ok (rangeAt_keep (by rw [Nat.mul_comm]; exact h2 i x hx) (b.block _ h1))⟩
theorem PlI.alike (h : PlI w pa Ps a L) {B1 B2 x ro d m : Nat} {p : Pz} {W : World} (py : PY K w B1 B2 x ro d m p W) (hm : m ≤ 1100000000000) : Calls Tryz.prog 14 #[.pointer (some ⟨ro, 0, none⟩), .pointer (some ⟨d, 0, none⟩), .slice pa Ps.length pc] W fun e w' => e = .returned (.bool true) ∧ PY K w B1 B2 x ro d m p w' := by
  have cc := alike_any (py.pr hm) (pc := pc) (h.hP.below py.bel) h.okP h.hPn
  rw [py.pm.r] at cc
  refine cc.mono ?_
  rintro e w' ⟨rfl, b⟩
  exact ⟨rfl, py.below b⟩
end
section
variable {w0 W W' : World} {B1 B2 x ro d m : Nat} {p : Pz}
def offP (x d : Nat) (p : Pz) (j : Nat) : Prop := ¬ p.s.all j ∧ ¬ rfB d p.v p.pv p.D j ∧ ¬ plB x p j ∧ ¬ docE p.X p.D j
theorem PM.new (h : PM K W B1 B2 x ro d p) {j : Nat} (hj : W.heap.size ≤ j) : offP x d p j := by
  refine ⟨fun q => ?_, fun q => ?_, fun q => ?_, fun q => ?_⟩
  · have := h.ra.mem.allLt q; omega
  · obtain ⟨_, c, ty, hc, _⟩ := rf_typ h.rf q
    have := (Array.getElem?_eq_some_iff.1 hc).1; omega
  · obtain ⟨_, c, ty, hc, _⟩ := pl_typ h q
    have := (Array.getElem?_eq_some_iff.1 hc).1; omega
  · obtain ⟨c, hc⟩ := doc_typ h.rf q
    have := (Array.getElem?_eq_some_iff.1 hc).1; omega
theorem PM.frame (h : PM K W B1 B2 x ro d p) {K' : Nat → Option Obj} (hk : ∀ j o, K' j = some o → W.heap[j]? = some o ∧ offP x d p j) : PM K' W B1 B2 x ro d p := ⟨h.ra, h.rf, h.r, h.cell, h.backs, h.steps, h.bk, h.ap, h.xB, hk⟩
theorem PY.frame (h : PY K w0 B1 B2 x ro d m p W) {K' : Nat → Option Obj} (hk : ∀ j o, K' j = some o → W.heap[j]? = some o ∧ offP x d p j) : PY K' w0 B1 B2 x ro d m p W := ⟨h.pm.frame hk, h.ln, h.mb, h.md, h.mx, h.bel, h.l1, h.l2, h.h1, h.h2⟩
theorem PM.side (h : PM K W B1 B2 x ro d p) {O : Nat → Prop} (t : Tch O W W') (hO : ∀ j, O j → offP x d p j) (hT : ∀ j c ty fr, W.heap[j]? = some (.cells c ty fr) → (ty = 125 ∨ ty = 68 ∨ ty = 114 ∨ ty = 176) → ¬ O j) : PM (fun _ => none) W' B1 B2 x ro d p := by
  refine ⟨h.ra.keep (fun j hj => t.block j (h.ra.mem.allLt hj) (fun q => (hO j q).1 hj)) (h.ra.hist.keepT t hT), h.rf.keepE t (fun j hj q => (hO j q).2.1 hj) (fun j hj q => (hO j q).2.2.2 hj), h.r, (t.block x (Array.getElem?_eq_some_iff.1 h.cell).1 (fun q => (hO x q).2.2.1 (.inl rfl))).trans h.cell, h.backs.keep fun j hj => ?_, h.steps.keep fun j hj => ?_, fun b hb => ?_, h.ap, h.xB, fun j o ho => by cases ho⟩
  · obtain ⟨_, c, hc⟩ := h.backs.ge j hj
    exact t.block j (Array.getElem?_eq_some_iff.1 hc).1 (fun q => (hO j q).2.2.1 (.inr (.inl hj)))
  · obtain ⟨_, c, hc⟩ := h.steps.ge j hj
    exact t.block j (Array.getElem?_eq_some_iff.1 hc).1 (fun q => (hO j q).2.2.1 (.inr (.inr hj)))
  · obtain ⟨c, hc⟩ := h.bk b hb
    exact ⟨c, (t.block _ (Array.getElem?_eq_some_iff.1 hc).1 (hT b _ _ _ hc (.inl rfl))).trans hc⟩
theorem PY.side (h : PY K w0 B1 B2 x ro d m p W) {O : Nat → Prop} (t : Tch O W W') (hO : ∀ j, O j → offP x d p j ∧ w0.heap.size ≤ j) (hT : ∀ j c ty fr, W.heap[j]? = some (.cells c ty fr) → (ty = 125 ∨ ty = 68 ∨ ty = 114 ∨ ty = 176) → ¬ O j) : PY (fun _ => none) w0 B1 B2 x ro d m p W' := ⟨h.pm.side t (fun j hj => (hO j hj).1) hT, h.ln, h.mb, h.md, h.mx, h.bel.trans (t.below h.bel.size (fun j hj => (hO j hj).2)), h.l1, h.l2, Nat.le_trans h.h1 t.size, Nat.le_trans h.h2 t.size⟩
end
end Go.Proofs.YtldlljobofnmmaaGreatDoor
namespace Go.Proofs.YtldlljobofnmmaaGreatDoor.B
open Go.RowKit
set_option linter.unusedVariables false
set_option linter.unusedSimpArgs false
def rpC (n : Nat) (x : List Value) : List Value := (List.replicate n x).flatten
theorem rpC_len (n : Nat) (x : List Value) : (rpC n x).length = n * x.length := by simp [rpC]
theorem rpC_cons (n : Nat) (x : List Value) : rpC (n + 1) x = x ++ rpC n x := by simp [rpC, List.replicate_succ]
theorem rpC_succ (n : Nat) (x : List Value) : rpC n x ++ x = rpC (n + 1) x := by
  unfold rpC
  rw [List.replicate_succ', List.flatten_append]
  simp
theorem rpC_get {x : List Value} {j : Nat} (hj : j < x.length) : ∀ {n k : Nat}, k < n → (rpC n x)[k * x.length + j]? = x[j]?
  | 0, k, h => by omega
  | n + 1, 0, h => by rw [rpC_cons, Nat.zero_mul, Nat.zero_add, List.getElem?_append_left hj]
  | n + 1, k + 1, h => by
    rw [rpC_cons, List.getElem?_append_right (by rw [Nat.succ_mul]; omega), show (k + 1) * x.length + j - x.length = k * x.length + j by rw [Nat.succ_mul]; omega]
    exact rpC_get hj (by omega)
theorem rpC_pre (n m : Nat) (x : List Value) {j : Nat} (hj : j < n * x.length) : (rpC (n + m) x)[j]? = (rpC n x)[j]? := by
  have hx : 0 < x.length := by
    rcases Nat.eq_zero_or_pos x.length with h | h
    · rw [h] at hj; omega
    · exact h
  have h1 : j / x.length < n := (Nat.div_lt_iff_lt_mul hx).2 hj
  have h2 : j = j / x.length * x.length + j % x.length := by rw [Nat.mul_comm]; exact (Nat.div_add_mod j x.length).symm
  rw [h2, rpC_get (Nat.mod_lt _ hx) (by omega), rpC_get (Nat.mod_lt _ hx) h1]
def fillC (k : Nat) (x L : List Value) : List Value := rpC k x ++ L.drop (k * x.length)
theorem fillC_len {k : Nat} {x L : List Value} (h : k * x.length ≤ L.length) : (fillC k x L).length = L.length := by
  unfold fillC
  rw [List.length_append, rpC_len, List.length_drop]
  omega
theorem fillC_zero (x L : List Value) : fillC 0 x L = L := by simp [fillC, rpC]
theorem fillC_all {n : Nat} {x L : List Value} (h : L.length = n * x.length) : fillC n x L = rpC n x := by
  unfold fillC
  rw [← h, List.drop_length, List.append_nil]
def RdC (w : World) (a : Option Addr) (n : Nat) (x : List Value) : Prop := n = 0 ∨ ∃ b off, a = some ⟨b, off, none⟩ ∧ ∀ j u, (rpC n x)[j]? = some u → w.cell? ⟨b, off + j, none⟩ = some u
theorem RdC.grown {w w' : World} {a : Option Addr} {n : Nat} {x : List Value} {row : Option Nat} (h : RdC w a n x) (gr : w.grownBy w' row) (hne : 0 < n → ∀ b off, a = some ⟨b, off, none⟩ → some b ≠ row) : RdC w' a n x := by
  rcases h with rfl | ⟨b, off, rfl, hc⟩
  · exact .inl rfl
  · rcases Nat.eq_zero_or_pos n with h0 | h0
    · exact .inl h0
    · exact .inr ⟨b, off, rfl, fun j u hj => gr.cell (hc j u hj) (hne h0 b off rfl)⟩
theorem RdC.below {w w' : World} {a : Option Addr} {n : Nat} {x : List Value} (h : RdC w a n x) (hb : Below w.heap.size w w') : RdC w' a n x := by
  rcases h with rfl | ⟨b, off, rfl, hc⟩
  · exact .inl rfl
  · exact .inr ⟨b, off, rfl, fun j u hj => (hb.cell (p := ⟨b, off + j, none⟩) (block_lt_of_cell (hc j u hj))).trans (hc j u hj)⟩
theorem own_rd {w : World} {base e sz : Nat} {a : Option Addr} {n c : Nat} {x : List Value} (h : w.ownsRow base e sz (.slice a n c) n (rpC n x)) : RdC w a n x := by
  have hc := fun g hg => World.ownsRow.cells h (g := g) hg
  rcases h.2 with ⟨_, hn⟩ | ⟨g, cap, cur, ev, _⟩
  · exact .inl hn
  · cases ev
    refine .inr ⟨g, 0, rfl, fun j u hj => ?_⟩
    have := hc g rfl j u hj
    rw [Addr.add_mid] at this
    exact this
theorem own_slice {w : World} {base e sz n : Nat} {v : Value} {xs : List Value} (h : w.ownsRow base e sz v n xs) : ∃ a c, v = .slice a n c := by
  rcases h.2 with ⟨rfl, rfl⟩ | ⟨g, cap, cur, rfl, _⟩
  · exact ⟨_, _, rfl⟩
  · exact ⟨_, _, rfl⟩
theorem own_below {w w' : World} {base e sz n : Nat} {v : Value} {xs : List Value} (h : w.ownsRow base e sz v n xs) (hb : Below w.heap.size w w') : w'.ownsRow base e sz v n xs :=
  World.ownsRow.kept h (row := none) ⟨hb.os, hb.tape, hb.output, hb.size, fun k hk _ => hb.block k hk⟩ (by cases hx : v.ownBlock <;> simp)
theorem own_other {w : World} {q base j e sz n : Nat} {v u : Value} {xs : List Value} (h : w.ownsRow base e sz v n xs) (hq : v.ownBlock ≠ some q) : (w.setCell ⟨q, j, none⟩ u).ownsRow base e sz v n xs := by
  refine ⟨h.1, ?_⟩
  rcases h.2 with hn | ⟨g, cap, cur, rfl, hbg, hg, rest⟩
  · exact .inl hn
  · refine .inr ⟨g, cap, cur, rfl, hbg, ?_, rest⟩
    rw [Below.heap_setCell _ _ _ _ (fun e => hq (by simp [Value.ownBlock]; exact e))]
    exact hg
theorem own_put {w : World} {base g n cap r e sz : Nat} {F : List Value} (h : w.ownsRow base e sz (.slice (some ⟨g, 0, none⟩) n cap) n F) (x : Value) (hr : r < F.length) : (w.setCell ⟨g, r, none⟩ x).ownsRow base e sz (.slice (some ⟨g, 0, none⟩) n cap) n (F.set r x) := by
  rcases h.2 with ⟨e, _⟩ | ⟨g', cap', cur, ev, hbg, hg, hnc, hcm, hcs, htake⟩
  · cases e
  · cases ev
    refine ⟨by rw [List.length_set]; exact h.1, .inr ⟨g, cap, _, rfl, hbg, heap_setCell_same w g r _ e _ hg, hnc, hcm, by simpa using hcs, ?_⟩⟩
    rw [Array.toList_setIfInBounds, List.take_set, htake]
theorem own_at {w : World} {base g n cap r e sz : Nat} {F : List Value} {u : Value} (h : w.ownsRow base e sz (.slice (some ⟨g, 0, none⟩) n cap) n F) (hr : F[r]? = some u) : w.cell? ⟨g, r, none⟩ = some u ∧ w.frozen? ⟨g, r, none⟩ = false := by
  have hc := World.ownsRow.cells h (g := g) rfl r u hr
  rw [Addr.add_mid, Nat.zero_add] at hc
  rcases h.2 with ⟨e, _⟩ | ⟨g', cap', cur, ev, hbg, hg, hnc, hcm, hcs, htake⟩
  · cases e
  · cases ev
    exact ⟨hc, frozen_of_row w g r _ _ hg⟩
theorem run_app3 {P : Program} (w : World) (base : Nat) (t ty e : TypeId) (i : TypeInfo) (z : Value) (size bytes : Nat) (ht : P.underlying t = some (.slice e)) (hi : P.info? e = some i) (hz : i.zero = some z)
    (hsize : i.size = size) (hby : i.bytes = bytes) (hzs : z.cells.size = size) (hsz : 0 < size) (v : Value) (n : Nat) (xs : List Value) (hown : w.ownsRow base e size v n xs)
    (ad : Addr) (c : Nat) (news : List Value) (hl : news.length = 1 * size) (hnews : ∀ j u, news[j]? = some u → w.cell? (ad.add j) = some u) (h1 : ∀ u ∈ news, u.oneCell' = true)
    (h63 : n + 1 ≤ maxLen) (hbytes : (n + 1) * bytes ≤ 140737488355328) (hbase : base ≤ w.heap.size) :
    ∃ v' w', (Builtin.append_ #[t, t] ty #[v, .slice (some ad) 1 c]).run P w = .ok v' w' ∧ w'.ownsRow base e size v' (n + 1) (xs ++ news) ∧ w.grownBy w' v.ownBlock ∧
      (v'.ownBlock = v.ownBlock ∨ v'.ownBlock = some w.heap.size ∧ Below w.heap.size w w') := by
  obtain ⟨v', w', hr, own, gr, _, hblk⟩ := run_append_own_at (P := P) w base t ty e i z size bytes ht hi hz hsize hby hzs hsz v n xs hown ad 1 c news hl hnews h1 h63 hbytes hbase
  refine ⟨v', w', hr, own, gr, ?_⟩
  rcases hblk with e1 | e1
  · exact .inl e1
  · refine .inr ⟨e1, ?_⟩
    cases hv : v.ownBlock with
    | none => exact (Below.refl _ _).grown gr (Nat.le_refl _) (fun k hk => by rw [hv] at hk; cases hk)
    | some g =>
      rcases hown.2 with ⟨rfl, hn⟩ | ⟨g', cap, cur, rfl, hbg, hg, hnc, hcm, hcs, htake⟩
      · simp [Value.ownBlock] at hv
      · have hg' : g' < w.heap.size := (Array.getElem?_eq_some_iff.1 hg).1
        subst hsize hby
        by_cases hroom : n + 1 ≤ cap
        · have hr2 := run_append_room (P := P) w t ty e i ht hi g' n cap cur hg ad 1 c news (by rw [hl]) hnews h1 hroom (by rw [hl, hcs, ← Nat.add_mul]; exact Nat.mul_le_mul_right _ hroom)
          rw [hr] at hr2
          injection hr2 with e2 e3
          rw [e2] at e1
          simp [Value.ownBlock] at e1
          omega
        · have hr2 := run_append_grow (P := P) w t ty e i z ht hi hz ⟨g', 0, none⟩ n cap xs (by rw [hown.1]) (hown.cells (g := g') rfl) ad 1 c news (by rw [hl]) hnews (by omega) (by unfold maxLen at h63; omega) (growslice_fits (by omega) (by simpa using hbytes))
          rw [hr] at hr2
          injection hr2 with e2 e3
          rw [e3]
          exact (below_drewN (Below.refl _ _) 1).alloc (Nat.le_refl _) _
theorem grow_step {wa w' : World} {base W n cap m e sz : Nat} {a : Option Addr} {x : List Value} {g g' : Value} (hW : W ≤ wa.heap.size) (hx : 0 < x.length)
    (hB : RdC wa a n x) (hv : ∀ b off, 0 < n → a = some ⟨b, off, none⟩ → (Value.slice a n cap).ownBlock = some b ∧ off = 0 ∧ b < W)
    (own' : w'.ownsRow base e sz g' (n + m + 1) (rpC (n + m + 1) x)) (gr : wa.grownBy w' g.ownBlock)
    (h4 : g'.ownBlock = g.ownBlock ∨ g'.ownBlock = some wa.heap.size ∧ Below wa.heap.size wa w')
    (hg : g.ownBlock = (Value.slice a n cap).ownBlock ∨ ∃ b, g.ownBlock = some b ∧ W ≤ b) :
    RdC w' a n x ∧ (g'.ownBlock = (Value.slice a n cap).ownBlock ∨ ∃ b, g'.ownBlock = some b ∧ W ≤ b) := by
  refine ⟨?_, ?_⟩
  · rcases hB with h0 | ⟨b, off, rfl, hc⟩
    · exact .inl h0
    by_cases hn : 0 < n
    · obtain ⟨hvb, rfl, hbW⟩ := hv b off hn rfl
      rcases hg with e1 | ⟨b2, e1, hb2⟩
      · rcases h4 with e4 | ⟨e4, bl⟩
        · have eo : g'.ownBlock = some b := by rw [e4, e1, hvb]
          refine .inr ⟨b, 0, rfl, fun j u hj => ?_⟩
          have hjl : j < n * x.length := by
            have := (List.getElem?_eq_some_iff.1 hj).1
            rwa [rpC_len] at this
          have hj2 : (rpC (n + m + 1) x)[j]? = some u := by rw [Nat.add_assoc, rpC_pre n (m + 1) x hjl]; exact hj
          have := World.ownsRow.cells own' eo j u hj2
          rw [Addr.add_mid] at this
          exact this
        · exact .inr ⟨b, 0, rfl, fun j u hj => (bl.cell (p := ⟨b, 0 + j, none⟩) (block_lt_of_cell (hc j u hj))).trans (hc j u hj)⟩
      · exact .inr ⟨b, 0, rfl, fun j u hj => gr.cell (hc j u hj) (fun e3 => by rw [e1] at e3; simp at e3; omega)⟩
    · left; omega
  · rcases h4 with e4 | ⟨e4, _⟩
    · rw [e4]; exact hg
    · exact .inr ⟨_, e4, hW⟩
structure Lst where
  a : Option Addr
  n : Nat
  c : Nat
def Lst.v (l : Lst) : Value := .slice l.a l.n l.c
structure BookAt (w : World) (q fi B cB N : Nat) (qo : Option Obj) (V : Nat → Lst) : Prop where
  cq : w.cell? ⟨q, fi, none⟩ = some (.slice (some ⟨B, 0, none⟩) N cB)
  cr : ∀ i, i < N → w.cell? ⟨B, i, none⟩ = some (V i).v
  ho : w.heap[q]? = qo
  lB : B < w.heap.size
theorem BookAt.keep {w w' : World} {q fi B cB N : Nat} {qo : Option Obj} {V : Nat → Lst} (h : BookAt w q fi B cB N qo V) (hq : w'.heap[q]? = w.heap[q]?) (hB : w'.heap[B]? = w.heap[B]?) (hs : w.heap.size ≤ w'.heap.size) : BookAt w' q fi B cB N qo V :=
  ⟨(World.cell?_of_block hq).trans h.cq, fun i hi => (World.cell?_of_block hB).trans (h.cr i hi), hq.trans h.ho, Nat.lt_of_lt_of_le h.lB hs⟩
theorem BookAt.lq {w : World} {q fi B cB N : Nat} {qo : Option Obj} {V : Nat → Lst} (h : BookAt w q fi B cB N qo V) : q < w.heap.size := block_lt_of_cell h.cq
def Tg (tg : Nat → Nat) (v : Value) (t : Nat) : Prop := ∀ b, v.ownBlock = some b → tg b = t
structure Ph1 (w0 w : World) (base q fi B cB N e sz : Nat) (qo : Option Obj) (V : Nat → Lst) (tg : Nat → Nat) (F : Nat → List Value) : Prop where
  bk : BookAt w q fi B cB N qo V
  tq : tg q = 0
  tB : tg B = 0
  ow : ∀ i, i < N → w.ownsRow base e sz (V i).v (V i).n (F i) ∧ Tg tg (V i).v (i + 1)
  be : Below base w0 w
  fr : ∀ k, k < w0.heap.size → tg k = 0 → w.heap[k]? = w0.heap[k]?
def upF (F : Nat → List Value) (m : Nat) (l : List Value) : Nat → List Value := fun i => if i = m then l else F i
theorem upF_at (F : Nat → List Value) (m : Nat) (l : List Value) : upF F m l m = l := by unfold upF; rw [if_pos rfl]
theorem upF_up (F : Nat → List Value) (m : Nat) (l l' : List Value) : upF (upF F m l) m l' = upF F m l' := by
  funext i
  unfold upF
  split <;> rfl
theorem Ph1.set {w0 w : World} {base q fi B cB N e sz : Nat} {qo : Option Obj} {V : Nat → Lst} {tg : Nat → Nat} {F : Nat → List Value} (h : Ph1 w0 w base q fi B cB N e sz qo V tg F) (m r g : Nat) (x : Value) (hm : m < N) (hr : r < (F m).length) (hg : (V m).a = some ⟨g, 0, none⟩) (hbg : base ≤ g) :
    Ph1 w0 (w.setCell ⟨g, r, none⟩ x) base q fi B cB N e sz qo V tg (upF F m ((F m).set r x)) := by
  have hv : (V m).v = .slice (some ⟨g, 0, none⟩) (V m).n (V m).c := by unfold Lst.v; rw [hg]
  have tm : tg g = m + 1 := (h.ow m hm).2 g (by rw [hv]; rfl)
  have ne : ∀ b, tg b ≠ m + 1 → b ≠ g := fun b hb e => hb (by rw [e]; exact tm)
  have hset : ∀ b, b ≠ g → (w.setCell ⟨g, r, none⟩ x).heap[b]? = w.heap[b]? := fun b hb => Below.heap_setCell _ _ _ _ hb
  refine ⟨h.bk.keep (hset q (ne q (by rw [h.tq]; omega))) (hset B (ne B (by rw [h.tB]; omega))) (by simp [World.setCell]), h.tq, h.tB, fun i hi => ?_, h.be.setCell hbg _, fun k hk ht => (hset k (ne k (by rw [ht]; omega))).trans (h.fr k hk ht)⟩
  obtain ⟨o, t⟩ := h.ow i hi
  unfold upF
  by_cases e : i = m
  · subst e
    rw [if_pos rfl]
    refine ⟨?_, t⟩
    rw [hv] at o ⊢
    exact own_put o x hr
  · rw [if_neg e]
    exact ⟨own_other o (fun e2 => by have := t g e2; omega), t⟩
structure Ph2 (w0 w : World) (base q fi B cB N e sz te : Nat) (qo : Option Obj) (V : Nat → Lst) (X : Nat → List Value) (tz tg : Nat → Nat) (lo m : Nat) (G : Nat → Value) (all : Value) : Prop where
  bk : BookAt w q fi B cB N qo V
  tq : tg q = 0
  tB : tg B = 0
  rd : ∀ i, i < N → RdC w (V i).a (V i).n (X i) ∧ Tg tg (V i).v (i + 1) ∧ ∀ b, (V i).v.ownBlock = some b → b < w.heap.size
  ow : ∀ i, lo ≤ i → i < N → w.ownsRow base e sz (V i).v (V i).n (rpC (V i).n (X i))
  gs : ∀ i, i < m → w.ownsRow base e sz (G i) ((V i).n + 20) (rpC ((V i).n + 20) (X i)) ∧ Tg tg (G i) (i + 1)
  al : w.ownsRow base te 1 all m ((List.range m).map G) ∧ Tg tg all (N + 1)
  be : Below base w0 w
  zb : base ≤ w.heap.size
  z0 : w0.heap.size ≤ w.heap.size
  fr : ∀ k, k < w0.heap.size → tz k = 0 → tg k = 0 ∧ w.heap[k]? = w0.heap[k]?
def tgN (tg : Nat → Nat) (z t : Nat) : Nat → Nat := fun b => if b < z then tg b else t
section
variable {w0 w w' : World} {base q fi B cB N e sz te : Nat} {qo : Option Obj} {V : Nat → Lst} {X : Nat → List Value} {tz tg : Nat → Nat} {lo m : Nat} {G : Nat → Value} {all : Value}
theorem Ph2.below (h : Ph2 w0 w base q fi B cB N e sz te qo V X tz tg lo m G all) (hb : Below w.heap.size w w') : Ph2 w0 w' base q fi B cB N e sz te qo V X tz tg lo m G all :=
  ⟨h.bk.keep (hb.block q h.bk.lq) (hb.block B h.bk.lB) hb.size, h.tq, h.tB, fun i hi => ⟨(h.rd i hi).1.below hb, (h.rd i hi).2.1, fun b e => Nat.lt_of_lt_of_le ((h.rd i hi).2.2 b e) hb.size⟩,
    fun i h1 h2 => own_below (h.ow i h1 h2) hb, fun i hi => ⟨own_below (h.gs i hi).1 hb, (h.gs i hi).2⟩, ⟨own_below h.al.1 hb, h.al.2⟩, h.be.trans (hb.mono h.zb), Nat.le_trans h.zb hb.size, Nat.le_trans h.z0 hb.size, fun k hk ht => ⟨(h.fr k hk ht).1, (hb.block k (Nat.lt_of_lt_of_le hk h.z0)).trans (h.fr k hk ht).2⟩⟩
theorem Tg.new {v : Value} {t : Nat} (z t' : Nat) (h : Tg tg v t) (hl : ∀ b, v.ownBlock = some b → b < z) : Tg (tgN tg z t') v t := fun b e => by
  unfold tgN
  rw [if_pos (hl b e)]
  exact h b e
theorem Ph2.grow (h : Ph2 w0 w base q fi B cB N e sz te qo V X tz tg lo m G all) (t : Nat) (v v' : Value) (h1 : 1 ≤ t) (gr : w.grownBy w' v.ownBlock) (ht : Tg tg v t) (hv : ∀ b, v.ownBlock = some b → base ≤ b ∧ b < w.heap.size) (hblk : v'.ownBlock = v.ownBlock ∨ v'.ownBlock = some w.heap.size)
    (hrd : ∀ i, i + 1 = t → i < N → RdC w' (V i).a (V i).n (X i)) (how : ∀ i, lo ≤ i → i < N → i + 1 ≠ t) (hgs : ∀ i, i < m → i + 1 ≠ t) (hal : N + 1 ≠ t) : Ph2 w0 w' base q fi B cB N e sz te qo V X tz (tgN tg w.heap.size t) lo m G all ∧ Tg (tgN tg w.heap.size t) v' t := by
  have ne : ∀ b, tg b ≠ t → some b ≠ v.ownBlock := fun b hb e => hb (ht b e.symm)
  have kp : ∀ {e : TypeId} {sz n : Nat} {u : Value} {xs : List Value} {s : Nat}, w.ownsRow base e sz u n xs → Tg tg u s → s ≠ t → w'.ownsRow base e sz u n xs := fun {e sz n u xs s} o tu hs => World.ownsRow.kept o gr (by
    cases hx : u.ownBlock with
    | none => exact .inl rfl
    | some b => exact .inr (fun e => by have := tu b hx; have := ht b e.symm; omega))
  have lt : ∀ {e : TypeId} {sz n : Nat} {u : Value} {xs : List Value}, w.ownsRow base e sz u n xs → ∀ b, u.ownBlock = some b → b < w.heap.size := fun o b e => (World.ownsRow.lt o b e).2
  refine ⟨⟨h.bk.keep (gr.block q h.bk.lq (ne q (by rw [h.tq]; omega))) (gr.block B h.bk.lB (ne B (by rw [h.tB]; omega))) gr.size, ?_, ?_, fun i hi => ?_, fun i h1 h2 => kp (h.ow i h1 h2) (h.rd i h2).2.1 (how i h1 h2), fun i hi => ⟨kp (h.gs i hi).1 (h.gs i hi).2 (hgs i hi), (h.gs i hi).2.new _ _ (lt (h.gs i hi).1)⟩, ⟨kp h.al.1 h.al.2 hal, h.al.2.new _ _ (lt h.al.1)⟩, h.be.grown gr h.zb (fun b e => (hv b e).1), Nat.le_trans h.zb gr.size, Nat.le_trans h.z0 gr.size, fun k hk ht0 => (by
    have hkz := Nat.lt_of_lt_of_le hk h.z0
    obtain ⟨f1, f2⟩ := h.fr k hk ht0
    refine ⟨?_, (gr.block k hkz (ne k (by rw [f1]; omega))).trans f2⟩
    unfold tgN
    rw [if_pos hkz]
    exact f1)⟩, fun b e => ?_⟩
  · unfold tgN; rw [if_pos h.bk.lq]; exact h.tq
  · unfold tgN; rw [if_pos h.bk.lB]; exact h.tB
  · obtain ⟨r1, r2, r3⟩ := h.rd i hi
    refine ⟨?_, r2.new _ _ r3, fun b e => Nat.lt_of_lt_of_le (r3 b e) gr.size⟩
    by_cases e : i + 1 = t
    · exact hrd i e hi
    · exact r1.grown gr (fun _ b off ea e2 => by
        have : (V i).v.ownBlock = some b := by unfold Lst.v; rw [ea]; rfl
        have := r2 b this
        have := ht b e2.symm
        omega)
  · unfold tgN
    rcases hblk with e2 | e2
    · rw [e2] at e
      rw [if_pos (hv b e).2]
      exact ht b e
    · rw [e2] at e
      cases e
      rw [if_neg (by omega)]
theorem Ph2.done (h : Ph2 w0 w base q fi B cB N e sz te qo V X tz tg (m + 1) m G all) (hm : m < N) (g all' : Value) (og : w.ownsRow base e sz g ((V m).n + 20) (rpC ((V m).n + 20) (X m))) (hg : Tg tg g (m + 1)) (gr : w.grownBy w' all.ownBlock) (hblk : all'.ownBlock = all.ownBlock ∨ all'.ownBlock = some w.heap.size)
    (rows : w'.ownsRow base te 1 all' (m + 1) ((List.range m).map G ++ [g])) : ∃ tg', Ph2 w0 w' base q fi B cB N e sz te qo V X tz tg' (m + 1) (m + 1) (fun i => if i = m then g else G i) all' := by
  have ht := h.al.2
  have hv : ∀ b, all.ownBlock = some b → base ≤ b ∧ b < w.heap.size := fun b e => World.ownsRow.lt h.al.1 b e
  have ne : ∀ b, tg b ≠ N + 1 → some b ≠ all.ownBlock := fun b hb e => hb (ht b e.symm)
  have kp : ∀ {e : TypeId} {sz n : Nat} {u : Value} {xs : List Value} {s : Nat}, w.ownsRow base e sz u n xs → Tg tg u s → s ≠ N + 1 → w'.ownsRow base e sz u n xs := fun {e sz n u xs s} o tu hs => World.ownsRow.kept o gr (by
    cases hx : u.ownBlock with
    | none => exact .inl rfl
    | some b => exact .inr (fun e => by have := tu b hx; have := ht b e.symm; omega))
  have lt : ∀ {e : TypeId} {sz n : Nat} {u : Value} {xs : List Value}, w.ownsRow base e sz u n xs → ∀ b, u.ownBlock = some b → b < w.heap.size := fun o b e => (World.ownsRow.lt o b e).2
  refine ⟨tgN tg w.heap.size (N + 1), ⟨h.bk.keep (gr.block q h.bk.lq (ne q (by rw [h.tq]; omega))) (gr.block B h.bk.lB (ne B (by rw [h.tB]; omega))) gr.size, ?_, ?_, fun i hi => ?_, fun i h1 h2 => kp (h.ow i h1 h2) (h.rd i h2).2.1 (by omega), fun i hi => ?_, ⟨?_, fun b e => ?_⟩, h.be.grown gr h.zb (fun b e => (hv b e).1), Nat.le_trans h.zb gr.size, Nat.le_trans h.z0 gr.size, fun k hk ht0 => (by
    have hkz := Nat.lt_of_lt_of_le hk h.z0
    obtain ⟨f1, f2⟩ := h.fr k hk ht0
    refine ⟨?_, (gr.block k hkz (ne k (by rw [f1]; omega))).trans f2⟩
    unfold tgN
    rw [if_pos hkz]
    exact f1)⟩⟩
  · unfold tgN; rw [if_pos h.bk.lq]; exact h.tq
  · unfold tgN; rw [if_pos h.bk.lB]; exact h.tB
  · obtain ⟨r1, r2, r3⟩ := h.rd i hi
    refine ⟨r1.grown gr (fun _ b off ea e2 => ?_), r2.new _ _ r3, fun b e => Nat.lt_of_lt_of_le (r3 b e) gr.size⟩
    have : (V i).v.ownBlock = some b := by unfold Lst.v; rw [ea]; rfl
    have := r2 b this
    have := ht b e2.symm
    omega
  · show w'.ownsRow base e sz (if i = m then g else G i) _ _ ∧ Tg _ (if i = m then g else G i) _
    by_cases e : i = m
    · subst e
      rw [if_pos rfl]
      exact ⟨kp og hg (by omega), hg.new _ _ (lt og)⟩
    · rw [if_neg e]
      have hi2 : i < m := by omega
      exact ⟨kp (h.gs i hi2).1 (h.gs i hi2).2 (by omega), (h.gs i hi2).2.new _ _ (lt (h.gs i hi2).1)⟩
  · have : (List.range (m + 1)).map (fun i => if i = m then g else G i) = (List.range m).map G ++ [g] := by
      rw [List.range_succ, List.map_append]
      congr 1
      · apply List.map_congr_left
        intro i hi
        rw [if_neg (by have := List.mem_range.1 hi; omega)]
      · simp
    rw [this]
    exact rows
  · unfold tgN
    rcases hblk with e2 | e2
    · rw [e2] at e
      rw [if_pos (hv b e).2]
      exact ht b e
    · rw [e2] at e
      cases e
      rw [if_neg (by omega)]
theorem Ph2.weak (h : Ph2 w0 w base q fi B cB N e sz te qo V X tz tg lo m G all) (lo' : Nat) (hl : lo ≤ lo') : Ph2 w0 w base q fi B cB N e sz te qo V X tz tg lo' m G all :=
  ⟨h.bk, h.tq, h.tB, h.rd, fun i h1 h2 => h.ow i (by omega) h2, h.gs, h.al, h.be, h.zb, h.z0, h.fr⟩
def mF (V : Nat → Lst) (X L : Nat → List Value) (m : Nat) : Nat → List Value := fun i => if i < m then rpC (V i).n (X i) else L i
theorem mF_start (V : Nat → Lst) (X L : Nat → List Value) (m : Nat) : upF (mF V X L m) m (fillC 0 (X m) (L m)) = mF V X L m := by
  funext i
  unfold upF mF
  by_cases e : i = m
  · subst e; rw [if_pos rfl, fillC_zero, if_neg (by omega)]
  · rw [if_neg e]
theorem mF_end (V : Nat → Lst) (X L : Nat → List Value) (m : Nat) (h : (L m).length = (V m).n * (X m).length) : upF (mF V X L m) m (fillC (V m).n (X m) (L m)) = mF V X L (m + 1) := by
  funext i
  unfold upF mF
  by_cases e : i = m
  · subst e; rw [if_pos rfl, fillC_all h, if_pos (by omega)]
  · rw [if_neg e]
    by_cases e2 : i < m
    · rw [if_pos e2, if_pos (by omega)]
    · rw [if_neg e2, if_neg (by omega)]
theorem ph2_start {L : Nat → List Value} (h : Ph1 w0 w base q fi B cB N e sz qo V tg (mF V X L N)) (hb : base ≤ w.heap.size) (hz0 : w0.heap.size ≤ w.heap.size) : Ph2 w0 w base q fi B cB N e sz te qo V X tg tg 0 0 (fun _ => .slice none 0 0) (.slice none 0 0) := by
  have key : ∀ i, i < N → w.ownsRow base e sz (V i).v (V i).n (rpC (V i).n (X i)) := fun i hi => by
    have := (h.ow i hi).1
    unfold mF at this
    rwa [if_pos hi] at this
  exact ⟨h.bk, h.tq, h.tB, fun i hi => ⟨own_rd (key i hi), (h.ow i hi).2, fun b e => (World.ownsRow.lt (key i hi) b e).2⟩, fun i _ hi => key i hi, fun i hi => by omega, ⟨World.ownsRow_nil _ _ _ _, fun b e => by cases e⟩, h.be, hb, hz0, fun k hk ht => ⟨ht, h.fr k hk ht⟩⟩
def Gr (w : World) (base e sz W : Nat) (tg : Nat → Nat) (x : List Value) (m n0 k0 k : Nat) (a0 : Option Addr) (g : Value) : Prop :=
  w.ownsRow base e sz g (n0 + k) (rpC (n0 + k) x) ∧ Tg tg g (m + 1) ∧ (g.ownBlock = (Value.slice a0 n0 k0).ownBlock ∨ ∃ b, g.ownBlock = some b ∧ W ≤ b) ∧ W ≤ w.heap.size
noncomputable def tgOf (N : Nat) (V : Nat → Lst) (b : Nat) : Nat := @dite _ (∃ i, i < N ∧ (V i).v.ownBlock = some b) (Classical.propDecidable _) (fun h => Classical.choose h + 1) (fun _ => 0)
theorem tgOf_own (sep : ∀ i j, i < N → j < N → ∀ b, (V i).v.ownBlock = some b → (V j).v.ownBlock = some b → i = j) (i : Nat) (hi : i < N) : Tg (tgOf N V) (V i).v (i + 1) := fun b e => by
  have hx : ∃ i, i < N ∧ (V i).v.ownBlock = some b := ⟨i, hi, e⟩
  unfold tgOf
  rw [dif_pos hx]
  have hs := Classical.choose_spec hx
  rw [sep _ i hs.1 hi b hs.2 e]
theorem tgOf_no (b : Nat) (h : ∀ i, i < N → (V i).v.ownBlock ≠ some b) : tgOf N V b = 0 := by
  unfold tgOf
  rw [dif_neg]
  rintro ⟨i, hi, e⟩
  exact h i hi e
end
theorem add_txt (x y z : ByteArray) (h : x.size + y.size ≤ 9223372036854775807) (hz : z = x ++ y) (w : World) : (Op.stringOp .add x y).run Tryz.prog w = .ok (.string z) w := by
  rw [run_string_add_sum w x y h, hz]
theorem wrap_nat (n : Nat) (h : n ≤ 4398046510976) : wrap64 (n : Int) = (n : Int) := by unfold wrap64; omega
theorem wrap_let (n : Nat) (h : n < 26) : IntKind.u8.wrap (97 + (n : Int)) = 97 + (n : Int) := by rw [IntKind.wrap_u8]; omega
theorem tmod_26 (n : Nat) : (n : Int).tmod 26 = ((n % 26 : Nat) : Int) := by rw [Int.tmod_eq_emod_of_nonneg (by omega)]; omega
theorem tdiv_26 (n : Nat) : (n : Int).tdiv 26 = ((n / 26 : Nat) : Int) := by rw [Int.tdiv_eq_ediv_of_nonneg (by omega)]; omega
theorem tdiv_676 (n : Nat) : (n : Int).tdiv 676 = ((n / 676 : Nat) : Int) := by rw [Int.tdiv_eq_ediv_of_nonneg (by omega)]; omega
def txB (i : Nat) : ByteArray := ⟨#[109, 97, 114, 107, 32, UInt8.ofNat (97 + i % 26), UInt8.ofNat (97 + i / 26 % 26), UInt8.ofNat (97 + i / 676 % 26)]⟩
theorem ltr_val (d : Nat) (h : d < 26) : ((UInt8.ofNat (97 + d)).toNat : Int) = 97 + (d : Int) := by
  rw [UInt8.toNat_ofNat']
  omega
theorem conv3 (w : World) (d1 d2 d3 : Nat) (l1 : d1 < 26) (l2 : d2 < 26) (l3 : d3 < 26) : (convert 129 9 (.slice (some ⟨w.heap.size, 0, none⟩) 3 3)).run Tryz.prog (w.alloc (.cells #[.int .u8 (97 + (d1 : Int)), .int .u8 (97 + (d2 : Int)), .int .u8 (97 + (d3 : Int))] 5)) = .ok (.string ⟨#[UInt8.ofNat (97 + d1), UInt8.ofNat (97 + d2), UInt8.ofNat (97 + d3)]⟩) (w.alloc (.cells #[.int .u8 (97 + (d1 : Int)), .int .u8 (97 + (d2 : Int)), .int .u8 (97 + (d3 : Int))] 5)) := by
  have g0 := heap_alloc_new w (.cells #[.int .u8 (97 + (d1 : Int)), .int .u8 (97 + (d2 : Int)), .int .u8 (97 + (d3 : Int))] 5)
  exact run_convert_bytes_back (P := Tryz.prog) (w.alloc (.cells #[.int .u8 (97 + (d1 : Int)), .int .u8 (97 + (d2 : Int)), .int .u8 (97 + (d3 : Int))] 5)) 129 9 5 ⟨w.heap.size, 0, none⟩ 3 [UInt8.ofNat (97 + d1), UInt8.ofNat (97 + d2), UInt8.ofNat (97 + d3)] Tryz.underlying129 Tryz.underlying5 Tryz.underlying9 (fun j hj => by
    rw [Addr.add_mid, Nat.zero_add, cell_of_row _ _ j _ _ _ g0, ← ltr_val d1 l1, ← ltr_val d2 l2, ← ltr_val d3 l3]
    match j, hj with
    | 0, _ => rfl
    | 1, _ => rfl
    | 2, _ => rfl)
theorem txB_add (i : Nat) (w : World) : (Op.stringOp .add { data := #[109, 97, 114, 107, 32] } ⟨#[UInt8.ofNat (97 + i % 26), UInt8.ofNat (97 + i / 26 % 26), UInt8.ofNat (97 + i / 676 % 26)]⟩).run Tryz.prog w = .ok (.string (txB i)) w :=
  add_txt _ _ _ (by simp [ByteArray.size]) rfl w
set_option maxHeartbeats 200000 in
theorem text_any (i : Nat) (w : World) (hi : i ≤ 4398046510976) :
    Calls Tryz.prog 79 #[.int .i64 (i : Int)] w fun e w' => e = .returned (.string (txB i)) ∧ Below w.heap.size w w' := by
  have hcv := conv3 w (i % 26) (i / 26 % 26) (i / 676 % 26) (Nat.mod_lt _ (by decide)) (Nat.mod_lt _ (by decide)) (Nat.mod_lt _ (by decide))
  have hs := txB_add i
  have q1 := tmod_26 i
  have q2 := tdiv_26 i
  have q3 := tmod_26 (i / 26)
  have q4 := tdiv_676 i
  have q5 := tmod_26 (i / 676)
  have wz2 : wrap64 ((i / 26 : Nat) : Int) = ((i / 26 : Nat) : Int) := wrap_nat _ (Nat.le_trans (Nat.div_le_self _ _) hi)
  have wz3 : wrap64 ((i / 676 : Nat) : Int) = ((i / 676 : Nat) : Int) := wrap_nat _ (Nat.le_trans (Nat.div_le_self _ _) hi)
  have r1 := wrap_let (i % 26) (Nat.mod_lt _ (by decide))
  have r2 := wrap_let (i / 26 % 26) (Nat.mod_lt _ (by decide))
  have r3 := wrap_let (i / 676 % 26) (Nat.mod_lt _ (by decide))
  have l1 : i % 26 < 26 := Nat.mod_lt _ (by decide)
  have l2 : i / 26 % 26 < 26 := Nat.mod_lt _ (by decide)
  have l3 : i / 676 % 26 < 26 := Nat.mod_lt _ (by decide)
  have bw : Hid (Below w.heap.size w (w.alloc (.cells #[.int .u8 (97 + ((i % 26 : Nat) : Int)), .int .u8 (97 + ((i / 26 % 26 : Nat) : Int)), .int .u8 (97 + ((i / 676 % 26 : Nat) : Int))] 5))) := (Below.refl _ _).alloc (Nat.le_refl _) _
  generalize txB i = T at *
  generalize i / 26 % 26 = d2 at *
  generalize i / 676 % 26 = d3 at *
  generalize i / 26 = e2 at *
  generalize i / 676 = e3 at *
  generalize i % 26 = d1 at *
  generalize (⟨#[UInt8.ofNat (97 + d1), UInt8.ofNat (97 + d2), UInt8.ofNat (97 + d3)]⟩ : ByteArray) = Y at *
  go_enter Tryz.func79, Tryz.ntmps79
  go_wp2
  go_ret
  exact ⟨rfl, bw.out⟩
end Go.Proofs.YtldlljobofnmmaaGreatDoor.B
namespace Go.Proofs.YtldlljobofnmmaaGreatDoor
open Go.RowKit
set_option linter.unusedVariables false
set_option linter.unusedSimpArgs false
theorem fg_54_3 (b o : Nat) (w : World) : (Instr.fieldAt 54 (.pointer (some ⟨b, o, none⟩)) 3).run Tryz.prog w = .ok (.pointer (some ⟨b, o + 3, none⟩)) w := by go_simp
theorem fg_54_5 (b o : Nat) (w : World) : (Instr.fieldAt 54 (.pointer (some ⟨b, o, none⟩)) 5).run Tryz.prog w = .ok (.pointer (some ⟨b, o + 5, none⟩)) w := by go_simp
def mkI (i : Nat) : IdK := ⟨List.replicate 32 0, -7 - (i : Int)⟩
theorem mkI_ok {i : Nat} (h : i ≤ 7700000000000) : (mkI i).ok := ⟨by simp [mkI], by simp [mkI]; omega, by simp [mkI]; omega⟩
def mkE (i : Nat) : EnV := ⟨mkI i, zVa⟩
theorem ix_ee {b o m c i : Nat} (hi : i < m) (hm : m ≤ 9223372036854775807) (W : World) : (Instr.indexAt 40 (.slice (some ⟨b, o, none⟩) m c) (.int .i64 (i : Int))).run Tryz.prog W = .ok (.pointer (some ⟨b, o + i, none⟩)) W := by go_simp
theorem ix_tt {b o m c i : Nat} (hi : i < m) (hm : m ≤ 9223372036854775807) (W : World) : (Instr.indexAt 38 (.slice (some ⟨b, o, none⟩) m c) (.int .i64 (i : Int))).run Tryz.prog W = .ok (.pointer (some ⟨b, o + i, none⟩)) W := by go_simp
theorem ix_tl {b o m c i : Nat} (hi : i < m) (hm : m ≤ 9223372036854775807) (W : World) : (Instr.indexAt 74 (.slice (some ⟨b, o, none⟩) m c) (.int .i64 (i : Int))).run Tryz.prog W = .ok (.pointer (some ⟨b, o + i, none⟩)) W := by go_simp
theorem ex_sub7 {w : World} {a : Act} {o : Oper} {x y : Operand} {i : Nat} (h : i ≤ 7700000000000) (ho : o.op = .binOp .sub 3 x y 3) (hx : a.eval x = .int .i64 (-7)) (hy : a.eval y = .int .i64 (i : Int)) : (execOp a.eval o).run Tryz.prog w = .ok (.value (.int .i64 (-7 - (i : Int)))) w := by
  refine exec_binOp ho hx hy ?_ ?_
  · kernel_rfl
  · have e : IntKind.i64.wrap (-7 - (i : Int)) = -7 - (i : Int) := by rw [IntKind.wrap_i64]; omega
    go_simp
    first | done | exact e | rfl
theorem build_idn (w : World) (n : Int) : (Instr.build 59 #[(1, .int .i64 n)]).run Tryz.prog w = .ok (IdK.v ⟨List.replicate 32 0, n⟩) w := by kernel_rfl
theorem ex_bid {w : World} {a : Act} {o : Oper} {x : Operand} {i : Nat} (ho : o.op = .build 59 #[(1, x)]) (hx : a.eval x = .int .i64 (-7 - (i : Int))) : (execOp a.eval o).run Tryz.prog w = .ok (.value (mkI i).v) w :=
  exec_build ho (by simp [hx]) (build_idn w _)
theorem build_en1 (w : World) (n : Int) : (Instr.build 85 #[(0, IdK.v ⟨List.replicate 32 0, n⟩)]).run Tryz.prog w = .ok (EnV.a ⟨⟨List.replicate 32 0, n⟩, zVa⟩) w := by kernel_rfl
theorem ex_ben1 {w : World} {a : Act} {o : Oper} {x : Operand} {i : Nat} (ho : o.op = .build 85 #[(0, x)]) (hx : a.eval x = (mkI i).v) : (execOp a.eval o).run Tryz.prog w = .ok (.value (mkE i).a) w :=
  exec_build (pv := #[(0, (mkI i).v)]) ho (by simp [hx]) (build_en1 w _)
theorem ex_eqX {w : World} {a : Act} {o : Oper} {x y : Operand} {p : IdK} (hp : p.ok) (ho : o.op = .binOp .eql 59 x y 59) (hx : a.eval x = p.v) (hy : a.eval y = p.v) : (execOp a.eval o).run Tryz.prog w = .ok (.value (.bool true)) w := by
  have := eql_idR p p hp hp w
  rw [decide_eq_true rfl] at this
  exact exec_binOp ho hx hy (guard_idR _ _ _ _ _ _) this
theorem ex_eqT {w : World} {a : Act} {o : Oper} {x y : Operand} {s : ByteArray} (ho : o.op = .binOp .eql 9 x y 9) (hx : a.eval x = .string s) (hy : a.eval y = .string s) : (execOp a.eval o).run Tryz.prog w = .ok (.value (.bool true)) w := by
  refine exec_binOp ho hx hy ?_ ?_
  · unfold eqGuard; simp
  · simp [binOp, Op.stringOp]
def alE7_o0 : Oper := ⟨some 35, .move (.tmp 0), 34, "lists.go:307", #[], none⟩
def alE7_o1 : Oper := ⟨some 36, .nilCheck (.tmp 35), 0, "lists.go:307", #[⟨0, .data⟩], none⟩
def alE7_o2 : Oper := ⟨some 37, .fieldAddr 54 (.tmp 36) 5, 0, "lists.go:307", #[⟨1, .data⟩], none⟩
def alE7_o3 : Oper := ⟨some 38, .load 40 (.tmp 37), 40, "lists.go:307", #[⟨2, .data⟩], none⟩
def alE7_o4 : Oper := ⟨some 39, .move (.tmp 3), 3, "lists.go:307", #[], none⟩
def alE7_o5 : Oper := ⟨some 40, .indexAddr 40 (.tmp 38) (.tmp 39), 0, "lists.go:307", #[⟨3, .data⟩, ⟨4, .data⟩], none⟩
def alE7_o6 : Oper := ⟨some 41, .load 71 (.tmp 40), 71, "lists.go:307", #[⟨5, .data⟩], none⟩
def alE7_o7 : Oper := ⟨some 42, .move (.tmp 4), 3, "lists.go:307", #[], none⟩
def alE7_o8 : Oper := ⟨some 43, .move (.tmp 3), 3, "lists.go:307", #[], none⟩
def alE7_o9 : Oper := ⟨some 44, .binOp BinOp.sub 3 (Operand.const (Value.int IntKind.i64 (-7))) (.tmp 43) 3, 3, "lists.go:307", #[⟨8, .data⟩], none⟩
def alE7_o10 : Oper := ⟨some 45, .build 59 #[(1, .tmp 44)], 59, "lists.go:307", #[⟨9, .data⟩], none⟩
def alE7_o11 : Oper := ⟨some 46, .build 85 #[(0, .tmp 45)], 85, "lists.go:307", #[⟨10, .data⟩], none⟩
def alE7_o12 : Oper := ⟨some 47, .indexAddr 71 (.tmp 41) (.tmp 42), 0, "lists.go:307", #[⟨6, .data⟩, ⟨7, .data⟩, ⟨0, .phase⟩, ⟨1, .phase⟩, ⟨2, .phase⟩, ⟨3, .phase⟩, ⟨4, .phase⟩, ⟨5, .phase⟩, ⟨6, .phase⟩, ⟨7, .phase⟩, ⟨8, .phase⟩, ⟨9, .phase⟩, ⟨10, .phase⟩, ⟨11, .phase⟩], none⟩
def alE7_o13 : Oper := ⟨none, .store 85 (.tmp 47) (.tmp 46), 0, "lists.go:307", #[⟨12, .data⟩, ⟨11, .data⟩, ⟨0, .phase⟩, ⟨1, .phase⟩, ⟨2, .phase⟩, ⟨3, .phase⟩, ⟨4, .phase⟩, ⟨5, .phase⟩, ⟨6, .phase⟩, ⟨7, .phase⟩, ⟨8, .phase⟩, ⟨9, .phase⟩, ⟨10, .phase⟩, ⟨11, .phase⟩], none⟩
def alE7_ops : Array Oper := #[alE7_o0, alE7_o1, alE7_o2, alE7_o3, alE7_o4, alE7_o5, alE7_o6, alE7_o7, alE7_o8, alE7_o9, alE7_o10, alE7_o11, alE7_o12, alE7_o13]
theorem alE7 {q B N cB g o n c m k : Nat} {w2 : World} (a : Act) (w : World) (Q : Exit → Act → World → Prop) (zz : a.tmps.size = 137)
    (t0 : a.tmps.getD 0 undef = .pointer (some ⟨q, 0, none⟩))
    (t3 : a.tmps.getD 3 undef = .int .i64 (m : Int))
    (t4 : a.tmps.getD 4 undef = .int .i64 (k : Int))
    (hm : m < N) (h63 : N ≤ 9223372036854775807) (hk : k < n) (h64 : n ≤ 9223372036854775807) (h7 : m ≤ 7700000000000) (L1 : ∀ W, W = w → (Instr.loadAt 40 (.pointer (some ⟨q, 0 + 5, none⟩))).run Tryz.prog W = .ok (.slice (some ⟨B, 0, none⟩) N cB) W) (L2 : ∀ W, W = w → (Instr.loadAt 71 (.pointer (some ⟨B, 0 + m, none⟩))).run Tryz.prog W = .ok (.slice (some ⟨g, o, none⟩) n c) W) (ES : (Instr.storeAt 85 (.pointer (some ⟨g, o + 37 * k, none⟩)) ((mkE m).a)).run Tryz.prog w = .ok () w2)
    (h : ∀ (a' : Act) (w' : World), w' = w2 → a' = (((((((((((((a).put (some 35) (.pointer (some ⟨q, 0, none⟩))).put (some 36) (.pointer (some ⟨q, 0, none⟩))).put (some 37) (.pointer (some ⟨q, 0 + 5, none⟩))).put (some 38) (.slice (some ⟨B, 0, none⟩) N cB)).put (some 39) (.int .i64 (m : Int))).put (some 40) (.pointer (some ⟨B, 0 + m, none⟩))).put (some 41) (.slice (some ⟨g, o, none⟩) n c)).put (some 42) (.int .i64 (k : Int))).put (some 43) (.int .i64 (m : Int))).put (some 44) (.int .i64 (-7 - (m : Int)))).put (some 45) ((mkI m).v)).put (some 46) ((mkE m).a)).put (some 47) (.pointer (some ⟨g, o + 37 * k, none⟩)) → Q .normal a' w') :
    (Code.region 7 alE7_ops false).wp Tryz.prog Q a w := by
  refine z0 rfl ?_
  refine zv rfl (exec_move rfl (zi t0 rfl)) ?_
  refine zv rfl (exec_nilCheck rfl (zg zz rfl)) ?_
  refine zv rfl (exec_fieldAt rfl (zg zz rfl) (fg_54_5 _ _ _)) ?_
  refine zv rfl (exec_load rfl (zg zz rfl) (L1 _ rfl)) ?_
  refine zv rfl (exec_move rfl (zi t3 rfl)) ?_
  refine zv rfl (exec_indexAt rfl (zg zz rfl) (zg zz rfl) (ix_ee hm h63 _)) ?_
  refine zv rfl (exec_load rfl (zg zz rfl) (L2 _ rfl)) ?_
  refine zv rfl (exec_move rfl (zi t4 rfl)) ?_
  refine zv rfl (exec_move rfl (zi t3 rfl)) ?_
  refine zv (v := .int .i64 (-7 - (m : Int))) rfl (ex_sub7 h7 rfl rfl (zg zz rfl)) ?_
  refine zv (v := (mkI m).v) rfl (ex_bid rfl (zg zz rfl)) ?_
  refine zv (v := (mkE m).a) rfl (ex_ben1 rfl (zg zz rfl)) ?_
  refine zv rfl (exec_indexAt rfl (zg zz rfl) (zg zz rfl) (ix_en hk h64 _)) ?_
  refine zs rfl (exec_store rfl (zg zz rfl) (zg zz rfl) ES) ?_
  exact ze rfl (h _ _ (rfl) rfl)
def alE16_o0 : Oper := ⟨some 68, .move (.tmp 7), 71, "lists.go:314", #[], none⟩
def alE16_o1 : Oper := ⟨some 69, .move (.tmp 6), 3, "lists.go:314", #[], none⟩
def alE16_o2 : Oper := ⟨some 70, .binOp BinOp.sub 3 (Operand.const (Value.int IntKind.i64 (-7))) (.tmp 69) 3, 3, "lists.go:314", #[⟨1, .data⟩], none⟩
def alE16_o3 : Oper := ⟨some 71, .build 59 #[(1, .tmp 70)], 59, "lists.go:314", #[⟨2, .data⟩], none⟩
def alE16_o4 : Oper := ⟨some 72, .build 85 #[(0, .tmp 71)], 85, "lists.go:314", #[⟨3, .data⟩], none⟩
def alE16_o5 : Oper := ⟨some 73, .buildSlice 71 1 #[(0, .tmp 72)], 71, "lists.go:314", #[⟨4, .data⟩], none⟩
def alE16_o6 : Oper := ⟨some 74, .call { callee := Callee.builtin Builtin.append, args := #[.tmp 68, .tmp 73], argTypes := #[71, 71] }, 71, "lists.go:314", #[⟨0, .data⟩, ⟨5, .data⟩], none⟩
def alE16_o7 : Oper := ⟨some 7, .assign (.tmp 74), 71, "lists.go:314", #[⟨6, .data⟩, ⟨6, .chain⟩, ⟨0, .phase⟩, ⟨1, .phase⟩, ⟨2, .phase⟩, ⟨3, .phase⟩, ⟨4, .phase⟩, ⟨5, .phase⟩, ⟨6, .phase⟩], none⟩
def alE16_ops : Array Oper := #[alE16_o0, alE16_o1, alE16_o2, alE16_o3, alE16_o4, alE16_o5, alE16_o6, alE16_o7]
theorem alE16 {gv sv rv : Value} {m : Nat} {w1 w2 : World} (a : Act) (w : World) (Q : Exit → Act → World → Prop) (zz : a.tmps.size = 137)
    (t7 : a.tmps.getD 7 undef = gv)
    (t6 : a.tmps.getD 6 undef = .int .i64 (m : Int))
    (h7 : m ≤ 7700000000000) (EB : (Instr.buildSlice 71 1 #[(0, (mkE m).a)]).run Tryz.prog w = .ok sv w1) (EA : (Builtin.append_ #[71, 71] 71 #[gv, sv]).run Tryz.prog w1 = .ok rv w2)
    (h : ∀ (a' : Act) (w' : World), w' = w2 → a' = ((((((((a).put (some 68) (gv)).put (some 69) (.int .i64 (m : Int))).put (some 70) (.int .i64 (-7 - (m : Int)))).put (some 71) ((mkI m).v)).put (some 72) ((mkE m).a)).put (some 73) (sv)).put (some 74) (rv)).put (some 7) (rv) → Q .normal a' w') :
    (Code.region 16 alE16_ops false).wp Tryz.prog Q a w := by
  refine z0 rfl ?_
  refine zv rfl (exec_move rfl (zi t7 rfl)) ?_
  refine zv rfl (exec_move rfl (zi t6 rfl)) ?_
  refine zv (v := .int .i64 (-7 - (m : Int))) rfl (ex_sub7 h7 rfl rfl (zg zz rfl)) ?_
  refine zv (v := (mkI m).v) rfl (ex_bid rfl (zg zz rfl)) ?_
  refine zv (v := (mkE m).a) rfl (ex_ben1 rfl (zg zz rfl)) ?_
  refine zv (v := sv) rfl (exec_buildSlice rfl (zg zz rfl) EB) ?_
  refine zv (v := rv) rfl (exec_append rfl (zg zz rfl) (zg zz rfl) EA) ?_
  refine zv rfl (exec_assign rfl (zg zz rfl)) ?_
  exact ze rfl (h _ _ (rfl) rfl)
def alE17_o0 : Oper := ⟨some 75, .move (.tmp 5), 40, "lists.go:316", #[], none⟩
def alE17_o1 : Oper := ⟨some 76, .move (.tmp 7), 71, "lists.go:316", #[], none⟩
def alE17_o2 : Oper := ⟨some 77, .buildSlice 40 1 #[(0, .tmp 76)], 40, "lists.go:316", #[⟨1, .data⟩], none⟩
def alE17_o3 : Oper := ⟨some 78, .call { callee := Callee.builtin Builtin.append, args := #[.tmp 75, .tmp 77], argTypes := #[40, 40] }, 40, "lists.go:316", #[⟨0, .data⟩, ⟨2, .data⟩], none⟩
def alE17_o4 : Oper := ⟨some 5, .assign (.tmp 78), 40, "lists.go:316", #[⟨3, .data⟩, ⟨3, .chain⟩, ⟨0, .phase⟩, ⟨1, .phase⟩, ⟨2, .phase⟩, ⟨3, .phase⟩], none⟩
def alE17_ops : Array Oper := #[alE17_o0, alE17_o1, alE17_o2, alE17_o3, alE17_o4]
theorem alE17 {av gv sv rv : Value} {w1 w2 : World} (a : Act) (w : World) (Q : Exit → Act → World → Prop) (zz : a.tmps.size = 137)
    (t5 : a.tmps.getD 5 undef = av)
    (t7 : a.tmps.getD 7 undef = gv)
    (EB : (Instr.buildSlice 40 1 #[(0, gv)]).run Tryz.prog w = .ok sv w1) (EA : (Builtin.append_ #[40, 40] 40 #[av, sv]).run Tryz.prog w1 = .ok rv w2)
    (h : ∀ (a' : Act) (w' : World), w' = w2 → a' = (((((a).put (some 75) (av)).put (some 76) (gv)).put (some 77) (sv)).put (some 78) (rv)).put (some 5) (rv) → Q .normal a' w') :
    (Code.region 17 alE17_ops false).wp Tryz.prog Q a w := by
  refine z0 rfl ?_
  refine zv rfl (exec_move rfl (zi t5 rfl)) ?_
  refine zv rfl (exec_move rfl (zi t7 rfl)) ?_
  refine zv (v := sv) rfl (exec_buildSlice rfl (zg zz rfl) EB) ?_
  refine zv (v := rv) rfl (exec_append rfl (zg zz rfl) (zg zz rfl) EA) ?_
  refine zv rfl (exec_assign rfl (zg zz rfl)) ?_
  exact ze rfl (h _ _ (rfl) rfl)
def alE24_o0 : Oper := ⟨some 94, .move (.tmp 5), 40, "lists.go:320", #[], none⟩
def alE24_o1 : Oper := ⟨some 95, .move (.tmp 9), 3, "lists.go:320", #[], none⟩
def alE24_o2 : Oper := ⟨some 96, .indexAddr 40 (.tmp 94) (.tmp 95), 0, "lists.go:320", #[⟨0, .data⟩, ⟨1, .data⟩], none⟩
def alE24_o3 : Oper := ⟨some 97, .load 71 (.tmp 96), 71, "lists.go:320", #[⟨2, .data⟩], none⟩
def alE24_o4 : Oper := ⟨some 98, .move (.tmp 10), 3, "lists.go:320", #[], none⟩
def alE24_o5 : Oper := ⟨some 99, .indexAddr 71 (.tmp 97) (.tmp 98), 0, "lists.go:320", #[⟨3, .data⟩, ⟨4, .data⟩], none⟩
def alE24_o6 : Oper := ⟨some 100, .load 85 (.tmp 99), 85, "lists.go:320", #[⟨5, .data⟩], none⟩
def alE24_o7 : Oper := ⟨some 11, .alloc 85, 0, "lists.go:320", #[], none⟩
def alE24_o8 : Oper := ⟨none, .store 85 (.tmp 11) (.tmp 100), 0, "lists.go:320", #[⟨7, .data⟩, ⟨6, .data⟩, ⟨0, .phase⟩, ⟨1, .phase⟩, ⟨2, .phase⟩, ⟨3, .phase⟩, ⟨4, .phase⟩, ⟨5, .phase⟩, ⟨6, .phase⟩, ⟨7, .phase⟩], none⟩
def alE24_ops : Array Oper := #[alE24_o0, alE24_o1, alE24_o2, alE24_o3, alE24_o4, alE24_o5, alE24_o6, alE24_o7, alE24_o8]
theorem alE24 {eb B N cB g o n c m k : Nat} {w1 w2 : World} (a : Act) (w : World) (Q : Exit → Act → World → Prop) (zz : a.tmps.size = 137)
    (t5 : a.tmps.getD 5 undef = .slice (some ⟨B, 0, none⟩) N cB)
    (t9 : a.tmps.getD 9 undef = .int .i64 (m : Int))
    (t10 : a.tmps.getD 10 undef = .int .i64 (k : Int))
    (hm : m < N) (h63 : N ≤ 9223372036854775807) (hk : k < n) (h64 : n ≤ 9223372036854775807) (L2 : ∀ W, W = w → (Instr.loadAt 71 (.pointer (some ⟨B, 0 + m, none⟩))).run Tryz.prog W = .ok (.slice (some ⟨g, o, none⟩) n c) W) (L3 : ∀ W, W = w → (Instr.loadAt 85 (.pointer (some ⟨g, o + 37 * k, none⟩))).run Tryz.prog W = .ok ((mkE m).a) W) (EA : (Instr.alloc 85 true (.tuple #[])).run Tryz.prog w = .ok (.pointer (some ⟨eb, 0, none⟩)) w1) (ES : (Instr.storeAt 85 (.pointer (some ⟨eb, 0, none⟩)) ((mkE m).a)).run Tryz.prog w1 = .ok () w2)
    (h : ∀ (a' : Act) (w' : World), w' = w2 → a' = ((((((((a).put (some 94) (.slice (some ⟨B, 0, none⟩) N cB)).put (some 95) (.int .i64 (m : Int))).put (some 96) (.pointer (some ⟨B, 0 + m, none⟩))).put (some 97) (.slice (some ⟨g, o, none⟩) n c)).put (some 98) (.int .i64 (k : Int))).put (some 99) (.pointer (some ⟨g, o + 37 * k, none⟩))).put (some 100) ((mkE m).a)).put (some 11) (.pointer (some ⟨eb, 0, none⟩)) → Q .normal a' w') :
    (Code.region 24 alE24_ops false).wp Tryz.prog Q a w := by
  refine z0 rfl ?_
  refine zv rfl (exec_move rfl (zi t5 rfl)) ?_
  refine zv rfl (exec_move rfl (zi t9 rfl)) ?_
  refine zv rfl (exec_indexAt rfl (zg zz rfl) (zg zz rfl) (ix_ee hm h63 _)) ?_
  refine zv rfl (exec_load rfl (zg zz rfl) (L2 _ rfl)) ?_
  refine zv rfl (exec_move rfl (zi t10 rfl)) ?_
  refine zv rfl (exec_indexAt rfl (zg zz rfl) (zg zz rfl) (ix_en hk h64 _)) ?_
  refine zv rfl (exec_load rfl (zg zz rfl) (L3 _ rfl)) ?_
  refine zv (v := .pointer (some ⟨eb, 0, none⟩)) rfl (exec_alloc rfl EA) ?_
  refine zs rfl (exec_store rfl (zg zz rfl) (zg zz rfl) ES) ?_
  exact ze rfl (h _ _ (rfl) rfl)
def alE25_o0 : Oper := ⟨some 101, .fieldAddr 85 (.tmp 11) 0, 0, "lists.go:321", #[], none⟩
def alE25_o1 : Oper := ⟨some 102, .load 59 (.tmp 101), 59, "lists.go:321", #[⟨0, .data⟩], none⟩
def alE25_o2 : Oper := ⟨some 103, .move (.tmp 9), 3, "lists.go:321", #[], none⟩
def alE25_o3 : Oper := ⟨some 104, .binOp BinOp.sub 3 (Operand.const (Value.int IntKind.i64 (-7))) (.tmp 103) 3, 3, "lists.go:321", #[⟨2, .data⟩], none⟩
def alE25_o4 : Oper := ⟨some 105, .build 59 #[(1, .tmp 104)], 59, "lists.go:321", #[⟨3, .data⟩], none⟩
def alE25_o5 : Oper := ⟨some 106, .binOp BinOp.eql 59 (.tmp 102) (.tmp 105) 59, 4, "lists.go:321", #[⟨1, .data⟩, ⟨4, .data⟩], none⟩
def alE25_o6 : Oper := ⟨some 107, .unOp UnOp.not 4 (.tmp 106), 4, "lists.go:321", #[⟨5, .data⟩], none⟩
def alE25_ops : Array Oper := #[alE25_o0, alE25_o1, alE25_o2, alE25_o3, alE25_o4, alE25_o5, alE25_o6]
theorem alE25 {eb m : Nat} (a : Act) (w : World) (Q : Exit → Act → World → Prop) (zz : a.tmps.size = 137)
    (t11 : a.tmps.getD 11 undef = .pointer (some ⟨eb, 0, none⟩))
    (t9 : a.tmps.getD 9 undef = .int .i64 (m : Int))
    (h7 : m ≤ 7700000000000) (L1 : ∀ W, W = w → (Instr.loadAt 59 (.pointer (some ⟨eb, 0 + 0, none⟩))).run Tryz.prog W = .ok ((mkI m).v) W)
    (h : ∀ (a' : Act) (w' : World), w' = w → a' = (((((((a).put (some 101) (.pointer (some ⟨eb, 0 + 0, none⟩))).put (some 102) ((mkI m).v)).put (some 103) (.int .i64 (m : Int))).put (some 104) (.int .i64 (-7 - (m : Int)))).put (some 105) ((mkI m).v)).put (some 106) (.bool true)).put (some 107) (.bool false) → Q .normal a' w') :
    (Code.region 25 alE25_ops false).wp Tryz.prog Q a w := by
  refine z0 rfl ?_
  refine zv rfl (exec_fieldAt rfl (zi t11 rfl) (fg_85_0 _ _ _)) ?_
  refine zv rfl (exec_load rfl (zg zz rfl) (L1 _ rfl)) ?_
  refine zv rfl (exec_move rfl (zi t9 rfl)) ?_
  refine zv (v := .int .i64 (-7 - (m : Int))) rfl (ex_sub7 h7 rfl rfl (zg zz rfl)) ?_
  refine zv (v := (mkI m).v) rfl (ex_bid rfl (zg zz rfl)) ?_
  refine zv (v := .bool true) rfl (ex_eqX (mkI_ok h7) rfl (zg zz rfl) (zg zz rfl)) ?_
  refine zv rfl (exec_not rfl (zg zz rfl)) ?_
  exact ze rfl (h _ _ (rfl) rfl)
def alE30_o0 : Oper := ⟨some 120, .move (.tmp 0), 34, "lists.go:326", #[], none⟩
def alE30_o1 : Oper := ⟨some 121, .nilCheck (.tmp 120), 0, "lists.go:326", #[⟨0, .data⟩], none⟩
def alE30_o2 : Oper := ⟨some 122, .fieldAddr 54 (.tmp 121) 5, 0, "lists.go:326", #[⟨1, .data⟩], none⟩
def alE30_o3 : Oper := ⟨some 123, .load 40 (.tmp 122), 40, "lists.go:326", #[⟨2, .data⟩], none⟩
def alE30_o4 : Oper := ⟨some 124, .move (.tmp 9), 3, "lists.go:326", #[], none⟩
def alE30_o5 : Oper := ⟨some 125, .indexAddr 40 (.tmp 123) (.tmp 124), 0, "lists.go:326", #[⟨3, .data⟩, ⟨4, .data⟩], none⟩
def alE30_o6 : Oper := ⟨some 126, .load 71 (.tmp 125), 71, "lists.go:326", #[⟨5, .data⟩], none⟩
def alE30_o7 : Oper := ⟨some 127, .move (.tmp 12), 3, "lists.go:326", #[], none⟩
def alE30_o8 : Oper := ⟨some 128, .indexAddr 71 (.tmp 126) (.tmp 127), 0, "lists.go:326", #[⟨6, .data⟩, ⟨7, .data⟩], none⟩
def alE30_o9 : Oper := ⟨some 129, .load 85 (.tmp 128), 85, "lists.go:326", #[⟨8, .data⟩], none⟩
def alE30_o10 : Oper := ⟨some 13, .alloc 85, 0, "lists.go:326", #[], none⟩
def alE30_o11 : Oper := ⟨none, .store 85 (.tmp 13) (.tmp 129), 0, "lists.go:326", #[⟨10, .data⟩, ⟨9, .data⟩, ⟨0, .phase⟩, ⟨1, .phase⟩, ⟨2, .phase⟩, ⟨3, .phase⟩, ⟨4, .phase⟩, ⟨5, .phase⟩, ⟨6, .phase⟩, ⟨7, .phase⟩, ⟨8, .phase⟩, ⟨9, .phase⟩, ⟨10, .phase⟩], none⟩
def alE30_ops : Array Oper := #[alE30_o0, alE30_o1, alE30_o2, alE30_o3, alE30_o4, alE30_o5, alE30_o6, alE30_o7, alE30_o8, alE30_o9, alE30_o10, alE30_o11]
theorem alE30 {eb q B N cB g o n c m k : Nat} {w1 w2 : World} (a : Act) (w : World) (Q : Exit → Act → World → Prop) (zz : a.tmps.size = 137)
    (t0 : a.tmps.getD 0 undef = .pointer (some ⟨q, 0, none⟩))
    (t9 : a.tmps.getD 9 undef = .int .i64 (m : Int))
    (t12 : a.tmps.getD 12 undef = .int .i64 (k : Int))
    (hm : m < N) (h63 : N ≤ 9223372036854775807) (hk : k < n) (h64 : n ≤ 9223372036854775807) (L1 : ∀ W, W = w → (Instr.loadAt 40 (.pointer (some ⟨q, 0 + 5, none⟩))).run Tryz.prog W = .ok (.slice (some ⟨B, 0, none⟩) N cB) W) (L2 : ∀ W, W = w → (Instr.loadAt 71 (.pointer (some ⟨B, 0 + m, none⟩))).run Tryz.prog W = .ok (.slice (some ⟨g, o, none⟩) n c) W) (L3 : ∀ W, W = w → (Instr.loadAt 85 (.pointer (some ⟨g, o + 37 * k, none⟩))).run Tryz.prog W = .ok ((mkE m).a) W) (EA : (Instr.alloc 85 true (.tuple #[])).run Tryz.prog w = .ok (.pointer (some ⟨eb, 0, none⟩)) w1) (ES : (Instr.storeAt 85 (.pointer (some ⟨eb, 0, none⟩)) ((mkE m).a)).run Tryz.prog w1 = .ok () w2)
    (h : ∀ (a' : Act) (w' : World), w' = w2 → a' = (((((((((((a).put (some 120) (.pointer (some ⟨q, 0, none⟩))).put (some 121) (.pointer (some ⟨q, 0, none⟩))).put (some 122) (.pointer (some ⟨q, 0 + 5, none⟩))).put (some 123) (.slice (some ⟨B, 0, none⟩) N cB)).put (some 124) (.int .i64 (m : Int))).put (some 125) (.pointer (some ⟨B, 0 + m, none⟩))).put (some 126) (.slice (some ⟨g, o, none⟩) n c)).put (some 127) (.int .i64 (k : Int))).put (some 128) (.pointer (some ⟨g, o + 37 * k, none⟩))).put (some 129) ((mkE m).a)).put (some 13) (.pointer (some ⟨eb, 0, none⟩)) → Q .normal a' w') :
    (Code.region 30 alE30_ops false).wp Tryz.prog Q a w := by
  refine z0 rfl ?_
  refine zv rfl (exec_move rfl (zi t0 rfl)) ?_
  refine zv rfl (exec_nilCheck rfl (zg zz rfl)) ?_
  refine zv rfl (exec_fieldAt rfl (zg zz rfl) (fg_54_5 _ _ _)) ?_
  refine zv rfl (exec_load rfl (zg zz rfl) (L1 _ rfl)) ?_
  refine zv rfl (exec_move rfl (zi t9 rfl)) ?_
  refine zv rfl (exec_indexAt rfl (zg zz rfl) (zg zz rfl) (ix_ee hm h63 _)) ?_
  refine zv rfl (exec_load rfl (zg zz rfl) (L2 _ rfl)) ?_
  refine zv rfl (exec_move rfl (zi t12 rfl)) ?_
  refine zv rfl (exec_indexAt rfl (zg zz rfl) (zg zz rfl) (ix_en hk h64 _)) ?_
  refine zv rfl (exec_load rfl (zg zz rfl) (L3 _ rfl)) ?_
  refine zv (v := .pointer (some ⟨eb, 0, none⟩)) rfl (exec_alloc rfl EA) ?_
  refine zs rfl (exec_store rfl (zg zz rfl) (zg zz rfl) ES) ?_
  exact ze rfl (h _ _ (rfl) rfl)
def alE31_o0 : Oper := ⟨some 130, .fieldAddr 85 (.tmp 13) 0, 0, "lists.go:327", #[], none⟩
def alE31_o1 : Oper := ⟨some 131, .load 59 (.tmp 130), 59, "lists.go:327", #[⟨0, .data⟩], none⟩
def alE31_o2 : Oper := ⟨some 132, .move (.tmp 9), 3, "lists.go:327", #[], none⟩
def alE31_o3 : Oper := ⟨some 133, .binOp BinOp.sub 3 (Operand.const (Value.int IntKind.i64 (-7))) (.tmp 132) 3, 3, "lists.go:327", #[⟨2, .data⟩], none⟩
def alE31_o4 : Oper := ⟨some 134, .build 59 #[(1, .tmp 133)], 59, "lists.go:327", #[⟨3, .data⟩], none⟩
def alE31_o5 : Oper := ⟨some 135, .binOp BinOp.eql 59 (.tmp 131) (.tmp 134) 59, 4, "lists.go:327", #[⟨1, .data⟩, ⟨4, .data⟩], none⟩
def alE31_o6 : Oper := ⟨some 136, .unOp UnOp.not 4 (.tmp 135), 4, "lists.go:327", #[⟨5, .data⟩], none⟩
def alE31_ops : Array Oper := #[alE31_o0, alE31_o1, alE31_o2, alE31_o3, alE31_o4, alE31_o5, alE31_o6]
theorem alE31 {eb m : Nat} (a : Act) (w : World) (Q : Exit → Act → World → Prop) (zz : a.tmps.size = 137)
    (t13 : a.tmps.getD 13 undef = .pointer (some ⟨eb, 0, none⟩))
    (t9 : a.tmps.getD 9 undef = .int .i64 (m : Int))
    (h7 : m ≤ 7700000000000) (L1 : ∀ W, W = w → (Instr.loadAt 59 (.pointer (some ⟨eb, 0 + 0, none⟩))).run Tryz.prog W = .ok ((mkI m).v) W)
    (h : ∀ (a' : Act) (w' : World), w' = w → a' = (((((((a).put (some 130) (.pointer (some ⟨eb, 0 + 0, none⟩))).put (some 131) ((mkI m).v)).put (some 132) (.int .i64 (m : Int))).put (some 133) (.int .i64 (-7 - (m : Int)))).put (some 134) ((mkI m).v)).put (some 135) (.bool true)).put (some 136) (.bool false) → Q .normal a' w') :
    (Code.region 31 alE31_ops false).wp Tryz.prog Q a w := by
  refine z0 rfl ?_
  refine zv rfl (exec_fieldAt rfl (zi t13 rfl) (fg_85_0 _ _ _)) ?_
  refine zv rfl (exec_load rfl (zg zz rfl) (L1 _ rfl)) ?_
  refine zv rfl (exec_move rfl (zi t9 rfl)) ?_
  refine zv (v := .int .i64 (-7 - (m : Int))) rfl (ex_sub7 h7 rfl rfl (zg zz rfl)) ?_
  refine zv (v := (mkI m).v) rfl (ex_bid rfl (zg zz rfl)) ?_
  refine zv (v := .bool true) rfl (ex_eqX (mkI_ok h7) rfl (zg zz rfl) (zg zz rfl)) ?_
  refine zv rfl (exec_not rfl (zg zz rfl)) ?_
  exact ze rfl (h _ _ (rfl) rfl)
def alT7_o0 : Oper := ⟨some 35, .move (.tmp 0), 34, "lists.go:245", #[], none⟩
def alT7_o1 : Oper := ⟨some 36, .nilCheck (.tmp 35), 0, "lists.go:245", #[⟨0, .data⟩], none⟩
def alT7_o2 : Oper := ⟨some 37, .fieldAddr 54 (.tmp 36) 3, 0, "lists.go:245", #[⟨1, .data⟩], none⟩
def alT7_o3 : Oper := ⟨some 38, .load 38 (.tmp 37), 38, "lists.go:245", #[⟨2, .data⟩], none⟩
def alT7_o4 : Oper := ⟨some 39, .move (.tmp 3), 3, "lists.go:245", #[], none⟩
def alT7_o5 : Oper := ⟨some 40, .indexAddr 38 (.tmp 38) (.tmp 39), 0, "lists.go:245", #[⟨3, .data⟩, ⟨4, .data⟩], none⟩
def alT7_o6 : Oper := ⟨some 41, .load 74 (.tmp 40), 74, "lists.go:245", #[⟨5, .data⟩], none⟩
def alT7_o7 : Oper := ⟨some 42, .move (.tmp 4), 3, "lists.go:245", #[], none⟩
def alT7_o8 : Oper := ⟨some 43, .move (.tmp 3), 3, "lists.go:245", #[], none⟩
def alT7_o9 : Oper := ⟨some 44, .call { callee := Callee.value (Operand.func 79), args := #[.tmp 43], argTypes := #[3] }, 9, "lists.go:245", #[⟨8, .data⟩], none⟩
def alT7_o10 : Oper := ⟨some 45, .indexAddr 74 (.tmp 41) (.tmp 42), 0, "lists.go:245", #[⟨6, .data⟩, ⟨7, .data⟩, ⟨0, .phase⟩, ⟨1, .phase⟩, ⟨2, .phase⟩, ⟨3, .phase⟩, ⟨4, .phase⟩, ⟨5, .phase⟩, ⟨6, .phase⟩, ⟨7, .phase⟩, ⟨8, .phase⟩, ⟨9, .phase⟩], none⟩
def alT7_o11 : Oper := ⟨none, .store 9 (.tmp 45) (.tmp 44), 0, "lists.go:245", #[⟨10, .data⟩, ⟨9, .data⟩, ⟨9, .chain⟩, ⟨0, .phase⟩, ⟨1, .phase⟩, ⟨2, .phase⟩, ⟨3, .phase⟩, ⟨4, .phase⟩, ⟨5, .phase⟩, ⟨6, .phase⟩, ⟨7, .phase⟩, ⟨8, .phase⟩, ⟨9, .phase⟩], none⟩
def alT7_ops : Array Oper := #[alT7_o0, alT7_o1, alT7_o2, alT7_o3, alT7_o4, alT7_o5, alT7_o6, alT7_o7, alT7_o8, alT7_o9, alT7_o10, alT7_o11]
theorem alT7 {q B N cB g o n c m k : Nat} {TX : ByteArray} (S Fin : World → Prop) (a : Act) (w : World) (Q : Exit → Act → World → Prop) (zz : a.tmps.size = 129)
    (t0 : a.tmps.getD 0 undef = .pointer (some ⟨q, 0, none⟩))
    (t3 : a.tmps.getD 3 undef = .int .i64 (m : Int))
    (t4 : a.tmps.getD 4 undef = .int .i64 (k : Int))
    (hm : m < N) (h63 : N ≤ 9223372036854775807) (hk : k < n) (h64 : n ≤ 9223372036854775807) (h0 : S w.drew) (L1 : ∀ W, S W → (Instr.loadAt 38 (.pointer (some ⟨q, 0 + 3, none⟩))).run Tryz.prog W = .ok (.slice (some ⟨B, 0, none⟩) N cB) W) (L2 : ∀ W, S W → (Instr.loadAt 74 (.pointer (some ⟨B, 0 + m, none⟩))).run Tryz.prog W = .ok (.slice (some ⟨g, o, none⟩) n c) W) (CT : Calls Tryz.prog 79 #[.int .i64 (m : Int)] w.drew fun e w1 => e = .returned (.string TX) ∧ S w1 ∧ ∃ w2, (Instr.storeAt 9 (.pointer (some ⟨g, o + k, none⟩)) (.string TX)).run Tryz.prog w1 = .ok () w2 ∧ Fin w2)
    (h : ∀ (a' : Act) (w' : World), Fin w' → a' = (((((((((((a).put (some 35) (.pointer (some ⟨q, 0, none⟩))).put (some 36) (.pointer (some ⟨q, 0, none⟩))).put (some 37) (.pointer (some ⟨q, 0 + 3, none⟩))).put (some 38) (.slice (some ⟨B, 0, none⟩) N cB)).put (some 39) (.int .i64 (m : Int))).put (some 40) (.pointer (some ⟨B, 0 + m, none⟩))).put (some 41) (.slice (some ⟨g, o, none⟩) n c)).put (some 42) (.int .i64 (k : Int))).put (some 43) (.int .i64 (m : Int))).put (some 44) (.string TX)).put (some 45) (.pointer (some ⟨g, o + k, none⟩)) → Q .normal a' w') :
    (Code.region 7 alT7_ops true).wp Tryz.prog Q a w := by
  refine x0 11 (fun w' => S w') (h0) (fun hHeld => ?_)
  refine xv 0 rfl rfl (fun w1 hw => exec_move rfl (zi t0 rfl)) hHeld ?_
  refine xv 1 rfl rfl (fun w1 hw => exec_nilCheck rfl (zg zz rfl)) hHeld ?_
  refine xv 2 rfl rfl (fun w1 hw => exec_fieldAt rfl (zg zz rfl) (fg_54_3 _ _ _)) hHeld ?_
  refine xv 3 rfl rfl (fun w1 hw => exec_load rfl (zg zz rfl) (L1 _ hw)) hHeld ?_
  refine xv 4 rfl rfl (fun w1 hw => exec_move rfl (zi t3 rfl)) hHeld ?_
  refine xv 5 rfl rfl (fun w1 hw => exec_indexAt rfl (zg zz rfl) (zg zz rfl) (ix_tt hm h63 _)) hHeld ?_
  refine xv 6 rfl rfl (fun w1 hw => exec_load rfl (zg zz rfl) (L2 _ hw)) hHeld ?_
  refine xv 7 rfl rfl (fun w1 hw => exec_move rfl (zi t4 rfl)) hHeld ?_
  refine xv 8 rfl rfl (fun w1 hw => exec_move rfl (zi t3 rfl)) hHeld ?_
  refine xc 9 rfl rfl (exec_c1 rfl (zg zz rfl)) (CT) (fun e x9 hx => ?_)
  obtain ⟨rfl, S1, w2, ES, HF⟩ := hx
  refine ⟨_, rfl, fun _ => S1, fun hHeld => ?_⟩
  replace hHeld := hHeld (by decide)
  refine xv 10 rfl rfl (fun w1 hw => exec_indexAt rfl (zg zz rfl) (zg zz rfl) (ix_tl hk h64 _)) hHeld ?_
  refine xs 11 rfl rfl (exec_store rfl (zg zz rfl) (zg zz rfl) ES) (fun hne => absurd rfl hne) (fun _ => ?_)
  exact xe rfl (h _ _ (HF) rfl)
def alT16_o0 : Oper := ⟨some 66, .move (.tmp 7), 74, "lists.go:252", #[], none⟩
def alT16_o1 : Oper := ⟨some 67, .move (.tmp 6), 3, "lists.go:252", #[], none⟩
def alT16_o2 : Oper := ⟨some 68, .call { callee := Callee.value (Operand.func 79), args := #[.tmp 67], argTypes := #[3] }, 9, "lists.go:252", #[⟨1, .data⟩], none⟩
def alT16_o3 : Oper := ⟨some 69, .buildSlice 74 1 #[(0, .tmp 68)], 74, "lists.go:252", #[⟨2, .data⟩], none⟩
def alT16_o4 : Oper := ⟨some 70, .call { callee := Callee.builtin Builtin.append, args := #[.tmp 66, .tmp 69], argTypes := #[74, 74] }, 74, "lists.go:252", #[⟨0, .data⟩, ⟨3, .data⟩, ⟨2, .chain⟩], none⟩
def alT16_o5 : Oper := ⟨some 7, .assign (.tmp 70), 74, "lists.go:252", #[⟨4, .data⟩, ⟨4, .chain⟩, ⟨0, .phase⟩, ⟨1, .phase⟩, ⟨2, .phase⟩, ⟨3, .phase⟩, ⟨4, .phase⟩], none⟩
def alT16_ops : Array Oper := #[alT16_o0, alT16_o1, alT16_o2, alT16_o3, alT16_o4, alT16_o5]
theorem alT16 {gv : Value} {m : Nat} {TX : ByteArray} (Fin : Value → World → Prop) (a : Act) (w : World) (Q : Exit → Act → World → Prop) (zz : a.tmps.size = 129)
    (t7 : a.tmps.getD 7 undef = gv)
    (t6 : a.tmps.getD 6 undef = .int .i64 (m : Int))
    (CT : Calls Tryz.prog 79 #[.int .i64 (m : Int)] w fun e w1 => e = .returned (.string TX) ∧ ∃ sv w2 rv w3, (Instr.buildSlice 74 1 #[(0, .string TX)]).run Tryz.prog w1 = .ok sv w2 ∧ (Builtin.append_ #[74, 74] 74 #[gv, sv]).run Tryz.prog w2 = .ok rv w3 ∧ Fin rv w3)
    (h : ∀ (sv rv : Value) (a' : Act) (w' : World), Fin rv w' → a' = ((((((a).put (some 66) (gv)).put (some 67) (.int .i64 (m : Int))).put (some 68) (.string TX)).put (some 69) (sv)).put (some 70) (rv)).put (some 7) (rv) → Q .normal a' w') :
    (Code.region 16 alT16_ops false).wp Tryz.prog Q a w := by
  refine z0 rfl ?_
  refine zv rfl (exec_move rfl (zi t7 rfl)) ?_
  refine zv rfl (exec_move rfl (zi t6 rfl)) ?_
  refine zc rfl (exec_c1 rfl (zg zz rfl)) (CT) (fun e x2 hx => ?_)
  obtain ⟨rfl, sv, w2, rv, w3, EB, EA, HF⟩ := hx
  replace h := h sv rv
  refine ⟨_, rfl, ?_⟩
  refine zv (v := sv) rfl (exec_buildSlice rfl (zg zz rfl) EB) ?_
  refine zv (v := rv) rfl (exec_append rfl (zg zz rfl) (zg zz rfl) EA) ?_
  refine zv rfl (exec_assign rfl (zg zz rfl)) ?_
  exact ze rfl (h _ _ (HF) rfl)
def alT17_o0 : Oper := ⟨some 71, .move (.tmp 5), 38, "lists.go:254", #[], none⟩
def alT17_o1 : Oper := ⟨some 72, .move (.tmp 7), 74, "lists.go:254", #[], none⟩
def alT17_o2 : Oper := ⟨some 73, .buildSlice 38 1 #[(0, .tmp 72)], 38, "lists.go:254", #[⟨1, .data⟩], none⟩
def alT17_o3 : Oper := ⟨some 74, .call { callee := Callee.builtin Builtin.append, args := #[.tmp 71, .tmp 73], argTypes := #[38, 38] }, 38, "lists.go:254", #[⟨0, .data⟩, ⟨2, .data⟩], none⟩
def alT17_o4 : Oper := ⟨some 5, .assign (.tmp 74), 38, "lists.go:254", #[⟨3, .data⟩, ⟨3, .chain⟩, ⟨0, .phase⟩, ⟨1, .phase⟩, ⟨2, .phase⟩, ⟨3, .phase⟩], none⟩
def alT17_ops : Array Oper := #[alT17_o0, alT17_o1, alT17_o2, alT17_o3, alT17_o4]
theorem alT17 {av gv sv rv : Value} {w1 w2 : World} (a : Act) (w : World) (Q : Exit → Act → World → Prop) (zz : a.tmps.size = 129)
    (t5 : a.tmps.getD 5 undef = av)
    (t7 : a.tmps.getD 7 undef = gv)
    (EB : (Instr.buildSlice 38 1 #[(0, gv)]).run Tryz.prog w = .ok sv w1) (EA : (Builtin.append_ #[38, 38] 38 #[av, sv]).run Tryz.prog w1 = .ok rv w2)
    (h : ∀ (a' : Act) (w' : World), w' = w2 → a' = (((((a).put (some 71) (av)).put (some 72) (gv)).put (some 73) (sv)).put (some 74) (rv)).put (some 5) (rv) → Q .normal a' w') :
    (Code.region 17 alT17_ops false).wp Tryz.prog Q a w := by
  refine z0 rfl ?_
  refine zv rfl (exec_move rfl (zi t5 rfl)) ?_
  refine zv rfl (exec_move rfl (zi t7 rfl)) ?_
  refine zv (v := sv) rfl (exec_buildSlice rfl (zg zz rfl) EB) ?_
  refine zv (v := rv) rfl (exec_append rfl (zg zz rfl) (zg zz rfl) EA) ?_
  refine zv rfl (exec_assign rfl (zg zz rfl)) ?_
  exact ze rfl (h _ _ (rfl) rfl)
def alT24_o0 : Oper := ⟨some 90, .move (.tmp 5), 38, "lists.go:258", #[], none⟩
def alT24_o1 : Oper := ⟨some 91, .move (.tmp 9), 3, "lists.go:258", #[], none⟩
def alT24_o2 : Oper := ⟨some 92, .indexAddr 38 (.tmp 90) (.tmp 91), 0, "lists.go:258", #[⟨0, .data⟩, ⟨1, .data⟩], none⟩
def alT24_o3 : Oper := ⟨some 93, .load 74 (.tmp 92), 74, "lists.go:258", #[⟨2, .data⟩], none⟩
def alT24_o4 : Oper := ⟨some 94, .move (.tmp 10), 3, "lists.go:258", #[], none⟩
def alT24_o5 : Oper := ⟨some 95, .indexAddr 74 (.tmp 93) (.tmp 94), 0, "lists.go:258", #[⟨3, .data⟩, ⟨4, .data⟩], none⟩
def alT24_o6 : Oper := ⟨some 96, .load 9 (.tmp 95), 9, "lists.go:258", #[⟨5, .data⟩], none⟩
def alT24_o7 : Oper := ⟨some 11, .assign (.tmp 96), 9, "lists.go:258", #[⟨6, .data⟩, ⟨0, .phase⟩, ⟨1, .phase⟩, ⟨2, .phase⟩, ⟨3, .phase⟩, ⟨4, .phase⟩, ⟨5, .phase⟩, ⟨6, .phase⟩], none⟩
def alT24_ops : Array Oper := #[alT24_o0, alT24_o1, alT24_o2, alT24_o3, alT24_o4, alT24_o5, alT24_o6, alT24_o7]
theorem alT24 {B N cB g o n c m k : Nat} {TX : ByteArray} (a : Act) (w : World) (Q : Exit → Act → World → Prop) (zz : a.tmps.size = 129)
    (t5 : a.tmps.getD 5 undef = .slice (some ⟨B, 0, none⟩) N cB)
    (t9 : a.tmps.getD 9 undef = .int .i64 (m : Int))
    (t10 : a.tmps.getD 10 undef = .int .i64 (k : Int))
    (hm : m < N) (h63 : N ≤ 9223372036854775807) (hk : k < n) (h64 : n ≤ 9223372036854775807) (L2 : ∀ W, W = w → (Instr.loadAt 74 (.pointer (some ⟨B, 0 + m, none⟩))).run Tryz.prog W = .ok (.slice (some ⟨g, o, none⟩) n c) W) (L3 : ∀ W, W = w → (Instr.loadAt 9 (.pointer (some ⟨g, o + k, none⟩))).run Tryz.prog W = .ok (.string TX) W)
    (h : ∀ (a' : Act) (w' : World), w' = w → a' = ((((((((a).put (some 90) (.slice (some ⟨B, 0, none⟩) N cB)).put (some 91) (.int .i64 (m : Int))).put (some 92) (.pointer (some ⟨B, 0 + m, none⟩))).put (some 93) (.slice (some ⟨g, o, none⟩) n c)).put (some 94) (.int .i64 (k : Int))).put (some 95) (.pointer (some ⟨g, o + k, none⟩))).put (some 96) (.string TX)).put (some 11) (.string TX) → Q .normal a' w') :
    (Code.region 24 alT24_ops false).wp Tryz.prog Q a w := by
  refine z0 rfl ?_
  refine zv rfl (exec_move rfl (zi t5 rfl)) ?_
  refine zv rfl (exec_move rfl (zi t9 rfl)) ?_
  refine zv rfl (exec_indexAt rfl (zg zz rfl) (zg zz rfl) (ix_tt hm h63 _)) ?_
  refine zv rfl (exec_load rfl (zg zz rfl) (L2 _ rfl)) ?_
  refine zv rfl (exec_move rfl (zi t10 rfl)) ?_
  refine zv rfl (exec_indexAt rfl (zg zz rfl) (zg zz rfl) (ix_tl hk h64 _)) ?_
  refine zv rfl (exec_load rfl (zg zz rfl) (L3 _ rfl)) ?_
  refine zv rfl (exec_assign rfl (zg zz rfl)) ?_
  exact ze rfl (h _ _ (rfl) rfl)
def alT25_o0 : Oper := ⟨some 97, .move (.tmp 11), 9, "lists.go:259", #[], none⟩
def alT25_o1 : Oper := ⟨some 98, .move (.tmp 9), 3, "lists.go:259", #[], none⟩
def alT25_o2 : Oper := ⟨some 99, .call { callee := Callee.value (Operand.func 79), args := #[.tmp 98], argTypes := #[3] }, 9, "lists.go:259", #[⟨1, .data⟩], none⟩
def alT25_o3 : Oper := ⟨some 100, .binOp BinOp.eql 9 (.tmp 97) (.tmp 99) 9, 4, "lists.go:259", #[⟨0, .data⟩, ⟨2, .data⟩], none⟩
def alT25_o4 : Oper := ⟨some 101, .unOp UnOp.not 4 (.tmp 100), 4, "lists.go:259", #[⟨3, .data⟩], none⟩
def alT25_ops : Array Oper := #[alT25_o0, alT25_o1, alT25_o2, alT25_o3, alT25_o4]
theorem alT25 {m : Nat} {TX : ByteArray} (Fin : World → Prop) (a : Act) (w : World) (Q : Exit → Act → World → Prop) (zz : a.tmps.size = 129)
    (t11 : a.tmps.getD 11 undef = .string TX)
    (t9 : a.tmps.getD 9 undef = .int .i64 (m : Int))
    (CT : Calls Tryz.prog 79 #[.int .i64 (m : Int)] w fun e w1 => e = .returned (.string TX) ∧ Fin w1)
    (h : ∀ (a' : Act) (w' : World), Fin w' → a' = (((((a).put (some 97) (.string TX)).put (some 98) (.int .i64 (m : Int))).put (some 99) (.string TX)).put (some 100) (.bool true)).put (some 101) (.bool false) → Q .normal a' w') :
    (Code.region 25 alT25_ops false).wp Tryz.prog Q a w := by
  refine z0 rfl ?_
  refine zv rfl (exec_move rfl (zi t11 rfl)) ?_
  refine zv rfl (exec_move rfl (zi t9 rfl)) ?_
  refine zc rfl (exec_c1 rfl (zg zz rfl)) (CT) (fun e x2 hx => ?_)
  obtain ⟨rfl, HF⟩ := hx
  refine ⟨_, rfl, ?_⟩
  refine zv (v := .bool true) rfl (ex_eqT rfl (zg zz rfl) (zg zz rfl)) ?_
  refine zv rfl (exec_not rfl (zg zz rfl)) ?_
  exact ze rfl (h _ _ (HF) rfl)
def alT30_o0 : Oper := ⟨some 114, .move (.tmp 0), 34, "lists.go:264", #[], none⟩
def alT30_o1 : Oper := ⟨some 115, .nilCheck (.tmp 114), 0, "lists.go:264", #[⟨0, .data⟩], none⟩
def alT30_o2 : Oper := ⟨some 116, .fieldAddr 54 (.tmp 115) 3, 0, "lists.go:264", #[⟨1, .data⟩], none⟩
def alT30_o3 : Oper := ⟨some 117, .load 38 (.tmp 116), 38, "lists.go:264", #[⟨2, .data⟩], none⟩
def alT30_o4 : Oper := ⟨some 118, .move (.tmp 9), 3, "lists.go:264", #[], none⟩
def alT30_o5 : Oper := ⟨some 119, .indexAddr 38 (.tmp 117) (.tmp 118), 0, "lists.go:264", #[⟨3, .data⟩, ⟨4, .data⟩], none⟩
def alT30_o6 : Oper := ⟨some 120, .load 74 (.tmp 119), 74, "lists.go:264", #[⟨5, .data⟩], none⟩
def alT30_o7 : Oper := ⟨some 121, .move (.tmp 12), 3, "lists.go:264", #[], none⟩
def alT30_o8 : Oper := ⟨some 122, .indexAddr 74 (.tmp 120) (.tmp 121), 0, "lists.go:264", #[⟨6, .data⟩, ⟨7, .data⟩], none⟩
def alT30_o9 : Oper := ⟨some 123, .load 9 (.tmp 122), 9, "lists.go:264", #[⟨8, .data⟩], none⟩
def alT30_o10 : Oper := ⟨some 13, .assign (.tmp 123), 9, "lists.go:264", #[⟨9, .data⟩, ⟨0, .phase⟩, ⟨1, .phase⟩, ⟨2, .phase⟩, ⟨3, .phase⟩, ⟨4, .phase⟩, ⟨5, .phase⟩, ⟨6, .phase⟩, ⟨7, .phase⟩, ⟨8, .phase⟩, ⟨9, .phase⟩], none⟩
def alT30_ops : Array Oper := #[alT30_o0, alT30_o1, alT30_o2, alT30_o3, alT30_o4, alT30_o5, alT30_o6, alT30_o7, alT30_o8, alT30_o9, alT30_o10]
theorem alT30 {q B N cB g o n c m k : Nat} {TX : ByteArray} (a : Act) (w : World) (Q : Exit → Act → World → Prop) (zz : a.tmps.size = 129)
    (t0 : a.tmps.getD 0 undef = .pointer (some ⟨q, 0, none⟩))
    (t9 : a.tmps.getD 9 undef = .int .i64 (m : Int))
    (t12 : a.tmps.getD 12 undef = .int .i64 (k : Int))
    (hm : m < N) (h63 : N ≤ 9223372036854775807) (hk : k < n) (h64 : n ≤ 9223372036854775807) (L1 : ∀ W, W = w → (Instr.loadAt 38 (.pointer (some ⟨q, 0 + 3, none⟩))).run Tryz.prog W = .ok (.slice (some ⟨B, 0, none⟩) N cB) W) (L2 : ∀ W, W = w → (Instr.loadAt 74 (.pointer (some ⟨B, 0 + m, none⟩))).run Tryz.prog W = .ok (.slice (some ⟨g, o, none⟩) n c) W) (L3 : ∀ W, W = w → (Instr.loadAt 9 (.pointer (some ⟨g, o + k, none⟩))).run Tryz.prog W = .ok (.string TX) W)
    (h : ∀ (a' : Act) (w' : World), w' = w → a' = (((((((((((a).put (some 114) (.pointer (some ⟨q, 0, none⟩))).put (some 115) (.pointer (some ⟨q, 0, none⟩))).put (some 116) (.pointer (some ⟨q, 0 + 3, none⟩))).put (some 117) (.slice (some ⟨B, 0, none⟩) N cB)).put (some 118) (.int .i64 (m : Int))).put (some 119) (.pointer (some ⟨B, 0 + m, none⟩))).put (some 120) (.slice (some ⟨g, o, none⟩) n c)).put (some 121) (.int .i64 (k : Int))).put (some 122) (.pointer (some ⟨g, o + k, none⟩))).put (some 123) (.string TX)).put (some 13) (.string TX) → Q .normal a' w') :
    (Code.region 30 alT30_ops false).wp Tryz.prog Q a w := by
  refine z0 rfl ?_
  refine zv rfl (exec_move rfl (zi t0 rfl)) ?_
  refine zv rfl (exec_nilCheck rfl (zg zz rfl)) ?_
  refine zv rfl (exec_fieldAt rfl (zg zz rfl) (fg_54_3 _ _ _)) ?_
  refine zv rfl (exec_load rfl (zg zz rfl) (L1 _ rfl)) ?_
  refine zv rfl (exec_move rfl (zi t9 rfl)) ?_
  refine zv rfl (exec_indexAt rfl (zg zz rfl) (zg zz rfl) (ix_tt hm h63 _)) ?_
  refine zv rfl (exec_load rfl (zg zz rfl) (L2 _ rfl)) ?_
  refine zv rfl (exec_move rfl (zi t12 rfl)) ?_
  refine zv rfl (exec_indexAt rfl (zg zz rfl) (zg zz rfl) (ix_tl hk h64 _)) ?_
  refine zv rfl (exec_load rfl (zg zz rfl) (L3 _ rfl)) ?_
  refine zv rfl (exec_assign rfl (zg zz rfl)) ?_
  exact ze rfl (h _ _ (rfl) rfl)
def alT31_o0 : Oper := ⟨some 124, .move (.tmp 13), 9, "lists.go:265", #[], none⟩
def alT31_o1 : Oper := ⟨some 125, .move (.tmp 9), 3, "lists.go:265", #[], none⟩
def alT31_o2 : Oper := ⟨some 126, .call { callee := Callee.value (Operand.func 79), args := #[.tmp 125], argTypes := #[3] }, 9, "lists.go:265", #[⟨1, .data⟩], none⟩
def alT31_o3 : Oper := ⟨some 127, .binOp BinOp.eql 9 (.tmp 124) (.tmp 126) 9, 4, "lists.go:265", #[⟨0, .data⟩, ⟨2, .data⟩], none⟩
def alT31_o4 : Oper := ⟨some 128, .unOp UnOp.not 4 (.tmp 127), 4, "lists.go:265", #[⟨3, .data⟩], none⟩
def alT31_ops : Array Oper := #[alT31_o0, alT31_o1, alT31_o2, alT31_o3, alT31_o4]
theorem alT31 {m : Nat} {TX : ByteArray} (Fin : World → Prop) (a : Act) (w : World) (Q : Exit → Act → World → Prop) (zz : a.tmps.size = 129)
    (t13 : a.tmps.getD 13 undef = .string TX)
    (t9 : a.tmps.getD 9 undef = .int .i64 (m : Int))
    (CT : Calls Tryz.prog 79 #[.int .i64 (m : Int)] w fun e w1 => e = .returned (.string TX) ∧ Fin w1)
    (h : ∀ (a' : Act) (w' : World), Fin w' → a' = (((((a).put (some 124) (.string TX)).put (some 125) (.int .i64 (m : Int))).put (some 126) (.string TX)).put (some 127) (.bool true)).put (some 128) (.bool false) → Q .normal a' w') :
    (Code.region 31 alT31_ops false).wp Tryz.prog Q a w := by
  refine z0 rfl ?_
  refine zv rfl (exec_move rfl (zi t13 rfl)) ?_
  refine zv rfl (exec_move rfl (zi t9 rfl)) ?_
  refine zc rfl (exec_c1 rfl (zg zz rfl)) (CT) (fun e x2 hx => ?_)
  obtain ⟨rfl, HF⟩ := hx
  refine ⟨_, rfl, ?_⟩
  refine zv (v := .bool true) rfl (ex_eqT rfl (zg zz rfl) (zg zz rfl)) ?_
  refine zv rfl (exec_not rfl (zg zz rfl)) ?_
  exact ze rfl (h _ _ (HF) rfl)
def tkE0_o0 : Oper := ⟨some 4, .move (.tmp 0), 34, "lists.go:53", #[], none⟩
def tkE0_o1 : Oper := ⟨some 5, .move (.tmp 0), 34, "lists.go:53", #[], none⟩
def tkE0_o2 : Oper := ⟨some 6, .nilCheck (.tmp 5), 0, "lists.go:53", #[⟨1, .data⟩], none⟩
def tkE0_o3 : Oper := ⟨some 7, .fieldAddr 54 (.tmp 6) 5, 0, "lists.go:53", #[⟨2, .data⟩], none⟩
def tkE0_o4 : Oper := ⟨some 8, .load 40 (.tmp 7), 40, "lists.go:53", #[⟨3, .data⟩], none⟩
def tkE0_o5 : Oper := ⟨some 9, .move (.tmp 1), 71, "lists.go:53", #[], none⟩
def tkE0_o6 : Oper := ⟨some 10, .buildSlice 40 1 #[(0, .tmp 9)], 40, "lists.go:53", #[⟨5, .data⟩], none⟩
def tkE0_o7 : Oper := ⟨some 11, .call { callee := Callee.builtin Builtin.append, args := #[.tmp 8, .tmp 10], argTypes := #[40, 40] }, 40, "lists.go:53", #[⟨4, .data⟩, ⟨6, .data⟩], none⟩
def tkE0_o8 : Oper := ⟨some 12, .nilCheck (.tmp 4), 0, "lists.go:53", #[⟨0, .data⟩, ⟨0, .phase⟩, ⟨1, .phase⟩, ⟨2, .phase⟩, ⟨3, .phase⟩, ⟨4, .phase⟩, ⟨5, .phase⟩, ⟨6, .phase⟩, ⟨7, .phase⟩], none⟩
def tkE0_o9 : Oper := ⟨some 13, .fieldAddr 54 (.tmp 12) 5, 0, "lists.go:53", #[⟨8, .data⟩, ⟨0, .phase⟩, ⟨1, .phase⟩, ⟨2, .phase⟩, ⟨3, .phase⟩, ⟨4, .phase⟩, ⟨5, .phase⟩, ⟨6, .phase⟩, ⟨7, .phase⟩], none⟩
def tkE0_o10 : Oper := ⟨none, .store 40 (.tmp 13) (.tmp 11), 0, "lists.go:53", #[⟨9, .data⟩, ⟨7, .data⟩, ⟨7, .chain⟩, ⟨0, .phase⟩, ⟨1, .phase⟩, ⟨2, .phase⟩, ⟨3, .phase⟩, ⟨4, .phase⟩, ⟨5, .phase⟩, ⟨6, .phase⟩, ⟨7, .phase⟩], none⟩
def tkE0_ops : Array Oper := #[tkE0_o0, tkE0_o1, tkE0_o2, tkE0_o3, tkE0_o4, tkE0_o5, tkE0_o6, tkE0_o7, tkE0_o8, tkE0_o9, tkE0_o10]
theorem tkE0 {q : Nat} {lv av sv rv : Value} {w1 w2 w3 : World} (a : Act) (w : World) (Q : Exit → Act → World → Prop) (zz : a.tmps.size = 14)
    (t0 : a.tmps.getD 0 undef = .pointer (some ⟨q, 0, none⟩))
    (t1 : a.tmps.getD 1 undef = lv)
    (L1 : ∀ W, W = w → (Instr.loadAt 40 (.pointer (some ⟨q, 0 + 5, none⟩))).run Tryz.prog W = .ok (av) W) (EB : (Instr.buildSlice 40 1 #[(0, lv)]).run Tryz.prog w = .ok sv w1) (EA : (Builtin.append_ #[40, 40] 40 #[av, sv]).run Tryz.prog w1 = .ok rv w2) (ES : (Instr.storeAt 40 (.pointer (some ⟨q, 0 + 5, none⟩)) rv).run Tryz.prog w2 = .ok () w3)
    (h : ∀ (a' : Act) (w' : World), w' = w3 → a' = ((((((((((a).put (some 4) (.pointer (some ⟨q, 0, none⟩))).put (some 5) (.pointer (some ⟨q, 0, none⟩))).put (some 6) (.pointer (some ⟨q, 0, none⟩))).put (some 7) (.pointer (some ⟨q, 0 + 5, none⟩))).put (some 8) (av)).put (some 9) (lv)).put (some 10) (sv)).put (some 11) (rv)).put (some 12) (.pointer (some ⟨q, 0, none⟩))).put (some 13) (.pointer (some ⟨q, 0 + 5, none⟩)) → Q .normal a' w') :
    (Code.region 0 tkE0_ops false).wp Tryz.prog Q a w := by
  refine z0 rfl ?_
  refine zv rfl (exec_move rfl (zi t0 rfl)) ?_
  refine zv rfl (exec_move rfl (zi t0 rfl)) ?_
  refine zv rfl (exec_nilCheck rfl (zg zz rfl)) ?_
  refine zv rfl (exec_fieldAt rfl (zg zz rfl) (fg_54_5 _ _ _)) ?_
  refine zv rfl (exec_load rfl (zg zz rfl) (L1 _ rfl)) ?_
  refine zv rfl (exec_move rfl (zi t1 rfl)) ?_
  refine zv (v := sv) rfl (exec_buildSlice rfl (zg zz rfl) EB) ?_
  refine zv (v := rv) rfl (exec_append rfl (zg zz rfl) (zg zz rfl) EA) ?_
  refine zv rfl (exec_nilCheck rfl (zg zz rfl)) ?_
  refine zv rfl (exec_fieldAt rfl (zg zz rfl) (fg_54_5 _ _ _)) ?_
  refine zs rfl (exec_store rfl (zg zz rfl) (zg zz rfl) ES) ?_
  exact ze rfl (h _ _ (rfl) rfl)
def tkT0_o0 : Oper := ⟨some 4, .move (.tmp 0), 34, "lists.go:47", #[], none⟩
def tkT0_o1 : Oper := ⟨some 5, .move (.tmp 0), 34, "lists.go:47", #[], none⟩
def tkT0_o2 : Oper := ⟨some 6, .nilCheck (.tmp 5), 0, "lists.go:47", #[⟨1, .data⟩], none⟩
def tkT0_o3 : Oper := ⟨some 7, .fieldAddr 54 (.tmp 6) 3, 0, "lists.go:47", #[⟨2, .data⟩], none⟩
def tkT0_o4 : Oper := ⟨some 8, .load 38 (.tmp 7), 38, "lists.go:47", #[⟨3, .data⟩], none⟩
def tkT0_o5 : Oper := ⟨some 9, .move (.tmp 1), 74, "lists.go:47", #[], none⟩
def tkT0_o6 : Oper := ⟨some 10, .buildSlice 38 1 #[(0, .tmp 9)], 38, "lists.go:47", #[⟨5, .data⟩], none⟩
def tkT0_o7 : Oper := ⟨some 11, .call { callee := Callee.builtin Builtin.append, args := #[.tmp 8, .tmp 10], argTypes := #[38, 38] }, 38, "lists.go:47", #[⟨4, .data⟩, ⟨6, .data⟩], none⟩
def tkT0_o8 : Oper := ⟨some 12, .nilCheck (.tmp 4), 0, "lists.go:47", #[⟨0, .data⟩, ⟨0, .phase⟩, ⟨1, .phase⟩, ⟨2, .phase⟩, ⟨3, .phase⟩, ⟨4, .phase⟩, ⟨5, .phase⟩, ⟨6, .phase⟩, ⟨7, .phase⟩], none⟩
def tkT0_o9 : Oper := ⟨some 13, .fieldAddr 54 (.tmp 12) 3, 0, "lists.go:47", #[⟨8, .data⟩, ⟨0, .phase⟩, ⟨1, .phase⟩, ⟨2, .phase⟩, ⟨3, .phase⟩, ⟨4, .phase⟩, ⟨5, .phase⟩, ⟨6, .phase⟩, ⟨7, .phase⟩], none⟩
def tkT0_o10 : Oper := ⟨none, .store 38 (.tmp 13) (.tmp 11), 0, "lists.go:47", #[⟨9, .data⟩, ⟨7, .data⟩, ⟨7, .chain⟩, ⟨0, .phase⟩, ⟨1, .phase⟩, ⟨2, .phase⟩, ⟨3, .phase⟩, ⟨4, .phase⟩, ⟨5, .phase⟩, ⟨6, .phase⟩, ⟨7, .phase⟩], none⟩
def tkT0_ops : Array Oper := #[tkT0_o0, tkT0_o1, tkT0_o2, tkT0_o3, tkT0_o4, tkT0_o5, tkT0_o6, tkT0_o7, tkT0_o8, tkT0_o9, tkT0_o10]
theorem tkT0 {q : Nat} {lv av sv rv : Value} {w1 w2 w3 : World} (a : Act) (w : World) (Q : Exit → Act → World → Prop) (zz : a.tmps.size = 14)
    (t0 : a.tmps.getD 0 undef = .pointer (some ⟨q, 0, none⟩))
    (t1 : a.tmps.getD 1 undef = lv)
    (L1 : ∀ W, W = w → (Instr.loadAt 38 (.pointer (some ⟨q, 0 + 3, none⟩))).run Tryz.prog W = .ok (av) W) (EB : (Instr.buildSlice 38 1 #[(0, lv)]).run Tryz.prog w = .ok sv w1) (EA : (Builtin.append_ #[38, 38] 38 #[av, sv]).run Tryz.prog w1 = .ok rv w2) (ES : (Instr.storeAt 38 (.pointer (some ⟨q, 0 + 3, none⟩)) rv).run Tryz.prog w2 = .ok () w3)
    (h : ∀ (a' : Act) (w' : World), w' = w3 → a' = ((((((((((a).put (some 4) (.pointer (some ⟨q, 0, none⟩))).put (some 5) (.pointer (some ⟨q, 0, none⟩))).put (some 6) (.pointer (some ⟨q, 0, none⟩))).put (some 7) (.pointer (some ⟨q, 0 + 3, none⟩))).put (some 8) (av)).put (some 9) (lv)).put (some 10) (sv)).put (some 11) (rv)).put (some 12) (.pointer (some ⟨q, 0, none⟩))).put (some 13) (.pointer (some ⟨q, 0 + 3, none⟩)) → Q .normal a' w') :
    (Code.region 0 tkT0_ops false).wp Tryz.prog Q a w := by
  refine z0 rfl ?_
  refine zv rfl (exec_move rfl (zi t0 rfl)) ?_
  refine zv rfl (exec_move rfl (zi t0 rfl)) ?_
  refine zv rfl (exec_nilCheck rfl (zg zz rfl)) ?_
  refine zv rfl (exec_fieldAt rfl (zg zz rfl) (fg_54_3 _ _ _)) ?_
  refine zv rfl (exec_load rfl (zg zz rfl) (L1 _ rfl)) ?_
  refine zv rfl (exec_move rfl (zi t1 rfl)) ?_
  refine zv (v := sv) rfl (exec_buildSlice rfl (zg zz rfl) EB) ?_
  refine zv (v := rv) rfl (exec_append rfl (zg zz rfl) (zg zz rfl) EA) ?_
  refine zv rfl (exec_nilCheck rfl (zg zz rfl)) ?_
  refine zv rfl (exec_fieldAt rfl (zg zz rfl) (fg_54_3 _ _ _)) ?_
  refine zs rfl (exec_store rfl (zg zz rfl) (zg zz rfl) ES) ?_
  exact ze rfl (h _ _ (rfl) rfl)
end Go.Proofs.YtldlljobofnmmaaGreatDoor
namespace Go.Proofs.YtldlljobofnmmaaGreatDoor.B
open Go.RowKit
set_option linter.unusedVariables false
set_option linter.unusedSimpArgs false
theorem app_gen {e t sz y : Nat} {z : Value} (und : Tryz.prog.underlying t = some (.slice e)) (info : (Tryz.prog.info? e).map (fun i => (i.zero, i.size, i.bytes)) = some (some z, sz, y)) (hz : z.cells.size = sz) (hs0 : 0 < sz) {w : World} {base n : Nat} {g : Value} {xs x : List Value} {xv : Value} (hx : x.length = sz) (one : ∀ u ∈ x, u.oneCell' = true)
    (hbs : (Instr.buildSlice t 1 #[(0, xv)]).run Tryz.prog w = .ok (.slice (some ⟨w.heap.size, 0, none⟩) 1 1) (w.alloc (.cells x.toArray e))) (own : w.ownsRow base e sz g n xs) (h63 : n + 1 ≤ maxLen) (hsz : (n + 1) * y ≤ 140737488355328) (hb : base ≤ w.heap.size) :
    ∃ sv w1 g' w2, (Instr.buildSlice t 1 #[(0, xv)]).run Tryz.prog w = .ok sv w1 ∧ (Builtin.append_ #[t, t] t #[g, sv]).run Tryz.prog w1 = .ok g' w2 ∧ w2.ownsRow base e sz g' (n + 1) (xs ++ x) ∧ Below w.heap.size w w1 ∧ w1.grownBy w2 g.ownBlock ∧ (g'.ownBlock = g.ownBlock ∨ g'.ownBlock = some w1.heap.size ∧ Below w1.heap.size w1 w2) := by
  obtain ⟨ie, hi, hz0, hs, hby⟩ := info_parts info
  have b1 : Below w.heap.size w (w.alloc (.cells x.toArray e)) := (Below.refl _ _).alloc (Nat.le_refl _) _
  have hnew : ∀ k u, x[k]? = some u → (w.alloc (.cells x.toArray e)).cell? ((⟨w.heap.size, 0, none⟩ : Addr).add k) = some u := fun k u hk => by
    rw [Addr.add_mid, Nat.zero_add]
    exact cell_new w x e k u hk
  generalize w.alloc (.cells x.toArray e) = w1 at *
  obtain ⟨g', w2, e2, o2, g2, q2⟩ := run_app3 (P := Tryz.prog) w1 base t t e ie z sz y und hi hz0 hs hby hz hs0 g n xs (own_below own b1) ⟨w.heap.size, 0, none⟩ 1 x (by rw [hx, Nat.one_mul]) hnew one h63 hsz (Nat.le_trans hb b1.size)
  exact ⟨_, w1, g', w2, hbs, e2, o2, b1, g2, q2⟩
theorem Ph1.below {w0 w w' : World} {base q fi B cB N e sz : Nat} {qo : Option Obj} {V : Nat → Lst} {tg : Nat → Nat} {F : Nat → List Value} (h : Ph1 w0 w base q fi B cB N e sz qo V tg F) (hb : Below w.heap.size w w') (hz : base ≤ w.heap.size) (hz0 : w0.heap.size ≤ w.heap.size) : Ph1 w0 w' base q fi B cB N e sz qo V tg F :=
  ⟨h.bk.keep (hb.block q h.bk.lq) (hb.block B h.bk.lB) hb.size, h.tq, h.tB, fun i hi => ⟨own_below (h.ow i hi).1 hb, (h.ow i hi).2⟩, h.be.trans (hb.mono hz), fun k hk ht => (hb.block k (Nat.lt_of_lt_of_le hk hz0)).trans (h.fr k hk ht)⟩
theorem own_sameB {w w' : World} {base e sz n : Nat} {v : Value} {xs : List Value} (h : w.ownsRow base e sz v n xs) (hk : ∀ b, v.ownBlock = some b → w'.heap[b]? = w.heap[b]?) : w'.ownsRow base e sz v n xs := by
  refine ⟨h.1, ?_⟩
  rcases h.2 with hn | ⟨g, cap, cur, rfl, hbg, hg, rest⟩
  · exact .inl hn
  · exact .inr ⟨g, cap, cur, rfl, hbg, by rw [hk g rfl]; exact hg, rest⟩
theorem Ph1.chg {w0 w w' : World} {base q fi B cB N e sz : Nat} {qo : Option Obj} {V : Nat → Lst} {tg : Nat → Nat} {F : Nat → List Value} (h : Ph1 w0 w base q fi B cB N e sz qo V tg F) {m : Nat} (hm : m < N) {F' : List Value} (own' : w'.ownsRow base e sz (V m).v (V m).n F') (t : Tch (fun j => (V m).v.ownBlock = some j) w w') (hz : base ≤ w.heap.size) (hz0 : w0.heap.size ≤ w.heap.size) :
    Ph1 w0 w' base q fi B cB N e sz qo V tg (upF F m F') := by
  have tm := (h.ow m hm).2
  have ge : ∀ j, (V m).v.ownBlock = some j → base ≤ j := fun j hj => (World.ownsRow.lt (h.ow m hm).1 j hj).1
  have ne : ∀ b, b < w.heap.size → tg b ≠ m + 1 → w'.heap[b]? = w.heap[b]? := fun b hb hq => t.block b hb (fun e => hq (tm b e))
  refine ⟨h.bk.keep (ne q h.bk.lq (by rw [h.tq]; omega)) (ne B h.bk.lB (by rw [h.tB]; omega)) t.size, h.tq, h.tB, fun i hi => ?_, h.be.trans (t.below hz ge), fun k hk ht => (ne k (by omega) (by rw [ht]; omega)).trans (h.fr k hk ht)⟩
  obtain ⟨o, to⟩ := h.ow i hi
  unfold upF
  by_cases e : i = m
  · subst e; rw [if_pos rfl]; exact ⟨own', to⟩
  · rw [if_neg e]
    exact ⟨own_sameB o fun b hb => ne b (World.ownsRow.lt o b hb).2 (by rw [to b hb]; omega), to⟩
theorem ld_ee {w : World} {b o : Nat} {v : Value} (h : w.cell? ⟨b, o, none⟩ = some v) : (Instr.loadAt 40 (.pointer (some ⟨b, o, none⟩))).run Tryz.prog w = .ok v w := by go_simp
theorem ld_el {w : World} {b o : Nat} {v : Value} (h : w.cell? ⟨b, o, none⟩ = some v) : (Instr.loadAt 71 (.pointer (some ⟨b, o, none⟩))).run Tryz.prog w = .ok v w := by go_simp
theorem ld_tt {w : World} {b o : Nat} {v : Value} (h : w.cell? ⟨b, o, none⟩ = some v) : (Instr.loadAt 38 (.pointer (some ⟨b, o, none⟩))).run Tryz.prog w = .ok v w := by go_simp
theorem ld_tl {w : World} {b o : Nat} {v : Value} (h : w.cell? ⟨b, o, none⟩ = some v) : (Instr.loadAt 74 (.pointer (some ⟨b, o, none⟩))).run Tryz.prog w = .ok v w := by go_simp
theorem ld_st {w : World} {b o : Nat} {v : Value} (h : w.cell? ⟨b, o, none⟩ = some v) : (Instr.loadAt 9 (.pointer (some ⟨b, o, none⟩))).run Tryz.prog w = .ok v w := by go_simp
theorem infoEl : (Tryz.prog.info? 71).map (fun i => (i.zero, i.size, i.bytes)) = some (some (.slice none 0 0), 1, 24) := by kernel_rfl
theorem infoTl : (Tryz.prog.info? 74).map (fun i => (i.zero, i.size, i.bytes)) = some (some (.slice none 0 0), 1, 24) := by kernel_rfl
theorem infoSt : (Tryz.prog.info? 9).map (fun i => (i.zero, i.size, i.bytes)) = some (some (.string ⟨#[]⟩), 1, 16) := by kernel_rfl
theorem mkE_ok {i : Nat} (h : i ≤ 7700000000000) : (mkE i).ok := ⟨mkI_ok h, zVa_ok⟩
def xE (i : Nat) : List Value := (mkE i).c
theorem xE_len (i : Nat) : (xE i).length = 37 := by simp [xE, mkE, EnV.c, mkI, IdK.c, hcs_len, VaV.len]
theorem rpE (n : Nat) (y : EnV) : rpC n y.c = RN.flat (List.replicate n y) := by
  induction n with
  | zero => rfl
  | succ n ih => rw [rpC_cons, ih, List.replicate_succ]; rfl
theorem dropE : ∀ {L : List EnV}, (∀ x ∈ L, x.ok) → ∀ k, (RN.flat L).drop (k * 37) = RN.flat (L.drop k)
  | L, ok, 0 => by simp
  | [], ok, k + 1 => by simp [RowT.flat]
  | x :: L, ok, k + 1 => by
    have l := EnV.len (ok x (by simp))
    have h := dropE (L := L) (fun y hy => ok y (List.mem_cons_of_mem _ hy)) k
    rw [List.drop_succ_cons, ← h, RowT.flat_cons, show (k + 1) * 37 = x.c.length + k * 37 by omega, ← List.drop_drop]
    exact congrArg (List.drop (k * 37)) List.drop_left
theorem fillE {L : List EnV} (ok : ∀ x ∈ L, x.ok) (k i : Nat) : fillC k (xE i) (RN.flat L) = RN.flat (List.replicate k (mkE i) ++ L.drop k) := by
  unfold fillC
  rw [xE_len, dropE ok, RowT.flat_app, xE, rpE]
theorem set_fillE {L : List EnV} {k : Nat} (hk : k < L.length) (y : EnV) : (List.replicate k y ++ L.drop k).set k y = List.replicate (k + 1) y ++ L.drop (k + 1) := by
  rw [List.set_append_right _ _ (by simp), List.length_replicate, Nat.sub_self, List.drop_eq_getElem_cons hk, List.set_cons_zero, List.replicate_succ', List.append_assoc]
  rfl
theorem rdE_load {w : World} {a : Option Addr} {n i j : Nat} (h : RdC w a n (xE j)) (hi : i < n) (hj : j ≤ 7700000000000) : ∃ b off, a = some ⟨b, off, none⟩ ∧ (Instr.loadAt 85 (.pointer (some ⟨b, off + 37 * i, none⟩))).run Tryz.prog w = .ok (mkE j).a w := by
  rcases h with h | ⟨b, off, rfl, hc⟩
  · omega
  · refine ⟨b, off, rfl, RowT.ld RN_is (mkE_ok hj) fun k v hv => ?_⟩
    have hk : k < (xE j).length := (List.getElem?_eq_some_iff.1 hv).1
    have := hc (i * 37 + k) v (by have := rpC_get (x := xE j) hk hi; rw [xE_len] at this; rw [this]; exact hv)
    rw [Nat.mul_comm] at this
    rwa [← Nat.add_assoc] at this
theorem en_boxB (w : World) (x : EnV) (hx : x.ok) : ∃ w1 w2, (Instr.alloc 85 true (.tuple #[])).run Tryz.prog w = .ok (.pointer (some ⟨w.heap.size, 0, none⟩)) w1 ∧ (Instr.storeAt 85 (.pointer (some ⟨w.heap.size, 0, none⟩)) x.a).run Tryz.prog w1 = .ok () w2 ∧ RN.Bx w2 w.heap.size x ∧ Below w.heap.size w w2 := by
  obtain ⟨w1, e1, n1, b1⟩ := Go.Proofs.YtldlljobofnmmaaGreatDoor.en_box w
  obtain ⟨w2, e2, n2, t2⟩ := en_put zEn_ok hx n1
  exact ⟨w1, w2, e1, e2, n2, b1.trans (t2.below b1.size (fun j e => by rw [e]; exact Nat.le_refl _))⟩
theorem ld_eid {w : World} {eb : Nat} {x : EnV} (hx : x.ok) (h : RN.Bx w eb x) : (Instr.loadAt 59 (.pointer (some ⟨eb, 0 + 0, none⟩))).run Tryz.prog w = .ok x.id.v w := en_id hx h.rng
def xT (i : Nat) : List Value := [.string (txB i)]
theorem fillT {k : Nat} {x : Value} {L : List Value} (h : k < L.length) : (fillC k [x] L).set k x = fillC (k + 1) [x] L := by
  unfold fillC
  rw [List.set_append_right _ _ (by rw [rpC_len]; simp), rpC_len]
  simp only [List.length_singleton, Nat.mul_one, Nat.sub_self]
  rw [List.drop_eq_getElem_cons h, List.set_cons_zero, ← rpC_succ, List.append_assoc]
  rfl
theorem rdT_load {w : World} {a : Option Addr} {n i j : Nat} (h : RdC w a n (xT j)) (hi : i < n) : ∃ b off, a = some ⟨b, off, none⟩ ∧ (Instr.loadAt 9 (.pointer (some ⟨b, off + i, none⟩))).run Tryz.prog w = .ok (.string (txB j)) w := by
  rcases h with h | ⟨b, off, rfl, hc⟩
  · omega
  · refine ⟨b, off, rfl, ld_st (hc i _ ?_)⟩
    have := rpC_get (x := xT j) (j := 0) (by simp [xT]) hi
    simpa [xT] using this
theorem aloneEntries_any (q B cB base N : Nat) (qo : Option Obj) (V : Nat → Lst) (L : Nat → List EnV) (tz : Nat → Nat) (w : World) (hN1 : 1 ≤ N) (hN : N ≤ 2600000000000) (hn : ∀ i, i < N → (V i).n ≤ 1700000000000) (hLn : ∀ i, i < N → (L i).length = (V i).n) (okL : ∀ i, i < N → ∀ x ∈ L i, x.ok)
    (h : Ph1 w w base q 5 B cB N 85 37 qo V tz (fun i => RN.flat (L i))) (hbase : base ≤ w.heap.size) :
    Calls Tryz.prog 37 #[.pointer (some ⟨q, 0, none⟩)] w fun e w' => e = .returned (.bool true) ∧ Below base w w' ∧ w'.heap[q]? = qo ∧ ∀ k, k < w.heap.size → tz k = 0 → w'.heap[k]? = w.heap[k]? := by
  have HP0 := hidMk h
  have HLN := hidMk hLn
  have HOK := hidMk okL
  clear h hLn okL
  go_enter Tryz.func37, Tryz.ntmps37
  go_wp2
  go_loopw [3] (fun v3 wr => ∃ m : Nat, m ≤ N ∧ v3 = .int .i64 (m : Int) ∧ Hid (Ph1 w wr base q 5 B cB N 85 37 qo V tz (mF V xE (fun i => RN.flat (L i)) m))) (fun v3 _ => N - (intOf v3).toNat)
  case atStart =>
    refine ⟨0, by omega, rfl, ?_⟩
    have e0 : mF V xE (fun i => RN.flat (L i)) 0 = (fun i => RN.flat (L i)) := by funext i; unfold mF; rw [if_neg (by omega)]
    rw [e0]
    exact HP0
  case round =>
    clear HP0
    obtain ⟨m, hm, rfl, HP⟩ := hrel
    by_cases hlt : m < N
    · obtain ⟨l, hl⟩ : ∃ l, V m = l := ⟨_, rfl⟩
      obtain ⟨a0, n0, k0⟩ := l
      have hnm : n0 ≤ 1700000000000 := by have := hn m hlt; rw [hl] at this; exact this
      have HLm := hidMk (show (L m).length = n0 by have := HLN.out m hlt; rw [hl] at this; exact this)
      have HS : Hid (Ph1 w wr base q 5 B cB N 85 37 qo V tz (upF (mF V xE (fun i => RN.flat (L i)) m) m (fillC 0 (xE m) (RN.flat (L m))))) := by
        have e0 : upF (mF V xE (fun i => RN.flat (L i)) m) m (fillC 0 (xE m) (RN.flat (L m))) = mF V xE (fun i => RN.flat (L i)) m := mF_start V xE (fun i => RN.flat (L i)) m
        rw [e0]
        exact HP
      have HV := hidMk hl
      have cq := HP.out.bk.cq
      clear HP hl
      go_wp2
      go_loopw [4] (fun v4 wx => ∃ k : Nat, k ≤ n0 ∧ v4 = .int .i64 (k : Int) ∧ Hid (Ph1 w wx base q 5 B cB N 85 37 qo V tz (upF (mF V xE (fun i => RN.flat (L i)) m) m (fillC k (xE m) (RN.flat (L m)))))) (fun v4 _ => n0 - (intOf v4).toNat)
      case atStart => exact ⟨0, by omega, rfl, HS⟩
      case round =>
        clear HS cq
        obtain ⟨k, hk, rfl, HP⟩ := hrel
        have cq := HP.out.bk.cq
        have cm : wr.cell? ⟨B, m, none⟩ = some (.slice a0 n0 k0) := by have := HP.out.bk.cr m hlt; rw [HV.out] at this; exact this
        by_cases hkn : k < n0
        · have oo := (HP.out.ow m hlt).1
          rw [upF_at, fillE (HOK.out m hlt)] at oo
          have hlk : k < (L m).length := by rw [HLm.out]; exact hkn
          have hll : (List.replicate k (mkE m) ++ (L m).drop k).length = n0 := by rw [List.length_append, List.length_replicate, List.length_drop, HLm.out]; omega
          have oi : RN.Own wr base (.slice a0 n0 k0) (List.replicate k (mkE m) ++ (L m).drop k) := by
            unfold RowT.Own
            rw [hll]
            rw [HV.out] at oo
            exact oo
          have okm := mkE_ok (i := m) (by omega)
          obtain ⟨g, cap, ev, hgl, w2, es, o2, t2, z2⟩ := RowT.own_set RN_is oi (fun x hx => by
            rcases List.mem_append.1 hx with hx | hx
            · rw [(List.mem_replicate.1 hx).2]; exact okm
            · exact HOK.out m hlt x (List.mem_of_mem_drop hx)) (i := k) (by rw [hll]; exact hkn) okm
          rw [hll] at ev
          injection ev with ev1 ev2 ev3
          subst ev1
          have hz0 : w.heap.size ≤ wr.heap.size := HP.out.be.size
          have hzb : base ≤ wr.heap.size := Nat.le_trans hbase hz0
          have NX : Hid (Ph1 w w2 base q 5 B cB N 85 37 qo V tz (upF (mF V xE (fun i => RN.flat (L i)) m) m (fillC (k + 1) (xE m) (RN.flat (L m))))) := by
            have := HP.out.chg hlt (F' := fillC (k + 1) (xE m) (RN.flat (L m))) (w' := w2) (by
              rw [fillE (HOK.out m hlt), ← set_fillE hlk (mkE m), HV.out]
              have o3 := o2
              unfold RowT.Own at o3
              rw [List.length_set, hll] at o3
              exact o3) (by rw [HV.out]; exact t2) hzb hz0
            rw [upF_up] at this
            exact this
          have ES := hidMk es
          have LQ := hidMk (ld_ee (o := 0 + 5) cq)
          have LM := hidMk (ld_el (o := 0 + m) (by rw [Nat.zero_add]; exact cm))
          clear oo oi hll hlk es o2 t2 z2 HP ev3
          go_upto_region 7 with fail
          clear cq cm
          refine alE7 (q := q) (B := B) (N := N) (cB := cB) (g := g) (o := 0) (n := n0) (c := k0) (m := m) (k := k) (w2 := w2) _ wr _ rfl rfl rfl rfl hlt (by omega) hkn (by omega) (by omega) (fun W e => by rw [e]; exact LQ.out) (fun W e => by rw [e]; exact LM.out) (by rw [Nat.zero_add]; exact ES.out) ?_
          intro a' w' hw' ha
          obtain rfl : w2 = w' := hw'.symm
          subst ha
          simp only [Act.put, List.setIfInBounds_toArray, List.set_cons_zero, List.set_cons_succ]
          clear ES LQ LM
          go_wp2
          exact ⟨⟨k + 1, by omega, by go_num, NX⟩, by simp [intOf]; omega⟩
        · obtain rfl : k = n0 := by omega
          have NX : Hid (Ph1 w wr base q 5 B cB N 85 37 qo V tz (mF V xE (fun i => RN.flat (L i)) (m + 1))) := by
            have he : upF (mF V xE (fun i => RN.flat (L i)) m) m (fillC (V m).n (xE m) (RN.flat (L m))) = mF V xE (fun i => RN.flat (L i)) (m + 1) := mF_end V xE (fun i => RN.flat (L i)) m (by show (RN.flat (L m)).length = _; rw [RowT.flat_len RN_is (HOK.out m hlt), xE_len, HLm.out, HV.out]; show 37 * k = k * 37; omega)
            rw [HV.out] at he
            rw [← he]
            exact HP
          clear HP
          go_wp2
          exact ⟨⟨m + 1, by omega, by go_num, NX⟩, by simp [intOf]; omega⟩
    · obtain rfl : m = N := by omega
      have zb : base ≤ wr.heap.size := Nat.le_trans hbase HP.out.be.size
      have hz00 : w.heap.size ≤ wr.heap.size := HP.out.be.size
      have HQ : Hid (∃ tg G, Ph2 w wr base q 5 B cB m 85 37 71 qo V xE tz tg 0 0 G (.slice none 0 0)) := ⟨_, _, ph2_start HP.out zb hz00⟩
      have cq := HP.out.bk.cq
      clear HP zb HLN HOK
      go_wp2
      clear cq
      go_loopw [5, 6] (fun v5 v6 wr => ∃ j : Nat, j ≤ m ∧ v6 = .int .i64 (j : Int) ∧ Hid (∃ tg G, Ph2 w wr base q 5 B cB m 85 37 71 qo V xE tz tg j j G v5)) (fun _ v6 _ => m - (intOf v6).toNat)
      case atStart => exact ⟨0, by omega, rfl, HQ⟩
      case round =>
        clear HQ
        obtain ⟨j, hj, rfl, HP⟩ := hrel
        by_cases hjm : j < m
        · obtain ⟨tg1, G, hP⟩ := HP.out
          obtain ⟨l, hl⟩ : ∃ l, V j = l := ⟨_, rfl⟩
          obtain ⟨a0, n0, k0⟩ := l
          have hnm : n0 ≤ 1700000000000 := by have := hn j hjm; rw [hl] at this; exact this
          have HV := hidMk hl
          have oo : wr.ownsRow base 85 37 (.slice a0 n0 k0) n0 (rpC n0 (xE j)) := by have := hP.ow j (Nat.le_refl _) hjm; rw [hl] at this; exact this
          have to : Tg tg1 (.slice a0 n0 k0) (j + 1) := by have := (hP.rd j hjm).2.1; rw [hl] at this; exact this
          obtain ⟨W, hW1, hW2⟩ : ∃ W, wr.heap.size ≤ W ∧ W ≤ wr.heap.size := ⟨_, Nat.le_refl _, Nat.le_refl _⟩
          have hv : Hid (∀ b off, 0 < n0 → a0 = some ⟨b, off, none⟩ → (Value.slice a0 n0 k0).ownBlock = some b ∧ off = 0 ∧ b < W) := fun b off hn e => by
            rcases oo.2 with ⟨e1, _⟩ | ⟨g, cap, cur, e1, _, hg, _⟩
            · simp at e1; omega
            · simp only [Value.slice.injEq] at e1
              rw [e] at e1
              obtain ⟨e2, _⟩ := e1
              simp at e2
              have := (Array.getElem?_eq_some_iff.1 hg).1
              exact ⟨by rw [e]; rfl, e2.2, by omega⟩
          obtain ⟨aA, cA, hA⟩ := own_slice hP.al.1
          subst hA
          have HI : Hid (∃ tg, Ph2 w wr base q 5 B cB m 85 37 71 qo V xE tz tg (j + 1) j G (.slice aA j cA) ∧ Gr wr base 85 37 W tg (xE j) j n0 k0 0 a0 (.slice a0 n0 k0)) := ⟨tg1, hP.weak _ (by omega), oo, to, .inl rfl, hW2⟩
          have cq := hP.bk.cq
          have cm : wr.cell? ⟨B, j, none⟩ = some (.slice a0 n0 k0) := by have := hP.bk.cr j hjm; rw [hl] at this; exact this
          clear oo to hP HP hl hW1 hW2
          go_wp2
          clear cq cm
          go_loopw [7, 8] (fun v7 v8 wx => ∃ k : Nat, k ≤ 20 ∧ v8 = .int .i64 (k : Int) ∧ Hid (∃ tg, Ph2 w wx base q 5 B cB m 85 37 71 qo V xE tz tg (j + 1) j G (.slice aA j cA) ∧ Gr wx base 85 37 W tg (xE j) j n0 k0 k a0 v7)) (fun _ v8 _ => 20 - (intOf v8).toNat)
          case atStart => exact ⟨0, by omega, rfl, HI⟩
          case round =>
            clear HI
            obtain ⟨k, hk, rfl, HI⟩ := hrel
            obtain ⟨tg2, P, og, tgg, hg, hWx⟩ := HI.out
            obtain ⟨ga, gc, rfl⟩ := own_slice og
            obtain ⟨gn, hgn⟩ : ∃ gn, n0 + k = gn := ⟨_, rfl⟩
            have HGN := hidMk hgn
            rw [hgn] at og tgg hg ⊢
            clear HI
            by_cases hlt : k < 20
            · have zb : base ≤ wr.heap.size := P.zb
              obtain ⟨sv, w1, g', w2, e1, e2, own', b1, gr, h4⟩ := app_gen RN_is.und RN_is.info (by show (RN.c RN.z).toArray.size = 37; rw [List.size_toArray]; exact RN_is.len _ RN_is.zok) (by decide) (x := xE j) (xv := (mkE j).a) (xE_len j) (RN_is.one (mkE j)) (RowT.run_bs RN_is (mkE j) (mkE_ok (by omega)) wr) og (by unfold maxLen; omega) (by show _ * 80 ≤ _; omega) zb
              have E1 := hidMk e1
              have E2 := hidMk e2
              have PA := P.below b1
              have YA : RdC w1 a0 n0 (xE j) := by have := (PA.rd j hjm).1; rw [HV.out] at this; exact this
              have hl2 : ∀ b, (Value.slice ga gn gc).ownBlock = some b → base ≤ b ∧ b < w1.heap.size := fun b e => by have := World.ownsRow.lt og b e; have := (b1).size; omega
              have own2 : w2.ownsRow base 85 37 g' (n0 + k + 1) (rpC (n0 + k + 1) (xE j)) := by rw [HGN.out, ← rpC_succ]; exact own'
              obtain ⟨yn, gn2⟩ := grow_step (cap := k0) (Nat.le_trans hWx (b1).size) (by simp [xE, mkE, EnV.c, mkI, IdK.c, hcs_len, VaV.len]) YA hv.out own2 gr h4 hg
              have h5 : g'.ownBlock = (Value.slice ga gn gc).ownBlock ∨ g'.ownBlock = some w1.heap.size := by rcases h4 with e | ⟨e, _⟩; exact .inl e; exact .inr e
              have hrd : ∀ i, i + 1 = j + 1 → i < m → RdC w2 (V i).a (V i).n (xE i) := fun i e hi => by
                obtain rfl : i = j := by omega
                rw [HV.out]
                exact yn
              obtain ⟨P2, T2⟩ := PA.grow (j + 1) (.slice ga gn gc) g' (by omega) gr tgg hl2 h5 hrd (fun i h1 _ => by omega) (fun i hi => by omega) (by omega)
              have NX : Hid (∃ tg, Ph2 w w2 base q 5 B cB m 85 37 71 qo V xE tz tg (j + 1) j G (.slice aA j cA) ∧ Gr w2 base 85 37 W tg (xE j) j n0 k0 (k + 1) a0 g') := ⟨_, P2, own2, T2, gn2, Nat.le_trans (Nat.le_trans hWx b1.size) gr.size⟩
              clear e1 e2 PA YA hl2 own2 yn gn2 h5 hrd P2 T2 own' b1 gr h4 P og tgg hg hWx zb
              go_upto_region 16 with fail
              refine alE16 (gv := .slice ga gn gc) (sv := sv) (rv := g') (m := j) (w1 := w1) (w2 := w2) _ wr _ rfl rfl rfl (by omega) E1.out E2.out ?_
              intro a' w' hw' ha
              obtain rfl : w2 = w' := hw'.symm
              subst ha
              simp only [Act.put, List.setIfInBounds_toArray, List.set_cons_zero, List.set_cons_succ]
              clear E1 E2 HGN
              go_wp2
              exact ⟨⟨k + 1, by omega, by go_num, NX⟩, by simp [intOf]; omega⟩
            · obtain rfl : k = 20 := by omega
              clear hlt
              have zb : base ≤ wr.heap.size := P.zb
              have al0 := P.al.1
              obtain ⟨sv, w1, all', w2, e1, e2, rows', b1, gr, hblk⟩ := app_gen Tryz.underlying40 infoEl rfl (by decide) (x := [.slice ga gn gc]) (xv := .slice ga gn gc) rfl (fun u hu => by simp at hu; subst hu; rfl) (run_bs1 40 71 24 (.slice none 0 0) Tryz.underlying40 infoEl rfl (.slice ga gn gc) rfl wr) al0 (by unfold maxLen; omega) (by omega) zb
              have E1 := hidMk e1
              have E2 := hidMk e2
              have og2 : w1.ownsRow base 85 37 (.slice ga gn gc) ((V j).n + 20) (rpC ((V j).n + 20) (xE j)) := by
                have := own_below og b1
                rw [HV.out]
                simp only
                rw [HGN.out]
                exact this
              obtain ⟨tg3, P3⟩ := (P.below b1).done hjm (.slice ga gn gc) all' og2 tgg gr (hblk.imp id (fun q => q.1)) rows'
              have NX : Hid (∃ tg G, Ph2 w w2 base q 5 B cB m 85 37 71 qo V xE tz tg (j + 1) (j + 1) G all') := ⟨_, _, P3⟩
              clear e1 e2 rows' b1 gr hblk og2 P3 P og tgg hg hWx zb al0 HGN
              go_upto_region 17 with fail
              refine alE17 (av := .slice aA j cA) (gv := .slice ga gn gc) (sv := sv) (rv := all') (w1 := w1) (w2 := w2) _ wr _ rfl rfl rfl E1.out E2.out ?_
              intro a' w' hw' ha
              obtain rfl : w2 = w' := hw'.symm
              subst ha
              simp only [Act.put, List.setIfInBounds_toArray, List.set_cons_zero, List.set_cons_succ]
              clear E1 E2
              go_wp2
              exact ⟨⟨j + 1, by omega, by go_num, NX⟩, by simp [intOf]; omega⟩
        · obtain rfl : j = m := by omega
          obtain ⟨tg1, G, hP⟩ := HP.out
          obtain ⟨A, cA, rfl, cG⟩ : ∃ A cA, u5 = .slice (some ⟨A, 0, none⟩) j cA ∧ ∀ wx, Below wr.heap.size wr wx → ∀ i, i < j → wx.cell? ⟨A, i, none⟩ = some (G i) := by
            have hc := fun g hg wx (hb : Below wr.heap.size wr wx) => World.ownsRow.cells (own_below hP.al.1 hb) (g := g) hg
            rcases hP.al.1.2 with ⟨_, hn0⟩ | ⟨g, cap, cur, rfl, _⟩
            · omega
            · refine ⟨g, cap, rfl, fun wx hb i hi => ?_⟩
              have := hc g rfl wx hb i (G i) (by rw [List.getElem?_map, List.getElem?_range hi]; rfl)
              rw [Addr.add_mid, Nat.zero_add] at this
              exact this
          have HC := hidMk cG
          have PP : Hid (∀ wx, Below wr.heap.size wr wx → Ph2 w wx base q 5 B cB j 85 37 71 qo V xE tz tg1 j j G (.slice (some ⟨A, 0, none⟩) j cA)) := fun wx hb => hP.below hb
          have cq := hP.bk.cq
          clear HP hP cG
          go_wp2
          clear cq
          generalize wr = wB at *
          go_loopw [9] (fun v9 wx => ∃ k : Nat, k ≤ j ∧ v9 = .int .i64 (k : Int) ∧ Hid (Below wB.heap.size wB wx)) (fun v9 _ => j - (intOf v9).toNat)
          case atStart => exact ⟨0, by omega, rfl, Below.refl _ _⟩
          case round =>
            obtain ⟨k, hk, rfl, HB⟩ := hrel
            by_cases hkj : k < j
            · obtain ⟨l, hl⟩ : ∃ l, V k = l := ⟨_, rfl⟩
              obtain ⟨a0, n0, k0⟩ := l
              have hnm : n0 ≤ 1700000000000 := by have := hn k hkj; rw [hl] at this; exact this
              have PF := PP.out _ HB.out
              have cg := HC.out _ HB.out k hkj
              obtain ⟨og, _⟩ := PF.gs k hkj
              rw [hl] at og
              obtain ⟨nn, hnn⟩ : ∃ nn, nn = n0 + 20 := ⟨_, rfl⟩
              have hnb : nn ≤ 1700000000020 := by omega
              have og' : wr.ownsRow base 85 37 (G k) nn (rpC nn (xE k)) := by rw [hnn]; exact og
              clear og hnn
              obtain ⟨ga, gc, e1⟩ := own_slice og'
              rw [e1] at cg og'
              have cm : wr.cell? ⟨B, k, none⟩ = some (.slice a0 n0 k0) := by have := PF.bk.cr k hkj; rw [hl] at this; exact this
              have rdk : RdC wr a0 n0 (xE k) := by have := (PF.rd k hkj).1; rw [hl] at this; exact this
              have cq := PF.bk.cq
              have ZC : Hid (∀ wx, Below wr.heap.size wr wx → wx.cell? ⟨A, k, none⟩ = some (.slice ga nn gc) ∧ RdC wx ga nn (xE k)) := fun wx hb => ⟨(hb.cell (p := ⟨A, k, none⟩) (block_lt_of_cell cg)).trans cg, (own_rd og').below hb⟩
              have YC : Hid (∀ wx, Below wr.heap.size wr wx → wx.cell? ⟨q, 5, none⟩ = some (.slice (some ⟨B, 0, none⟩) j cB) ∧ wx.cell? ⟨B, k, none⟩ = some (.slice a0 n0 k0) ∧ RdC wx a0 n0 (xE k)) := fun wx hb => ⟨(hb.cell (p := ⟨q, 5, none⟩) (block_lt_of_cell cq)).trans cq, (hb.cell (p := ⟨B, k, none⟩) (block_lt_of_cell cm)).trans cm, rdk.below hb⟩
              have TRW : Hid (∀ wx, Below wr.heap.size wr wx → Below wB.heap.size wB wx) := fun wx hb => HB.out.trans (hb.mono HB.out.size)
              have okk := mkE_ok (i := k) (by omega)
              have hkb : k ≤ 7700000000000 := by omega
              clear PF hl og' e1 rdk
              generalize wr = wC at *
              go_wp2
              clear cq cm cg
              go_loopw [10] (fun v10 wx => ∃ i : Nat, i ≤ nn ∧ v10 = .int .i64 (i : Int) ∧ Hid (Below wC.heap.size wC wx)) (fun v10 _ => nn - (intOf v10).toNat)
              case atStart => exact ⟨0, by omega, rfl, Below.refl _ _⟩
              case round =>
                obtain ⟨i, hi, rfl, HB2⟩ := hrel
                obtain ⟨c1, rz⟩ := ZC.out _ HB2.out
                by_cases hlt : i < nn
                · obtain ⟨bb, bo, rfl, hld⟩ := rdE_load rz hlt hkb
                  obtain ⟨w1, W3, ea, es, ne3, b3⟩ := en_boxB wr (mkE k) okk
                  have B3 := hidMk b3
                  have I3 := hidMk ne3
                  have EA := hidMk ea
                  have ES := hidMk es
                  have LD := hidMk hld
                  have LC := hidMk (ld_el (o := 0 + k) (by rw [Nat.zero_add]; exact c1))
                  have NB : Hid (Below wC.heap.size wC W3) := HB2.out.trans (B3.out.mono HB2.out.size)
                  clear rz ea es hld b3 ne3
                  go_upto_region 24 with fail
                  clear c1
                  refine alE24 (B := A) (N := j) (cB := cA) (g := bb) (o := bo) (n := nn) (c := gc) (m := k) (k := i) (eb := wr.heap.size) (w1 := w1) (w2 := W3) _ wr _ rfl rfl rfl rfl hkj (by omega) hlt (by omega) (fun W e => by rw [e]; exact LC.out) (fun W e => by rw [e]; exact LD.out) EA.out ES.out ?_
                  intro a' w' hw' ha
                  obtain rfl : W3 = w' := hw'.symm
                  subst ha
                  simp only [Act.put, List.setIfInBounds_toArray, List.set_cons_zero, List.set_cons_succ]
                  clear EA ES LD LC
                  go_upto_region 25 with fail
                  refine alE25 (eb := wr.heap.size) (m := k) _ W3 _ rfl rfl rfl hkb (fun W e => by rw [e]; exact ld_eid okk I3.out) ?_
                  intro a' w' hw' ha
                  obtain rfl : W3 = w' := hw'.symm
                  subst ha
                  simp only [Act.put, List.setIfInBounds_toArray, List.set_cons_zero, List.set_cons_succ]
                  clear B3 I3
                  go_wp2
                  exact ⟨⟨i + 1, by omega, by go_num, NB⟩, by simp [intOf]; omega⟩
                · obtain rfl : i = nn := by omega
                  clear hlt rz
                  obtain ⟨cq, cm, rz⟩ := YC.out _ HB2.out
                  clear rz
                  generalize wr = wD at *
                  go_wp2
                  clear c1 cq cm
                  go_loopw [12] (fun v12 wx => ∃ i : Nat, i ≤ n0 ∧ v12 = .int .i64 (i : Int) ∧ Hid (Below wC.heap.size wC wx)) (fun v12 _ => n0 - (intOf v12).toNat)
                  case atStart => exact ⟨0, by omega, rfl, HB2⟩
                  case round =>
                    obtain ⟨i2, hi2, rfl, HB3⟩ := hrel
                    obtain ⟨cq, cm, rz⟩ := YC.out _ HB3.out
                    by_cases hlt : i2 < n0
                    · obtain ⟨bb, bo, rfl, hld⟩ := rdE_load rz hlt hkb
                      obtain ⟨w1, W3, ea, es, ne3, b3⟩ := en_boxB wr (mkE k) okk
                      have B3 := hidMk b3
                      have I3 := hidMk ne3
                      have EA := hidMk ea
                      have ES := hidMk es
                      have LD := hidMk hld
                      have LC := hidMk (ld_el (o := 0 + k) (by rw [Nat.zero_add]; exact cm))
                      have LQ := hidMk (ld_ee (o := 0 + 5) cq)
                      have NB : Hid (Below wC.heap.size wC W3) := HB3.out.trans (B3.out.mono HB3.out.size)
                      clear rz ea es hld b3 ne3
                      go_upto_region 30 with fail
                      clear cq cm
                      refine alE30 (q := q) (B := B) (N := j) (cB := cB) (g := bb) (o := bo) (n := n0) (c := k0) (m := k) (k := i2) (eb := wr.heap.size) (w1 := w1) (w2 := W3) _ wr _ rfl rfl rfl rfl hkj (by omega) hlt (by omega) (fun W e => by rw [e]; exact LQ.out) (fun W e => by rw [e]; exact LC.out) (fun W e => by rw [e]; exact LD.out) EA.out ES.out ?_
                      intro a' w' hw' ha
                      obtain rfl : W3 = w' := hw'.symm
                      subst ha
                      simp only [Act.put, List.setIfInBounds_toArray, List.set_cons_zero, List.set_cons_succ]
                      clear EA ES LD LC LQ
                      go_upto_region 31 with fail
                      refine alE31 (eb := wr.heap.size) (m := k) _ W3 _ rfl rfl rfl hkb (fun W e => by rw [e]; exact ld_eid okk I3.out) ?_
                      intro a' w' hw' ha
                      obtain rfl : W3 = w' := hw'.symm
                      subst ha
                      simp only [Act.put, List.setIfInBounds_toArray, List.set_cons_zero, List.set_cons_succ]
                      clear B3 I3
                      go_wp2
                      exact ⟨⟨i2 + 1, by omega, by go_num, NB⟩, by simp [intOf]; omega⟩
                    · obtain rfl : i2 = n0 := by omega
                      have NB : Hid (Below wB.heap.size wB wr) := TRW.out _ HB3.out
                      clear hlt rz
                      go_wp2
                      exact ⟨⟨k + 1, by omega, by go_num, NB⟩, by simp [intOf]; omega⟩
            · obtain rfl : k = j := by omega
              have PF := PP.out _ HB.out
              have HR : Hid (Below base w wr ∧ wr.heap[q]? = qo ∧ ∀ k, k < w.heap.size → tz k = 0 → wr.heap[k]? = w.heap[k]?) := ⟨PF.be, PF.bk.ho, fun k hk ht => (PF.fr k hk ht).2⟩
              clear hkj PF
              go_wp2
              go_ret
              exact ⟨rfl, HR.out.1, HR.out.2.1, HR.out.2.2⟩
theorem aloneTexts_any (q B cB base N : Nat) (qo : Option Obj) (V : Nat → Lst) (L : Nat → List Value) (tz : Nat → Nat) (w : World) (hN1 : 1 ≤ N) (hN : N ≤ 2600000000000) (hn : ∀ i, i < N → (V i).n ≤ 1700000000000)
    (h : Ph1 w w base q 3 B cB N 9 1 qo V tz L) (hbase : base ≤ w.heap.size) :
    Calls Tryz.prog 35 #[.pointer (some ⟨q, 0, none⟩)] w fun e w' => e = .returned (.bool true) ∧ Below base w w' ∧ w'.heap[q]? = qo ∧ ∀ k, k < w.heap.size → tz k = 0 → w'.heap[k]? = w.heap[k]? := by
  have HP0 := hidMk h
  have HLN : Hid (∀ i, i < N → (L i).length = (V i).n * 1) := fun i hi => (h.ow i hi).1.1
  clear h
  go_enter Tryz.func35, Tryz.ntmps35
  go_wp2
  go_loopw [3] (fun v3 wr => ∃ m : Nat, m ≤ N ∧ v3 = .int .i64 (m : Int) ∧ Hid (Ph1 w wr base q 3 B cB N 9 1 qo V tz (mF V xT L m))) (fun v3 _ => N - (intOf v3).toNat)
  case atStart =>
    refine ⟨0, by omega, rfl, ?_⟩
    have e0 : mF V xT L 0 = L := by funext i; unfold mF; rw [if_neg (by omega)]
    rw [e0]
    exact HP0
  case round =>
    clear HP0
    obtain ⟨m, hm, rfl, HP⟩ := hrel
    by_cases hlt : m < N
    · obtain ⟨l, hl⟩ : ∃ l, V m = l := ⟨_, rfl⟩
      obtain ⟨a0, n0, k0⟩ := l
      have hnm : n0 ≤ 1700000000000 := by have := hn m hlt; rw [hl] at this; exact this
      have HLm := hidMk (show (L m).length = n0 by have := HLN.out m hlt; rw [hl, Nat.mul_one] at this; exact this)
      have HS : Hid (Ph1 w wr base q 3 B cB N 9 1 qo V tz (upF (mF V xT L m) m (fillC 0 (xT m) (L m)))) := by
        have e0 : upF (mF V xT L m) m (fillC 0 (xT m) (L m)) = mF V xT L m := mF_start V xT L m
        rw [e0]
        exact HP
      have HV := hidMk hl
      have cq := HP.out.bk.cq
      clear HP hl
      go_wp2
      go_loopw [4] (fun v4 wx => ∃ k : Nat, k ≤ n0 ∧ v4 = .int .i64 (k : Int) ∧ Hid (Ph1 w wx base q 3 B cB N 9 1 qo V tz (upF (mF V xT L m) m (fillC k (xT m) (L m))))) (fun v4 _ => n0 - (intOf v4).toNat)
      case atStart => exact ⟨0, by omega, rfl, HS⟩
      case round =>
        clear HS cq
        obtain ⟨k, hk, rfl, HP⟩ := hrel
        have cq := HP.out.bk.cq
        have cm : wr.cell? ⟨B, m, none⟩ = some (.slice a0 n0 k0) := by have := HP.out.bk.cr m hlt; rw [HV.out] at this; exact this
        by_cases hkn : k < n0
        · have oo := (HP.out.ow m hlt).1
          rw [upF_at, HV.out] at oo
          obtain ⟨g, rfl, hg1⟩ : ∃ g, a0 = some ⟨g, 0, none⟩ ∧ base ≤ g := by
            rcases oo.2 with ⟨e, _⟩ | ⟨g, cap, cur, e, hbg, _⟩
            · simp only [Lst.v, Value.slice.injEq] at e; omega
            · simp only [Lst.v, Value.slice.injEq] at e; exact ⟨g, e.1, hbg⟩
          have hz0 : w.heap.size ≤ wr.heap.size := HP.out.be.size
          have hzb : base ≤ wr.heap.size := Nat.le_trans hbase hz0
          have hlk : k < (L m).length := by rw [HLm.out]; exact hkn
          have hlf : (fillC k (xT m) (L m)).length = (L m).length := fillC_len (by simp [xT]; omega)
          have CT : Hid (Calls Tryz.prog 79 #[.int .i64 (m : Int)] wr.drew fun e w1 => e = .returned (.string (txB m)) ∧ Below wr.heap.size wr w1 ∧ ∃ w2, (Instr.storeAt 9 (.pointer (some ⟨g, 0 + k, none⟩)) (.string (txB m))).run Tryz.prog w1 = .ok () w2 ∧ Ph1 w w2 base q 3 B cB N 9 1 qo V tz (upF (mF V xT L m) m (fillC (k + 1) (xT m) (L m)))) := by
            refine (text_any m wr.drew (by omega)).mono ?_
            rintro e w1 ⟨rfl, b1⟩
            have b2 : Below wr.heap.size wr w1 := ((Below.refl wr.heap.size wr).drew).trans b1
            have P1 := HP.out.below b2 hzb hz0
            have o1 := own_below oo b2
            obtain ⟨u, hu⟩ : ∃ u, (fillC k (xT m) (L m))[k]? = some u := ⟨_, List.getElem?_eq_getElem (by rw [hlf]; exact hlk)⟩
            obtain ⟨c1, f1⟩ := own_at o1 hu
            have P2 := P1.set m k g (.string (txB m)) hlt (by rw [upF_at, hlf]; exact hlk) (by rw [HV.out]) hg1
            rw [upF_at, upF_up] at P2
            have ef : (fillC k (xT m) (L m)).set k (.string (txB m)) = fillC (k + 1) (xT m) (L m) := fillT hlk
            rw [ef] at P2
            generalize txB m = TX at *
            refine ⟨rfl, b2, _, ?_, P2⟩
            rw [Nat.zero_add]
            go_simp
          have bd : Hid (Below wr.heap.size wr wr.drew) := (Below.refl _ _).drew
          have LQ : Hid (∀ W, Below wr.heap.size wr W → (Instr.loadAt 38 (.pointer (some ⟨q, 0 + 3, none⟩))).run Tryz.prog W = .ok (.slice (some ⟨B, 0, none⟩) N cB) W) := fun W b => ld_tt (o := 0 + 3) ((b.cell (p := ⟨q, 3, none⟩) (block_lt_of_cell cq)).trans cq)
          have LM : Hid (∀ W, Below wr.heap.size wr W → (Instr.loadAt 74 (.pointer (some ⟨B, 0 + m, none⟩))).run Tryz.prog W = .ok (.slice (some ⟨g, 0, none⟩) n0 k0) W) := fun W b => ld_tl (o := 0 + m) (by rw [Nat.zero_add]; exact (b.cell (p := ⟨B, m, none⟩) (block_lt_of_cell cm)).trans cm)
          clear oo HP hlf hlk
          go_upto_region 7 with fail
          clear cq cm
          refine alT7 (q := q) (B := B) (N := N) (cB := cB) (g := g) (o := 0) (n := n0) (c := k0) (m := m) (k := k) (fun W => Below wr.heap.size wr W) (fun W => Ph1 w W base q 3 B cB N 9 1 qo V tz (upF (mF V xT L m) m (fillC (k + 1) (xT m) (L m)))) _ wr _ rfl rfl rfl rfl hlt (by omega) hkn (by omega) bd.out LQ.out LM.out CT.out ?_
          intro a' w' hw' ha
          subst ha
          simp only [Act.put, List.setIfInBounds_toArray, List.set_cons_zero, List.set_cons_succ]
          have NX := hidMk hw'
          clear CT bd LQ LM hw'
          generalize txB m = TX at *
          go_wp2
          exact ⟨⟨k + 1, by omega, by go_num, NX⟩, by simp [intOf]; omega⟩
        · obtain rfl : k = n0 := by omega
          have NX : Hid (Ph1 w wr base q 3 B cB N 9 1 qo V tz (mF V xT L (m + 1))) := by
            have he : upF (mF V xT L m) m (fillC (V m).n (xT m) (L m)) = mF V xT L (m + 1) := mF_end V xT L m (by rw [HLm.out, HV.out]; show k = k * 1; omega)
            rw [HV.out] at he
            rw [← he]
            exact HP
          clear HP
          go_wp2
          exact ⟨⟨m + 1, by omega, by go_num, NX⟩, by simp [intOf]; omega⟩
    · obtain rfl : m = N := by omega
      have zb : base ≤ wr.heap.size := Nat.le_trans hbase HP.out.be.size
      have hz00 : w.heap.size ≤ wr.heap.size := HP.out.be.size
      have HQ : Hid (∃ tg G, Ph2 w wr base q 3 B cB m 9 1 74 qo V xT tz tg 0 0 G (.slice none 0 0)) := ⟨_, _, ph2_start HP.out zb hz00⟩
      have cq := HP.out.bk.cq
      clear HP zb HLN
      go_wp2
      clear cq
      go_loopw [5, 6] (fun v5 v6 wr => ∃ j : Nat, j ≤ m ∧ v6 = .int .i64 (j : Int) ∧ Hid (∃ tg G, Ph2 w wr base q 3 B cB m 9 1 74 qo V xT tz tg j j G v5)) (fun _ v6 _ => m - (intOf v6).toNat)
      case atStart => exact ⟨0, by omega, rfl, HQ⟩
      case round =>
        clear HQ
        obtain ⟨j, hj, rfl, HP⟩ := hrel
        by_cases hjm : j < m
        · obtain ⟨tg1, G, hP⟩ := HP.out
          obtain ⟨l, hl⟩ : ∃ l, V j = l := ⟨_, rfl⟩
          obtain ⟨a0, n0, k0⟩ := l
          have hnm : n0 ≤ 1700000000000 := by have := hn j hjm; rw [hl] at this; exact this
          have HV := hidMk hl
          have oo : wr.ownsRow base 9 1 (.slice a0 n0 k0) n0 (rpC n0 (xT j)) := by have := hP.ow j (Nat.le_refl _) hjm; rw [hl] at this; exact this
          have to : Tg tg1 (.slice a0 n0 k0) (j + 1) := by have := (hP.rd j hjm).2.1; rw [hl] at this; exact this
          obtain ⟨W, hW1, hW2⟩ : ∃ W, wr.heap.size ≤ W ∧ W ≤ wr.heap.size := ⟨_, Nat.le_refl _, Nat.le_refl _⟩
          have hv : Hid (∀ b off, 0 < n0 → a0 = some ⟨b, off, none⟩ → (Value.slice a0 n0 k0).ownBlock = some b ∧ off = 0 ∧ b < W) := fun b off hn e => by
            rcases oo.2 with ⟨e1, _⟩ | ⟨g, cap, cur, e1, _, hg, _⟩
            · simp at e1; omega
            · simp only [Value.slice.injEq] at e1
              rw [e] at e1
              obtain ⟨e2, _⟩ := e1
              simp at e2
              have := (Array.getElem?_eq_some_iff.1 hg).1
              exact ⟨by rw [e]; rfl, e2.2, by omega⟩
          obtain ⟨aA, cA, hA⟩ := own_slice hP.al.1
          subst hA
          have HI : Hid (∃ tg, Ph2 w wr base q 3 B cB m 9 1 74 qo V xT tz tg (j + 1) j G (.slice aA j cA) ∧ Gr wr base 9 1 W tg (xT j) j n0 k0 0 a0 (.slice a0 n0 k0)) := ⟨tg1, hP.weak _ (by omega), oo, to, .inl rfl, hW2⟩
          have cq := hP.bk.cq
          have cm : wr.cell? ⟨B, j, none⟩ = some (.slice a0 n0 k0) := by have := hP.bk.cr j hjm; rw [hl] at this; exact this
          clear oo to hP HP hl hW1 hW2
          go_wp2
          clear cq cm
          go_loopw [7, 8] (fun v7 v8 wx => ∃ k : Nat, k ≤ 20 ∧ v8 = .int .i64 (k : Int) ∧ Hid (∃ tg, Ph2 w wx base q 3 B cB m 9 1 74 qo V xT tz tg (j + 1) j G (.slice aA j cA) ∧ Gr wx base 9 1 W tg (xT j) j n0 k0 k a0 v7)) (fun _ v8 _ => 20 - (intOf v8).toNat)
          case atStart => exact ⟨0, by omega, rfl, HI⟩
          case round =>
            clear HI
            obtain ⟨k, hk, rfl, HI⟩ := hrel
            obtain ⟨tg2, P, og, tgg, hg, hWx⟩ := HI.out
            obtain ⟨ga, gc, rfl⟩ := own_slice og
            obtain ⟨gn, hgn⟩ : ∃ gn, n0 + k = gn := ⟨_, rfl⟩
            have HGN := hidMk hgn
            rw [hgn] at og tgg hg ⊢
            clear HI
            by_cases hlt : k < 20
            · have zb : base ≤ wr.heap.size := P.zb
              have CT : Hid (Calls Tryz.prog 79 #[.int .i64 (j : Int)] wr fun e w1 => e = .returned (.string (txB j)) ∧ ∃ sv w2 rv w3, (Instr.buildSlice 74 1 #[(0, .string (txB j))]).run Tryz.prog w1 = .ok sv w2 ∧ (Builtin.append_ #[74, 74] 74 #[.slice ga gn gc, sv]).run Tryz.prog w2 = .ok rv w3 ∧ ∃ tg, Ph2 w w3 base q 3 B cB m 9 1 74 qo V xT tz tg (j + 1) j G (.slice aA j cA) ∧ Gr w3 base 9 1 W tg (xT j) j n0 k0 (k + 1) a0 rv) := by
                refine (text_any j wr (by omega)).mono ?_
                rintro e w0 ⟨rfl, b0⟩
                obtain ⟨sv, w1, g', w2, e1, e2, own', b1, gr, h4⟩ := app_gen Tryz.underlying74 infoSt rfl (by decide) (x := xT j) (xv := .string (txB j)) rfl (fun u hu => by simp [xT] at hu; subst hu; rfl) (run_bs1 74 9 16 (.string ⟨#[]⟩) Tryz.underlying74 infoSt rfl (.string (txB j)) rfl w0) (own_below og b0) (by unfold maxLen; omega) (by omega) (Nat.le_trans zb b0.size)
                have b01 := b0.trans (b1.mono b0.size)
                have PA := P.below b01
                have YA : RdC w1 a0 n0 (xT j) := by have := (PA.rd j hjm).1; rw [HV.out] at this; exact this
                have hl2 : ∀ b, (Value.slice ga gn gc).ownBlock = some b → base ≤ b ∧ b < w1.heap.size := fun b e => by have := World.ownsRow.lt og b e; have := (b01).size; omega
                have own2 : w2.ownsRow base 9 1 g' (n0 + k + 1) (rpC (n0 + k + 1) (xT j)) := by rw [HGN.out, ← rpC_succ]; exact own'
                obtain ⟨yn, gn2⟩ := grow_step (cap := k0) (Nat.le_trans hWx (b01).size) (by simp [xT]) YA hv.out own2 gr h4 hg
                have h5 : g'.ownBlock = (Value.slice ga gn gc).ownBlock ∨ g'.ownBlock = some w1.heap.size := by rcases h4 with e | ⟨e, _⟩; exact .inl e; exact .inr e
                have hrd : ∀ i, i + 1 = j + 1 → i < m → RdC w2 (V i).a (V i).n (xT i) := fun i e hi => by
                  obtain rfl : i = j := by omega
                  rw [HV.out]
                  exact yn
                obtain ⟨P2, T2⟩ := PA.grow (j + 1) (.slice ga gn gc) g' (by omega) gr tgg hl2 h5 hrd (fun i h1 _ => by omega) (fun i hi => by omega) (by omega)
                exact ⟨rfl, sv, w1, g', w2, e1, e2, _, P2, own2, T2, gn2, Nat.le_trans (Nat.le_trans hWx b01.size) gr.size⟩
              clear P og tgg hg hWx zb
              go_upto_region 16 with fail
              refine alT16 (gv := .slice ga gn gc) (m := j) (fun v7 wx => ∃ tg, Ph2 w wx base q 3 B cB m 9 1 74 qo V xT tz tg (j + 1) j G (.slice aA j cA) ∧ Gr wx base 9 1 W tg (xT j) j n0 k0 (k + 1) a0 v7) _ wr _ rfl rfl rfl CT.out ?_
              intro sv g' a' w' hw' ha
              subst ha
              simp only [Act.put, List.setIfInBounds_toArray, List.set_cons_zero, List.set_cons_succ]
              have NX := hidMk hw'
              clear CT HGN hw'
              generalize txB j = TX at *
              go_wp2
              exact ⟨⟨k + 1, by omega, by go_num, NX⟩, by simp [intOf]; omega⟩
            · obtain rfl : k = 20 := by omega
              clear hlt
              have zb : base ≤ wr.heap.size := P.zb
              have al0 := P.al.1
              obtain ⟨sv, w1, all', w2, e1, e2, rows', b1, gr, hblk⟩ := app_gen Tryz.underlying38 infoTl rfl (by decide) (x := [.slice ga gn gc]) (xv := .slice ga gn gc) rfl (fun u hu => by simp at hu; subst hu; rfl) (run_bs1 38 74 24 (.slice none 0 0) Tryz.underlying38 infoTl rfl (.slice ga gn gc) rfl wr) al0 (by unfold maxLen; omega) (by omega) zb
              have E1 := hidMk e1
              have E2 := hidMk e2
              have og2 : w1.ownsRow base 9 1 (.slice ga gn gc) ((V j).n + 20) (rpC ((V j).n + 20) (xT j)) := by
                have := own_below og b1
                rw [HV.out]
                simp only
                rw [HGN.out]
                exact this
              obtain ⟨tg3, P3⟩ := (P.below b1).done hjm (.slice ga gn gc) all' og2 tgg gr (hblk.imp id (fun q => q.1)) rows'
              have NX : Hid (∃ tg G, Ph2 w w2 base q 3 B cB m 9 1 74 qo V xT tz tg (j + 1) (j + 1) G all') := ⟨_, _, P3⟩
              clear e1 e2 rows' b1 gr hblk og2 P3 P og tgg hg hWx zb al0 HGN
              go_upto_region 17 with fail
              refine alT17 (av := .slice aA j cA) (gv := .slice ga gn gc) (sv := sv) (rv := all') (w1 := w1) (w2 := w2) _ wr _ rfl rfl rfl E1.out E2.out ?_
              intro a' w' hw' ha
              obtain rfl : w2 = w' := hw'.symm
              subst ha
              simp only [Act.put, List.setIfInBounds_toArray, List.set_cons_zero, List.set_cons_succ]
              clear E1 E2
              go_wp2
              exact ⟨⟨j + 1, by omega, by go_num, NX⟩, by simp [intOf]; omega⟩
        · obtain rfl : j = m := by omega
          obtain ⟨tg1, G, hP⟩ := HP.out
          obtain ⟨A, cA, rfl, cG⟩ : ∃ A cA, u5 = .slice (some ⟨A, 0, none⟩) j cA ∧ ∀ wx, Below wr.heap.size wr wx → ∀ i, i < j → wx.cell? ⟨A, i, none⟩ = some (G i) := by
            have hc := fun g hg wx (hb : Below wr.heap.size wr wx) => World.ownsRow.cells (own_below hP.al.1 hb) (g := g) hg
            rcases hP.al.1.2 with ⟨_, hn0⟩ | ⟨g, cap, cur, rfl, _⟩
            · omega
            · refine ⟨g, cap, rfl, fun wx hb i hi => ?_⟩
              have := hc g rfl wx hb i (G i) (by rw [List.getElem?_map, List.getElem?_range hi]; rfl)
              rw [Addr.add_mid, Nat.zero_add] at this
              exact this
          have HC := hidMk cG
          have PP : Hid (∀ wx, Below wr.heap.size wr wx → Ph2 w wx base q 3 B cB j 9 1 74 qo V xT tz tg1 j j G (.slice (some ⟨A, 0, none⟩) j cA)) := fun wx hb => hP.below hb
          have cq := hP.bk.cq
          clear HP hP cG
          go_wp2
          clear cq
          generalize wr = wB at *
          go_loopw [9] (fun v9 wx => ∃ k : Nat, k ≤ j ∧ v9 = .int .i64 (k : Int) ∧ Hid (Below wB.heap.size wB wx)) (fun v9 _ => j - (intOf v9).toNat)
          case atStart => exact ⟨0, by omega, rfl, Below.refl _ _⟩
          case round =>
            obtain ⟨k, hk, rfl, HB⟩ := hrel
            by_cases hkj : k < j
            · obtain ⟨l, hl⟩ : ∃ l, V k = l := ⟨_, rfl⟩
              obtain ⟨a0, n0, k0⟩ := l
              have hnm : n0 ≤ 1700000000000 := by have := hn k hkj; rw [hl] at this; exact this
              have PF := PP.out _ HB.out
              have cg := HC.out _ HB.out k hkj
              obtain ⟨og, _⟩ := PF.gs k hkj
              rw [hl] at og
              obtain ⟨nn, hnn⟩ : ∃ nn, nn = n0 + 20 := ⟨_, rfl⟩
              have hnb : nn ≤ 1700000000020 := by omega
              have og' : wr.ownsRow base 9 1 (G k) nn (rpC nn (xT k)) := by rw [hnn]; exact og
              clear og hnn
              obtain ⟨ga, gc, e1⟩ := own_slice og'
              rw [e1] at cg og'
              have cm : wr.cell? ⟨B, k, none⟩ = some (.slice a0 n0 k0) := by have := PF.bk.cr k hkj; rw [hl] at this; exact this
              have rdk : RdC wr a0 n0 (xT k) := by have := (PF.rd k hkj).1; rw [hl] at this; exact this
              have cq := PF.bk.cq
              have ZC : Hid (∀ wx, Below wr.heap.size wr wx → wx.cell? ⟨A, k, none⟩ = some (.slice ga nn gc) ∧ RdC wx ga nn (xT k)) := fun wx hb => ⟨(hb.cell (p := ⟨A, k, none⟩) (block_lt_of_cell cg)).trans cg, (own_rd og').below hb⟩
              have YC : Hid (∀ wx, Below wr.heap.size wr wx → wx.cell? ⟨q, 3, none⟩ = some (.slice (some ⟨B, 0, none⟩) j cB) ∧ wx.cell? ⟨B, k, none⟩ = some (.slice a0 n0 k0) ∧ RdC wx a0 n0 (xT k)) := fun wx hb => ⟨(hb.cell (p := ⟨q, 3, none⟩) (block_lt_of_cell cq)).trans cq, (hb.cell (p := ⟨B, k, none⟩) (block_lt_of_cell cm)).trans cm, rdk.below hb⟩
              have TRW : Hid (∀ wx, Below wr.heap.size wr wx → Below wB.heap.size wB wx) := fun wx hb => HB.out.trans (hb.mono HB.out.size)
              clear PF hl og' e1 rdk
              generalize wr = wC at *
              go_wp2
              clear cq cm cg
              go_loopw [10] (fun v10 wx => ∃ i : Nat, i ≤ nn ∧ v10 = .int .i64 (i : Int) ∧ Hid (Below wC.heap.size wC wx)) (fun v10 _ => nn - (intOf v10).toNat)
              case atStart => exact ⟨0, by omega, rfl, Below.refl _ _⟩
              case round =>
                obtain ⟨i, hi, rfl, HB2⟩ := hrel
                obtain ⟨c1, rz⟩ := ZC.out _ HB2.out
                by_cases hlt : i < nn
                · obtain ⟨bb, bo, rfl, hld⟩ := rdT_load rz hlt
                  have LD := hidMk hld
                  have LC := hidMk (ld_tl (o := 0 + k) (by rw [Nat.zero_add]; exact c1))
                  have CT : Hid (Calls Tryz.prog 79 #[.int .i64 (k : Int)] wr fun e w1 => e = .returned (.string (txB k)) ∧ Below wC.heap.size wC w1) := (text_any k wr (by omega)).mono fun e w1 h => ⟨h.1, HB2.out.trans (h.2.mono HB2.out.size)⟩
                  clear rz hld
                  generalize txB k = TX at *
                  go_upto_region 24 with fail
                  clear c1
                  refine alT24 (B := A) (N := j) (cB := cA) (g := bb) (o := bo) (n := nn) (c := gc) (m := k) (k := i) (TX := TX) _ wr _ rfl rfl rfl rfl hkj (by omega) hlt (by omega) (fun W e => by rw [e]; exact LC.out) (fun W e => by rw [e]; exact LD.out) ?_
                  intro a' w' hw' ha
                  obtain rfl : wr = w' := hw'.symm
                  subst ha
                  simp only [Act.put, List.setIfInBounds_toArray, List.set_cons_zero, List.set_cons_succ]
                  clear LD LC
                  go_upto_region 25 with fail
                  refine alT25 (m := k) (TX := TX) (fun W => Below wC.heap.size wC W) _ wr _ rfl rfl rfl CT.out ?_
                  intro a' w' hw' ha
                  subst ha
                  simp only [Act.put, List.setIfInBounds_toArray, List.set_cons_zero, List.set_cons_succ]
                  have NB := hidMk hw'
                  clear CT hw'
                  go_wp2
                  exact ⟨⟨i + 1, by omega, by go_num, NB⟩, by simp [intOf]; omega⟩
                · obtain rfl : i = nn := by omega
                  clear hlt rz
                  obtain ⟨cq, cm, rz⟩ := YC.out _ HB2.out
                  clear rz
                  generalize wr = wD at *
                  go_wp2
                  clear c1 cq cm
                  go_loopw [12] (fun v12 wx => ∃ i : Nat, i ≤ n0 ∧ v12 = .int .i64 (i : Int) ∧ Hid (Below wC.heap.size wC wx)) (fun v12 _ => n0 - (intOf v12).toNat)
                  case atStart => exact ⟨0, by omega, rfl, HB2⟩
                  case round =>
                    obtain ⟨i2, hi2, rfl, HB3⟩ := hrel
                    obtain ⟨cq, cm, rz⟩ := YC.out _ HB3.out
                    by_cases hlt : i2 < n0
                    · obtain ⟨bb, bo, rfl, hld⟩ := rdT_load rz hlt
                      have LD := hidMk hld
                      have LC := hidMk (ld_tl (o := 0 + k) (by rw [Nat.zero_add]; exact cm))
                      have LQ := hidMk (ld_tt (o := 0 + 3) cq)
                      have CT : Hid (Calls Tryz.prog 79 #[.int .i64 (k : Int)] wr fun e w1 => e = .returned (.string (txB k)) ∧ Below wC.heap.size wC w1) := (text_any k wr (by omega)).mono fun e w1 h => ⟨h.1, HB3.out.trans (h.2.mono HB3.out.size)⟩
                      clear rz hld
                      generalize txB k = TX at *
                      go_upto_region 30 with fail
                      clear cq cm
                      refine alT30 (q := q) (B := B) (N := j) (cB := cB) (g := bb) (o := bo) (n := n0) (c := k0) (m := k) (k := i2) (TX := TX) _ wr _ rfl rfl rfl rfl hkj (by omega) hlt (by omega) (fun W e => by rw [e]; exact LQ.out) (fun W e => by rw [e]; exact LC.out) (fun W e => by rw [e]; exact LD.out) ?_
                      intro a' w' hw' ha
                      obtain rfl : wr = w' := hw'.symm
                      subst ha
                      simp only [Act.put, List.setIfInBounds_toArray, List.set_cons_zero, List.set_cons_succ]
                      clear LD LC LQ
                      go_upto_region 31 with fail
                      refine alT31 (m := k) (TX := TX) (fun W => Below wC.heap.size wC W) _ wr _ rfl rfl rfl CT.out ?_
                      intro a' w' hw' ha
                      subst ha
                      simp only [Act.put, List.setIfInBounds_toArray, List.set_cons_zero, List.set_cons_succ]
                      have NB := hidMk hw'
                      clear CT hw'
                      go_wp2
                      exact ⟨⟨i2 + 1, by omega, by go_num, NB⟩, by simp [intOf]; omega⟩
                    · obtain rfl : i2 = n0 := by omega
                      have NB : Hid (Below wB.heap.size wB wr) := TRW.out _ HB3.out
                      clear hlt rz
                      go_wp2
                      exact ⟨⟨k + 1, by omega, by go_num, NB⟩, by simp [intOf]; omega⟩
            · obtain rfl : k = j := by omega
              have PF := PP.out _ HB.out
              have HR : Hid (Below base w wr ∧ wr.heap[q]? = qo ∧ ∀ k, k < w.heap.size → tz k = 0 → wr.heap[k]? = w.heap[k]?) := ⟨PF.be, PF.bk.ho, fun k hk ht => (PF.fr k hk ht).2⟩
              clear hkj PF
              go_wp2
              go_ret
              exact ⟨rfl, HR.out.1, HR.out.2.1, HR.out.2.2⟩
end Go.Proofs.YtldlljobofnmmaaGreatDoor.B
namespace Go.Proofs.YtldlljobofnmmaaGreatDoor
open Go.RowKit
set_option linter.unusedVariables false
set_option linter.unusedSimpArgs false
set_option maxHeartbeats 1000000 in
theorem aloneBytes (q : Nat) (w : World) (c : w.cell? ⟨q, 0, none⟩ = some (.slice none 0 0)) :
    Calls Tryz.prog 32 #[.pointer (some ⟨q, 0, none⟩)] w fun e w' => e = .returned (.bool true) ∧ w' = w := by
  go_enter Tryz.func32, Tryz.ntmps32
  go_wp2
  go_loopw [3] (fun i wr => i = .int .i64 0 ∧ wr = w) (fun _ _ => 0)
  case atStart => exact ⟨rfl, rfl⟩
  case round =>
    obtain ⟨rfl, rfl⟩ := hrel
    go_wp2
    go_loopw [5, 6] (fun all i wy => all = .slice none 0 0 ∧ i = .int .i64 0 ∧ wy = wr) (fun _ _ _ => 0)
    case atStart => exact ⟨rfl, rfl, rfl⟩
    case round =>
      obtain ⟨rfl, rfl, rfl⟩ := hrel
      go_wp2
      go_loopw [9] (fun i wz => i = .int .i64 0 ∧ wz = wr) (fun _ _ => 0)
      case atStart => exact ⟨rfl, rfl⟩
      case round =>
        obtain ⟨rfl, rfl⟩ := hrel
        go_wp2
        go_ret
        exact ⟨rfl, rfl⟩
set_option maxHeartbeats 1000000 in
theorem aloneHashes (q : Nat) (w : World) (c : w.cell? ⟨q, 1, none⟩ = some (.slice none 0 0)) :
    Calls Tryz.prog 33 #[.pointer (some ⟨q, 0, none⟩)] w fun e w' => e = .returned (.bool true) ∧ w' = w := by
  go_enter Tryz.func33, Tryz.ntmps33
  go_wp2
  go_loopw [3] (fun i wr => i = .int .i64 0 ∧ wr = w) (fun _ _ => 0)
  case atStart => exact ⟨rfl, rfl⟩
  case round =>
    obtain ⟨rfl, rfl⟩ := hrel
    go_wp2
    go_loopw [5, 6] (fun all i wy => all = .slice none 0 0 ∧ i = .int .i64 0 ∧ wy = wr) (fun _ _ _ => 0)
    case atStart => exact ⟨rfl, rfl, rfl⟩
    case round =>
      obtain ⟨rfl, rfl, rfl⟩ := hrel
      go_wp2
      go_loopw [9] (fun i wz => i = .int .i64 0 ∧ wz = wr) (fun _ _ => 0)
      case atStart => exact ⟨rfl, rfl⟩
      case round =>
        obtain ⟨rfl, rfl⟩ := hrel
        go_wp2
        go_ret
        exact ⟨rfl, rfl⟩
set_option maxHeartbeats 1000000 in
theorem aloneIds (q : Nat) (w : World) (c : w.cell? ⟨q, 2, none⟩ = some (.slice none 0 0)) :
    Calls Tryz.prog 34 #[.pointer (some ⟨q, 0, none⟩)] w fun e w' => e = .returned (.bool true) ∧ w' = w := by
  go_enter Tryz.func34, Tryz.ntmps34
  go_wp2
  go_loopw [3] (fun i wr => i = .int .i64 0 ∧ wr = w) (fun _ _ => 0)
  case atStart => exact ⟨rfl, rfl⟩
  case round =>
    obtain ⟨rfl, rfl⟩ := hrel
    go_wp2
    go_loopw [5, 6] (fun all i wy => all = .slice none 0 0 ∧ i = .int .i64 0 ∧ wy = wr) (fun _ _ _ => 0)
    case atStart => exact ⟨rfl, rfl, rfl⟩
    case round =>
      obtain ⟨rfl, rfl, rfl⟩ := hrel
      go_wp2
      go_loopw [9] (fun i wz => i = .int .i64 0 ∧ wz = wr) (fun _ _ => 0)
      case atStart => exact ⟨rfl, rfl⟩
      case round =>
        obtain ⟨rfl, rfl⟩ := hrel
        go_wp2
        go_ret
        exact ⟨rfl, rfl⟩
set_option maxHeartbeats 1000000 in
theorem aloneTexts (q : Nat) (w : World) (c : w.cell? ⟨q, 3, none⟩ = some (.slice none 0 0)) :
    Calls Tryz.prog 35 #[.pointer (some ⟨q, 0, none⟩)] w fun e w' => e = .returned (.bool true) ∧ w' = w := by
  go_enter Tryz.func35, Tryz.ntmps35
  go_wp2
  go_loopw [3] (fun i wr => i = .int .i64 0 ∧ wr = w) (fun _ _ => 0)
  case atStart => exact ⟨rfl, rfl⟩
  case round =>
    obtain ⟨rfl, rfl⟩ := hrel
    go_wp2
    go_loopw [5, 6] (fun all i wy => all = .slice none 0 0 ∧ i = .int .i64 0 ∧ wy = wr) (fun _ _ _ => 0)
    case atStart => exact ⟨rfl, rfl, rfl⟩
    case round =>
      obtain ⟨rfl, rfl, rfl⟩ := hrel
      go_wp2
      go_loopw [9] (fun i wz => i = .int .i64 0 ∧ wz = wr) (fun _ _ => 0)
      case atStart => exact ⟨rfl, rfl⟩
      case round =>
        obtain ⟨rfl, rfl⟩ := hrel
        go_wp2
        go_ret
        exact ⟨rfl, rfl⟩
set_option maxHeartbeats 1000000 in
theorem aloneInts (q : Nat) (w : World) (c : w.cell? ⟨q, 4, none⟩ = some (.slice none 0 0)) :
    Calls Tryz.prog 36 #[.pointer (some ⟨q, 0, none⟩)] w fun e w' => e = .returned (.bool true) ∧ w' = w := by
  go_enter Tryz.func36, Tryz.ntmps36
  go_wp2
  go_loopw [3] (fun i wr => i = .int .i64 0 ∧ wr = w) (fun _ _ => 0)
  case atStart => exact ⟨rfl, rfl⟩
  case round =>
    obtain ⟨rfl, rfl⟩ := hrel
    go_wp2
    go_loopw [5, 6] (fun all i wy => all = .slice none 0 0 ∧ i = .int .i64 0 ∧ wy = wr) (fun _ _ _ => 0)
    case atStart => exact ⟨rfl, rfl, rfl⟩
    case round =>
      obtain ⟨rfl, rfl, rfl⟩ := hrel
      go_wp2
      go_loopw [9] (fun i wz => i = .int .i64 0 ∧ wz = wr) (fun _ _ => 0)
      case atStart => exact ⟨rfl, rfl⟩
      case round =>
        obtain ⟨rfl, rfl⟩ := hrel
        go_wp2
        go_ret
        exact ⟨rfl, rfl⟩
set_option maxHeartbeats 1000000 in
theorem aloneEntries (q : Nat) (w : World) (c : w.cell? ⟨q, 5, none⟩ = some (.slice none 0 0)) :
    Calls Tryz.prog 37 #[.pointer (some ⟨q, 0, none⟩)] w fun e w' => e = .returned (.bool true) ∧ w' = w := by
  go_enter Tryz.func37, Tryz.ntmps37
  go_wp2
  go_loopw [3] (fun i wr => i = .int .i64 0 ∧ wr = w) (fun _ _ => 0)
  case atStart => exact ⟨rfl, rfl⟩
  case round =>
    obtain ⟨rfl, rfl⟩ := hrel
    go_wp2
    go_loopw [5, 6] (fun all i wy => all = .slice none 0 0 ∧ i = .int .i64 0 ∧ wy = wr) (fun _ _ _ => 0)
    case atStart => exact ⟨rfl, rfl, rfl⟩
    case round =>
      obtain ⟨rfl, rfl, rfl⟩ := hrel
      go_wp2
      go_loopw [9] (fun i wz => i = .int .i64 0 ∧ wz = wr) (fun _ _ => 0)
      case atStart => exact ⟨rfl, rfl⟩
      case round =>
        obtain ⟨rfl, rfl⟩ := hrel
        go_wp2
        go_ret
        exact ⟨rfl, rfl⟩
set_option maxHeartbeats 1000000 in
theorem aloneEdits (q : Nat) (w : World) (c : w.cell? ⟨q, 6, none⟩ = some (.slice none 0 0)) :
    Calls Tryz.prog 38 #[.pointer (some ⟨q, 0, none⟩)] w fun e w' => e = .returned (.bool true) ∧ w' = w := by
  go_enter Tryz.func38, Tryz.ntmps38
  go_wp2
  go_loopw [3] (fun i wr => i = .int .i64 0 ∧ wr = w) (fun _ _ => 0)
  case atStart => exact ⟨rfl, rfl⟩
  case round =>
    obtain ⟨rfl, rfl⟩ := hrel
    go_wp2
    go_loopw [5, 6] (fun all i wy => all = .slice none 0 0 ∧ i = .int .i64 0 ∧ wy = wr) (fun _ _ _ => 0)
    case atStart => exact ⟨rfl, rfl, rfl⟩
    case round =>
      obtain ⟨rfl, rfl, rfl⟩ := hrel
      go_wp2
      go_loopw [9] (fun i wz => i = .int .i64 0 ∧ wz = wr) (fun _ _ => 0)
      case atStart => exact ⟨rfl, rfl⟩
      case round =>
        obtain ⟨rfl, rfl⟩ := hrel
        go_wp2
        go_ret
        exact ⟨rfl, rfl⟩
set_option maxHeartbeats 1000000 in
theorem aloneOps (q : Nat) (w : World) (c : w.cell? ⟨q, 7, none⟩ = some (.slice none 0 0)) :
    Calls Tryz.prog 39 #[.pointer (some ⟨q, 0, none⟩)] w fun e w' => e = .returned (.bool true) ∧ w' = w := by
  go_enter Tryz.func39, Tryz.ntmps39
  go_wp2
  go_loopw [3] (fun i wr => i = .int .i64 0 ∧ wr = w) (fun _ _ => 0)
  case atStart => exact ⟨rfl, rfl⟩
  case round =>
    obtain ⟨rfl, rfl⟩ := hrel
    go_wp2
    go_loopw [5, 6] (fun all i wy => all = .slice none 0 0 ∧ i = .int .i64 0 ∧ wy = wr) (fun _ _ _ => 0)
    case atStart => exact ⟨rfl, rfl, rfl⟩
    case round =>
      obtain ⟨rfl, rfl, rfl⟩ := hrel
      go_wp2
      go_loopw [9] (fun i wz => i = .int .i64 0 ∧ wz = wr) (fun _ _ => 0)
      case atStart => exact ⟨rfl, rfl⟩
      case round =>
        obtain ⟨rfl, rfl⟩ := hrel
        go_wp2
        go_ret
        exact ⟨rfl, rfl⟩
set_option maxHeartbeats 1000000 in
theorem aloneSpans (q : Nat) (w : World) (c : w.cell? ⟨q, 8, none⟩ = some (.slice none 0 0)) :
    Calls Tryz.prog 40 #[.pointer (some ⟨q, 0, none⟩)] w fun e w' => e = .returned (.bool true) ∧ w' = w := by
  go_enter Tryz.func40, Tryz.ntmps40
  go_wp2
  go_loopw [3] (fun i wr => i = .int .i64 0 ∧ wr = w) (fun _ _ => 0)
  case atStart => exact ⟨rfl, rfl⟩
  case round =>
    obtain ⟨rfl, rfl⟩ := hrel
    go_wp2
    go_loopw [5, 6] (fun all i wy => all = .slice none 0 0 ∧ i = .int .i64 0 ∧ wy = wr) (fun _ _ _ => 0)
    case atStart => exact ⟨rfl, rfl, rfl⟩
    case round =>
      obtain ⟨rfl, rfl, rfl⟩ := hrel
      go_wp2
      go_loopw [9] (fun i wz => i = .int .i64 0 ∧ wz = wr) (fun _ _ => 0)
      case atStart => exact ⟨rfl, rfl⟩
      case round =>
        obtain ⟨rfl, rfl⟩ := hrel
        go_wp2
        go_ret
        exact ⟨rfl, rfl⟩
set_option maxHeartbeats 1000000 in
theorem aloneSteps (q : Nat) (w : World) (c : w.cell? ⟨q, 9, none⟩ = some (.slice none 0 0)) :
    Calls Tryz.prog 41 #[.pointer (some ⟨q, 0, none⟩)] w fun e w' => e = .returned (.bool true) ∧ w' = w := by
  go_enter Tryz.func41, Tryz.ntmps41
  go_wp2
  go_loopw [3] (fun i wr => i = .int .i64 0 ∧ wr = w) (fun _ _ => 0)
  case atStart => exact ⟨rfl, rfl⟩
  case round =>
    obtain ⟨rfl, rfl⟩ := hrel
    go_wp2
    go_loopw [5, 6] (fun all i wy => all = .slice none 0 0 ∧ i = .int .i64 0 ∧ wy = wr) (fun _ _ _ => 0)
    case atStart => exact ⟨rfl, rfl, rfl⟩
    case round =>
      obtain ⟨rfl, rfl, rfl⟩ := hrel
      go_wp2
      go_loopw [9] (fun i wz => i = .int .i64 0 ∧ wz = wr) (fun _ _ => 0)
      case atStart => exact ⟨rfl, rfl⟩
      case round =>
        obtain ⟨rfl, rfl⟩ := hrel
        go_wp2
        go_ret
        exact ⟨rfl, rfl⟩
set_option maxHeartbeats 1000000 in
theorem aloneCredits (q : Nat) (w : World) (c : w.cell? ⟨q, 10, none⟩ = some (.slice none 0 0)) :
    Calls Tryz.prog 42 #[.pointer (some ⟨q, 0, none⟩)] w fun e w' => e = .returned (.bool true) ∧ w' = w := by
  go_enter Tryz.func42, Tryz.ntmps42
  go_wp2
  go_loopw [3] (fun i wr => i = .int .i64 0 ∧ wr = w) (fun _ _ => 0)
  case atStart => exact ⟨rfl, rfl⟩
  case round =>
    obtain ⟨rfl, rfl⟩ := hrel
    go_wp2
    go_loopw [5, 6] (fun all i wy => all = .slice none 0 0 ∧ i = .int .i64 0 ∧ wy = wr) (fun _ _ _ => 0)
    case atStart => exact ⟨rfl, rfl, rfl⟩
    case round =>
      obtain ⟨rfl, rfl, rfl⟩ := hrel
      go_wp2
      go_loopw [9] (fun i wz => i = .int .i64 0 ∧ wz = wr) (fun _ _ => 0)
      case atStart => exact ⟨rfl, rfl⟩
      case round =>
        obtain ⟨rfl, rfl⟩ := hrel
        go_wp2
        go_ret
        exact ⟨rfl, rfl⟩
set_option maxHeartbeats 1000000 in
theorem aloneRights (q : Nat) (w : World) (c : w.cell? ⟨q, 11, none⟩ = some (.slice none 0 0)) :
    Calls Tryz.prog 43 #[.pointer (some ⟨q, 0, none⟩)] w fun e w' => e = .returned (.bool true) ∧ w' = w := by
  go_enter Tryz.func43, Tryz.ntmps43
  go_wp2
  go_loopw [3] (fun i wr => i = .int .i64 0 ∧ wr = w) (fun _ _ => 0)
  case atStart => exact ⟨rfl, rfl⟩
  case round =>
    obtain ⟨rfl, rfl⟩ := hrel
    go_wp2
    go_loopw [5, 6] (fun all i wy => all = .slice none 0 0 ∧ i = .int .i64 0 ∧ wy = wr) (fun _ _ _ => 0)
    case atStart => exact ⟨rfl, rfl, rfl⟩
    case round =>
      obtain ⟨rfl, rfl, rfl⟩ := hrel
      go_wp2
      go_loopw [9] (fun i wz => i = .int .i64 0 ∧ wz = wr) (fun _ _ => 0)
      case atStart => exact ⟨rfl, rfl⟩
      case round =>
        obtain ⟨rfl, rfl⟩ := hrel
        go_wp2
        go_ret
        exact ⟨rfl, rfl⟩
set_option maxHeartbeats 1000000 in
theorem aloneUpdates (q : Nat) (w : World) (c : w.cell? ⟨q, 12, none⟩ = some (.slice none 0 0)) :
    Calls Tryz.prog 44 #[.pointer (some ⟨q, 0, none⟩)] w fun e w' => e = .returned (.bool true) ∧ w' = w := by
  go_enter Tryz.func44, Tryz.ntmps44
  go_wp2
  go_loopw [3] (fun i wr => i = .int .i64 0 ∧ wr = w) (fun _ _ => 0)
  case atStart => exact ⟨rfl, rfl⟩
  case round =>
    obtain ⟨rfl, rfl⟩ := hrel
    go_wp2
    go_loopw [5, 6] (fun all i wy => all = .slice none 0 0 ∧ i = .int .i64 0 ∧ wy = wr) (fun _ _ _ => 0)
    case atStart => exact ⟨rfl, rfl, rfl⟩
    case round =>
      obtain ⟨rfl, rfl, rfl⟩ := hrel
      go_wp2
      go_loopw [9] (fun i wz => i = .int .i64 0 ∧ wz = wr) (fun _ _ => 0)
      case atStart => exact ⟨rfl, rfl⟩
      case round =>
        obtain ⟨rfl, rfl⟩ := hrel
        go_wp2
        go_ret
        exact ⟨rfl, rfl⟩
set_option maxHeartbeats 1000000 in
theorem aloneNodes (q : Nat) (w : World) (c : w.cell? ⟨q, 13, none⟩ = some (.slice none 0 0)) :
    Calls Tryz.prog 45 #[.pointer (some ⟨q, 0, none⟩)] w fun e w' => e = .returned (.bool true) ∧ w' = w := by
  go_enter Tryz.func45, Tryz.ntmps45
  go_wp2
  go_loopw [3] (fun i wr => i = .int .i64 0 ∧ wr = w) (fun _ _ => 0)
  case atStart => exact ⟨rfl, rfl⟩
  case round =>
    obtain ⟨rfl, rfl⟩ := hrel
    go_wp2
    go_loopw [5, 6] (fun all i wy => all = .slice none 0 0 ∧ i = .int .i64 0 ∧ wy = wr) (fun _ _ _ => 0)
    case atStart => exact ⟨rfl, rfl, rfl⟩
    case round =>
      obtain ⟨rfl, rfl, rfl⟩ := hrel
      go_wp2
      go_loopw [9] (fun i wz => i = .int .i64 0 ∧ wz = wr) (fun _ _ => 0)
      case atStart => exact ⟨rfl, rfl⟩
      case round =>
        obtain ⟨rfl, rfl⟩ := hrel
        go_wp2
        go_ret
        exact ⟨rfl, rfl⟩
set_option maxHeartbeats 1000000 in
theorem alonePatches (q : Nat) (w : World) (c : w.cell? ⟨q, 14, none⟩ = some (.slice none 0 0)) :
    Calls Tryz.prog 46 #[.pointer (some ⟨q, 0, none⟩)] w fun e w' => e = .returned (.bool true) ∧ w' = w := by
  go_enter Tryz.func46, Tryz.ntmps46
  go_wp2
  go_loopw [3] (fun i wr => i = .int .i64 0 ∧ wr = w) (fun _ _ => 0)
  case atStart => exact ⟨rfl, rfl⟩
  case round =>
    obtain ⟨rfl, rfl⟩ := hrel
    go_wp2
    go_loopw [5, 6] (fun all i wy => all = .slice none 0 0 ∧ i = .int .i64 0 ∧ wy = wr) (fun _ _ _ => 0)
    case atStart => exact ⟨rfl, rfl, rfl⟩
    case round =>
      obtain ⟨rfl, rfl, rfl⟩ := hrel
      go_wp2
      go_loopw [9] (fun i wz => i = .int .i64 0 ∧ wz = wr) (fun _ _ => 0)
      case atStart => exact ⟨rfl, rfl⟩
      case round =>
        obtain ⟨rfl, rfl⟩ := hrel
        go_wp2
        go_ret
        exact ⟨rfl, rfl⟩
set_option maxHeartbeats 1000000 in
theorem aloneImages (q : Nat) (w : World) (c : w.cell? ⟨q, 15, none⟩ = some (.slice none 0 0)) :
    Calls Tryz.prog 47 #[.pointer (some ⟨q, 0, none⟩)] w fun e w' => e = .returned (.bool true) ∧ w' = w := by
  go_enter Tryz.func47, Tryz.ntmps47
  go_wp2
  go_loopw [3] (fun i wr => i = .int .i64 0 ∧ wr = w) (fun _ _ => 0)
  case atStart => exact ⟨rfl, rfl⟩
  case round =>
    obtain ⟨rfl, rfl⟩ := hrel
    go_wp2
    go_loopw [5, 6] (fun all i wy => all = .slice none 0 0 ∧ i = .int .i64 0 ∧ wy = wr) (fun _ _ _ => 0)
    case atStart => exact ⟨rfl, rfl, rfl⟩
    case round =>
      obtain ⟨rfl, rfl, rfl⟩ := hrel
      go_wp2
      go_loopw [9] (fun i wz => i = .int .i64 0 ∧ wz = wr) (fun _ _ => 0)
      case atStart => exact ⟨rfl, rfl⟩
      case round =>
        obtain ⟨rfl, rfl⟩ := hrel
        go_wp2
        go_ret
        exact ⟨rfl, rfl⟩
set_option maxHeartbeats 1000000 in
theorem aloneForks (q : Nat) (w : World) (c : w.cell? ⟨q, 16, none⟩ = some (.slice none 0 0)) :
    Calls Tryz.prog 48 #[.pointer (some ⟨q, 0, none⟩)] w fun e w' => e = .returned (.bool true) ∧ w' = w := by
  go_enter Tryz.func48, Tryz.ntmps48
  go_wp2
  go_loopw [3] (fun i wr => i = .int .i64 0 ∧ wr = w) (fun _ _ => 0)
  case atStart => exact ⟨rfl, rfl⟩
  case round =>
    obtain ⟨rfl, rfl⟩ := hrel
    go_wp2
    go_loopw [5, 6] (fun all i wy => all = .slice none 0 0 ∧ i = .int .i64 0 ∧ wy = wr) (fun _ _ _ => 0)
    case atStart => exact ⟨rfl, rfl, rfl⟩
    case round =>
      obtain ⟨rfl, rfl, rfl⟩ := hrel
      go_wp2
      go_loopw [9] (fun i wz => i = .int .i64 0 ∧ wz = wr) (fun _ _ => 0)
      case atStart => exact ⟨rfl, rfl⟩
      case round =>
        obtain ⟨rfl, rfl⟩ := hrel
        go_wp2
        go_ret
        exact ⟨rfl, rfl⟩
set_option maxHeartbeats 1000000 in
theorem aloneRows (q : Nat) (w : World) (c : w.cell? ⟨q, 17, none⟩ = some (.slice none 0 0)) :
    Calls Tryz.prog 49 #[.pointer (some ⟨q, 0, none⟩)] w fun e w' => e = .returned (.bool true) ∧ w' = w := by
  go_enter Tryz.func49, Tryz.ntmps49
  go_wp2
  go_loopw [3] (fun i wr => i = .int .i64 0 ∧ wr = w) (fun _ _ => 0)
  case atStart => exact ⟨rfl, rfl⟩
  case round =>
    obtain ⟨rfl, rfl⟩ := hrel
    go_wp2
    go_loopw [5, 6] (fun all i wy => all = .slice none 0 0 ∧ i = .int .i64 0 ∧ wy = wr) (fun _ _ _ => 0)
    case atStart => exact ⟨rfl, rfl, rfl⟩
    case round =>
      obtain ⟨rfl, rfl, rfl⟩ := hrel
      go_wp2
      go_loopw [9] (fun i wz => i = .int .i64 0 ∧ wz = wr) (fun _ _ => 0)
      case atStart => exact ⟨rfl, rfl⟩
      case round =>
        obtain ⟨rfl, rfl⟩ := hrel
        go_wp2
        go_ret
        exact ⟨rfl, rfl⟩
end Go.Proofs.YtldlljobofnmmaaGreatDoor
namespace Go.Proofs.YtldlljobofnmmaaGreatDoor.B
open Go.RowKit
set_option linter.unusedVariables false
set_option linter.unusedSimpArgs false
def bkR (tv ev : Value) : Array Value := #[.slice none 0 0, .slice none 0 0, .slice none 0 0, tv, .slice none 0 0, ev, .slice none 0 0, .slice none 0 0, .slice none 0 0, .slice none 0 0, .slice none 0 0, .slice none 0 0, .slice none 0 0, .slice none 0 0, .slice none 0 0, .slice none 0 0, .slice none 0 0, .slice none 0 0]
theorem ty_ne {w : World} {b base e sz n t : Nat} {v : Value} {xs : List Value} {C : Array Value} {fr : Nat × Nat} (hq : w.heap[b]? = some (.cells C t fr)) (h : w.ownsRow base e sz v n xs) (ht : t ≠ e) : v.ownBlock ≠ some b := fun e1 => by
  rcases h.2 with ⟨rfl, _⟩ | ⟨g, cap, cur, rfl, _, hg, _⟩
  · cases e1
  · simp [Value.ownBlock] at e1
    subst e1
    rw [hq] at hg
    injection hg with hg
    injection hg with _ h2 _
    exact ht h2
theorem own_ty {w : World} {base e sz n b : Nat} {v : Value} {xs : List Value} (h : w.ownsRow base e sz v n xs) (e1 : v.ownBlock = some b) : ∃ C, w.heap[b]? = some (.cells C e (0, 0)) := by
  rcases h.2 with ⟨rfl, _⟩ | ⟨g, cap, cur, rfl, _, hg, _⟩
  · cases e1
  · simp [Value.ownBlock] at e1
    subst e1
    exact ⟨cur, hg⟩
set_option maxHeartbeats 1000000 in
theorem tkT_any (q base : Nat) (tv ev : Value) (rows : List Value) (a : Option Addr) (n c : Nat) (w : World) (hq : w.heap[q]? = some (.cells (bkR tv ev) 54 (0, 0))) (hr : w.ownsRow base 74 1 tv rows.length rows) (hn : rows.length ≤ 2600000000000) (hbq : base ≤ q) :
    Calls Tryz.prog 11 #[.pointer (some ⟨q, 0, none⟩), .slice a n c] w fun e w' => e = .returned (.tuple #[]) ∧ (∃ u, w'.heap[q]? = some (.cells (bkR u ev) 54 (0, 0)) ∧ w'.ownsRow base 74 1 u (rows.length + 1) (rows ++ [.slice a n c]) ∧ (u.ownBlock = tv.ownBlock ∨ ∃ b, u.ownBlock = some b ∧ w.heap.size ≤ b)) ∧ Below base w w' ∧ ∀ k, k < w.heap.size → k ≠ q → tv.ownBlock ≠ some k → w'.heap[k]? = w.heap[k]? := by
  have hne : tv.ownBlock ≠ some q := ty_ne hq hr (by decide)
  have zq : q < w.heap.size := (Array.getElem?_eq_some_iff.1 hq).1
  obtain ⟨sv, w1, qv, w2, e1, e2, o2, b1, g2, h2⟩ := app_gen Tryz.underlying38 infoTl rfl (by decide) (x := [.slice a n c]) (xv := .slice a n c) rfl (fun u hu => by simp at hu; subst hu; rfl) (run_bs1 38 74 24 (.slice none 0 0) Tryz.underlying38 infoTl rfl (.slice a n c) rfl w) hr (by unfold maxLen; omega) (by omega) (by omega)
  have z1 := b1.size
  have z2 := g2.size
  have hq2 : w2.heap[q]? = some (.cells (bkR tv ev) 54 (0, 0)) := (g2.block q (by omega) (fun e => hne e.symm)).trans ((b1.block q zq).trans hq)
  have hne2 : qv.ownBlock ≠ some q := ty_ne hq2 o2 (by decide)
  have c0 := (cell_of_row w q 3 _ _ _ hq).trans (show (bkR tv ev)[3]? = some tv from rfl)
  have d0 := (cell_of_row w2 q 3 _ _ _ hq2).trans (show (bkR tv ev)[3]? = some tv from rfl)
  have f0 := frozen_of_row w2 q 3 _ _ hq2
  obtain ⟨ga, gc, rfl⟩ := own_slice o2
  have ES : (Instr.storeAt 38 (.pointer (some ⟨q, 0 + 3, none⟩)) (.slice ga (rows.length + 1) gc)).run Tryz.prog w2 = .ok () (w2.setCell ⟨q, 3, none⟩ (.slice ga (rows.length + 1) gc)) := by
    show (Instr.storeAt 38 (.pointer (some ⟨q, 3, none⟩)) (.slice ga (rows.length + 1) gc)).run Tryz.prog w2 = _
    go_simp
  have W1 : Hid ((w2.setCell ⟨q, 3, none⟩ (.slice ga (rows.length + 1) gc)).heap[q]? = some (.cells (bkR (.slice ga (rows.length + 1) gc) ev) 54 (0, 0))) := by rw [heap_setCell_same w2 q 3 _ 54 _ hq2]; exact rfl
  have W2 := hidMk (own_other (j := 3) (u := .slice ga (rows.length + 1) gc) o2 hne2)
  have B1 : Hid (Below base w (w2.setCell ⟨q, 3, none⟩ (.slice ga (rows.length + 1) gc))) := (((b1.mono (by omega)).grown g2 (by omega) (fun k hk => (World.ownsRow.lt hr k hk).1))).setCell hbq _
  have FR : Hid (∀ k, k < w.heap.size → k ≠ q → tv.ownBlock ≠ some k → (w2.setCell ⟨q, 3, none⟩ (.slice ga (rows.length + 1) gc)).heap[k]? = w.heap[k]?) := fun k hk hkq hko => by
    rw [Below.heap_setCell _ _ _ _ hkq, g2.block k (by omega) (fun e => hko e.symm)]
    exact b1.block k hk
  have H5 : Hid ((Value.slice ga (rows.length + 1) gc).ownBlock = tv.ownBlock ∨ ∃ b, (Value.slice ga (rows.length + 1) gc).ownBlock = some b ∧ w.heap.size ≤ b) := by
    rcases h2 with e | ⟨e, _⟩
    · exact Or.inl e
    · exact Or.inr ⟨_, e, z1⟩
  have E1 := hidMk e1
  have E2 := hidMk e2
  have E3 := hidMk ES
  have C0 := hidMk c0
  clear hq hr hne e1 e2 o2 b1 g2 h2 hq2 hne2 c0 d0 f0 ES z1 z2
  go_enter Tryz.func11, Tryz.ntmps11
  refine tkT0 (q := q) (lv := .slice a n c) (av := tv) (sv := sv) (rv := .slice ga (rows.length + 1) gc) (w1 := w1) (w2 := w2) (w3 := w2.setCell ⟨q, 3, none⟩ (.slice ga (rows.length + 1) gc)) _ w _ rfl rfl rfl (fun W e => by rw [e]; exact ld_tt (o := 0 + 3) C0.out) E1.out E2.out E3.out ?_
  intro a' w' hw' ha
  subst hw' ha
  go_end0
  exact ⟨rfl, ⟨_, W1.out, W2.out, H5.out⟩, B1.out, FR.out⟩
set_option maxHeartbeats 1000000 in
theorem tkE_any (q base : Nat) (tv ev : Value) (rows : List Value) (a : Option Addr) (n c : Nat) (w : World) (hq : w.heap[q]? = some (.cells (bkR tv ev) 54 (0, 0))) (hr : w.ownsRow base 71 1 ev rows.length rows) (hn : rows.length ≤ 2600000000000) (hbq : base ≤ q) :
    Calls Tryz.prog 9 #[.pointer (some ⟨q, 0, none⟩), .slice a n c] w fun e w' => e = .returned (.tuple #[]) ∧ (∃ u, w'.heap[q]? = some (.cells (bkR tv u) 54 (0, 0)) ∧ w'.ownsRow base 71 1 u (rows.length + 1) (rows ++ [.slice a n c]) ∧ (u.ownBlock = ev.ownBlock ∨ ∃ b, u.ownBlock = some b ∧ w.heap.size ≤ b)) ∧ Below base w w' ∧ ∀ k, k < w.heap.size → k ≠ q → ev.ownBlock ≠ some k → w'.heap[k]? = w.heap[k]? := by
  have hne : ev.ownBlock ≠ some q := ty_ne hq hr (by decide)
  have zq : q < w.heap.size := (Array.getElem?_eq_some_iff.1 hq).1
  obtain ⟨sv, w1, qv, w2, e1, e2, o2, b1, g2, h2⟩ := app_gen Tryz.underlying40 infoEl rfl (by decide) (x := [.slice a n c]) (xv := .slice a n c) rfl (fun u hu => by simp at hu; subst hu; rfl) (run_bs1 40 71 24 (.slice none 0 0) Tryz.underlying40 infoEl rfl (.slice a n c) rfl w) hr (by unfold maxLen; omega) (by omega) (by omega)
  have z1 := b1.size
  have z2 := g2.size
  have hq2 : w2.heap[q]? = some (.cells (bkR tv ev) 54 (0, 0)) := (g2.block q (by omega) (fun e => hne e.symm)).trans ((b1.block q zq).trans hq)
  have hne2 : qv.ownBlock ≠ some q := ty_ne hq2 o2 (by decide)
  have c0 := (cell_of_row w q 5 _ _ _ hq).trans (show (bkR tv ev)[5]? = some ev from rfl)
  have d0 := (cell_of_row w2 q 5 _ _ _ hq2).trans (show (bkR tv ev)[5]? = some ev from rfl)
  have f0 := frozen_of_row w2 q 5 _ _ hq2
  obtain ⟨ga, gc, rfl⟩ := own_slice o2
  have ES : (Instr.storeAt 40 (.pointer (some ⟨q, 0 + 5, none⟩)) (.slice ga (rows.length + 1) gc)).run Tryz.prog w2 = .ok () (w2.setCell ⟨q, 5, none⟩ (.slice ga (rows.length + 1) gc)) := by
    show (Instr.storeAt 40 (.pointer (some ⟨q, 5, none⟩)) (.slice ga (rows.length + 1) gc)).run Tryz.prog w2 = _
    go_simp
  have W1 : Hid ((w2.setCell ⟨q, 5, none⟩ (.slice ga (rows.length + 1) gc)).heap[q]? = some (.cells (bkR tv (.slice ga (rows.length + 1) gc)) 54 (0, 0))) := by rw [heap_setCell_same w2 q 5 _ 54 _ hq2]; exact rfl
  have W2 := hidMk (own_other (j := 5) (u := .slice ga (rows.length + 1) gc) o2 hne2)
  have B1 : Hid (Below base w (w2.setCell ⟨q, 5, none⟩ (.slice ga (rows.length + 1) gc))) := (((b1.mono (by omega)).grown g2 (by omega) (fun k hk => (World.ownsRow.lt hr k hk).1))).setCell hbq _
  have FR : Hid (∀ k, k < w.heap.size → k ≠ q → ev.ownBlock ≠ some k → (w2.setCell ⟨q, 5, none⟩ (.slice ga (rows.length + 1) gc)).heap[k]? = w.heap[k]?) := fun k hk hkq hko => by
    rw [Below.heap_setCell _ _ _ _ hkq, g2.block k (by omega) (fun e => hko e.symm)]
    exact b1.block k hk
  have H5 : Hid ((Value.slice ga (rows.length + 1) gc).ownBlock = ev.ownBlock ∨ ∃ b, (Value.slice ga (rows.length + 1) gc).ownBlock = some b ∧ w.heap.size ≤ b) := by
    rcases h2 with e | ⟨e, _⟩
    · exact Or.inl e
    · exact Or.inr ⟨_, e, z1⟩
  have E1 := hidMk e1
  have E2 := hidMk e2
  have E3 := hidMk ES
  have C0 := hidMk c0
  clear hq hr hne e1 e2 o2 b1 g2 h2 hq2 hne2 c0 d0 f0 ES z1 z2
  go_enter Tryz.func9, Tryz.ntmps9
  refine tkE0 (q := q) (lv := .slice a n c) (av := ev) (sv := sv) (rv := .slice ga (rows.length + 1) gc) (w1 := w1) (w2 := w2) (w3 := w2.setCell ⟨q, 5, none⟩ (.slice ga (rows.length + 1) gc)) _ w _ rfl rfl rfl (fun W e => by rw [e]; exact ld_ee (o := 0 + 5) C0.out) E1.out E2.out E3.out ?_
  intro a' w' hw' ha
  subst hw' ha
  go_end0
  exact ⟨rfl, ⟨_, W1.out, W2.out, H5.out⟩, B1.out, FR.out⟩
theorem row_open {w : World} {base e N : Nat} {all : Value} {V : Nat → Lst} (h : w.ownsRow base e 1 all N ((List.range N).map fun i => (V i).v)) (hN : 1 ≤ N) : ∃ Bk cB C, all = .slice (some ⟨Bk, 0, none⟩) N cB ∧ Bk < w.heap.size ∧ (∀ i, i < N → w.cell? ⟨Bk, i, none⟩ = some (V i).v) ∧ w.heap[Bk]? = some (.cells C e (0, 0)) := by
  have hc := fun g hg => World.ownsRow.cells h (g := g) hg
  rcases h.2 with ⟨_, hn0⟩ | ⟨g, cap, cur, rfl, hbg, hg, _⟩
  · omega
  · refine ⟨g, cap, cur, rfl, (Array.getElem?_eq_some_iff.1 hg).1, fun i hi => ?_, hg⟩
    have := hc g rfl i (V i).v (by rw [List.getElem?_map, List.getElem?_range hi]; rfl)
    rw [Addr.add_mid, Nat.zero_add] at this
    exact this
def StA (q base N : Nat) (V : Nat → Lst) (w : World) (e : Ending) (w' : World) : Prop := e = .returned (.bool true) ∧ Below base w w' ∧ w'.heap[q]? = w.heap[q]? ∧ ∀ k, k < w.heap.size → (∀ i, i < N → (V i).v.ownBlock ≠ some k) → w'.heap[k]? = w.heap[k]?
theorem alT_all (q base N : Nat) (tv ev : Value) (V : Nat → Lst) (L : Nat → List Value) (w : World) (hN : N ≤ 2600000000000) (hq : w.heap[q]? = some (.cells (bkR tv ev) 54 (0, 0))) (rows : w.ownsRow base 74 1 tv N ((List.range N).map fun i => (V i).v)) (hn : ∀ i, i < N → (V i).n ≤ 1700000000000)
    (ow : ∀ i, i < N → w.ownsRow base 9 1 (V i).v (V i).n (L i)) (sep : ∀ i j, i < N → j < N → ∀ b, (V i).v.ownBlock = some b → (V j).v.ownBlock = some b → i = j) (h0 : N = 0 → tv = .slice none 0 0) (hb : base ≤ w.heap.size) :
    Calls Tryz.prog 35 #[.pointer (some ⟨q, 0, none⟩)] w (StA q base N V w) := by
  by_cases hN1 : N = 0
  · have hv := h0 hN1
    refine (aloneTexts q w ?_).mono ?_
    · rw [(cell_of_row w q 3 _ _ _ hq).trans (show (bkR tv ev)[3]? = some tv from rfl), hv]
    · rintro e w' ⟨rfl, hw⟩
      rw [hw]
      exact ⟨rfl, Below.refl _ _, rfl, fun _ _ _ => rfl⟩
  · obtain ⟨Bk, cB, C, rfl, lB, cc, hB⟩ := row_open rows (by omega)
    have c0 := (cell_of_row w q 3 _ _ _ hq).trans (show (bkR (.slice (some ⟨Bk, 0, none⟩) N cB) ev)[3]? = some (.slice (some ⟨Bk, 0, none⟩) N cB) from rfl)
    exact (aloneTexts_any q Bk cB base N _ V L (tgOf N V) w (by omega) hN hn ⟨⟨c0, cc, hq, lB⟩, tgOf_no q (fun i hi => ty_ne hq (ow i hi) (by decide)), tgOf_no Bk (fun i hi => ty_ne hB (ow i hi) (by decide)), fun i hi => ⟨ow i hi, tgOf_own sep i hi⟩, Below.refl _ _, fun _ _ _ => rfl⟩ hb).mono fun e w' h => ⟨h.1, h.2.1, h.2.2.1.trans hq.symm, fun k hk hi => h.2.2.2 k hk (tgOf_no k hi)⟩
theorem alE_all (q base N : Nat) (tv ev : Value) (V : Nat → Lst) (L : Nat → List EnV) (w : World) (hN : N ≤ 2600000000000) (hq : w.heap[q]? = some (.cells (bkR tv ev) 54 (0, 0))) (rows : w.ownsRow base 71 1 ev N ((List.range N).map fun i => (V i).v)) (hn : ∀ i, i < N → (V i).n ≤ 1700000000000) (hLn : ∀ i, i < N → (L i).length = (V i).n) (okL : ∀ i, i < N → ∀ x ∈ L i, x.ok)
    (ow : ∀ i, i < N → w.ownsRow base 85 37 (V i).v (V i).n (RN.flat (L i))) (sep : ∀ i j, i < N → j < N → ∀ b, (V i).v.ownBlock = some b → (V j).v.ownBlock = some b → i = j) (h0 : N = 0 → ev = .slice none 0 0) (hb : base ≤ w.heap.size) :
    Calls Tryz.prog 37 #[.pointer (some ⟨q, 0, none⟩)] w (StA q base N V w) := by
  by_cases hN1 : N = 0
  · have hv := h0 hN1
    refine (aloneEntries q w ?_).mono ?_
    · rw [(cell_of_row w q 5 _ _ _ hq).trans (show (bkR tv ev)[5]? = some ev from rfl), hv]
    · rintro e w' ⟨rfl, hw⟩
      rw [hw]
      exact ⟨rfl, Below.refl _ _, rfl, fun _ _ _ => rfl⟩
  · obtain ⟨Bk, cB, C, rfl, lB, cc, hB⟩ := row_open rows (by omega)
    have c0 := (cell_of_row w q 5 _ _ _ hq).trans (show (bkR tv (.slice (some ⟨Bk, 0, none⟩) N cB))[5]? = some (.slice (some ⟨Bk, 0, none⟩) N cB) from rfl)
    exact (aloneEntries_any q Bk cB base N _ V L (tgOf N V) w (by omega) hN hn hLn okL ⟨⟨c0, cc, hq, lB⟩, tgOf_no q (fun i hi => ty_ne hq (ow i hi) (by decide)), tgOf_no Bk (fun i hi => ty_ne hB (ow i hi) (by decide)), fun i hi => ⟨ow i hi, tgOf_own sep i hi⟩, Below.refl _ _, fun _ _ _ => rfl⟩ hb).mono fun e w' h => ⟨h.1, h.2.1, h.2.2.1.trans hq.symm, fun k hk hi => h.2.2.2 k hk (tgOf_no k hi)⟩
theorem below_setRowZ (B : Nat) (w : World) (g : Nat) (cs : Array Value) (h : B ≤ g) : Below B w (w.setRow g cs) :=
  ⟨rfl, rfl, rfl, by simp, fun k hk => setRow_other w g k cs (by omega)⟩
theorem hbBkR : Tryz.prog.built 54 [] = some (bkR (.slice none 0 0) (.slice none 0 0)) := by kernel_rfl
theorem hsBkR : (Tryz.prog.info? 54).map (·.size) = some 18 := by kernel_rfl
theorem honeR : (bkR (.slice none 0 0) (.slice none 0 0)).all (·.oneCell') = true := by kernel_rfl
theorem bookR_any (q base NT NE : Nat) (tv ev : Value) (VT VE : Nat → Lst) (w : World) (hq : w.heap[q]? = some (.cells (bkR tv ev) 54 (0, 0))) (hbq : base ≤ q)
    (CT : Calls Tryz.prog 35 #[.pointer (some ⟨q, 0, none⟩)] w (StA q base NT VT w)) (CE : ∀ w1, StA q base NT VT w (.returned (.bool true)) w1 → Calls Tryz.prog 37 #[.pointer (some ⟨q, 0, none⟩)] w1 (StA q base NE VE w1)) :
    Calls Tryz.prog 13 #[.pointer (some ⟨q, 0, none⟩)] w fun e w' => e = .returned (.bool true) ∧ Below base w w' ∧ ∀ k, k < w.heap.size → k ≠ q → (∀ i, i < NT → (VT i).v.ownBlock ≠ some k) → (∀ i, i < NE → (VE i).v.ownBlock ≠ some k) → w'.heap[k]? = w.heap[k]? := by
  have CBytes : Hid (Calls Tryz.prog 32 #[.pointer (some ⟨q, 0, none⟩)] w fun e w' => e = .returned (.bool true) ∧ w' = w) := aloneBytes q w ((cell_of_row w q 0 _ _ _ hq).trans rfl)
  have CHashes : Hid (Calls Tryz.prog 33 #[.pointer (some ⟨q, 0, none⟩)] w fun e w' => e = .returned (.bool true) ∧ w' = w) := aloneHashes q w ((cell_of_row w q 1 _ _ _ hq).trans rfl)
  have CIds : Hid (Calls Tryz.prog 34 #[.pointer (some ⟨q, 0, none⟩)] w fun e w' => e = .returned (.bool true) ∧ w' = w) := aloneIds q w ((cell_of_row w q 2 _ _ _ hq).trans rfl)
  have HCT := hidMk CT
  have HCE := hidMk CE
  have HQ := hidMk hq
  clear CT CE hq
  go_enter Tryz.func13, Tryz.ntmps13
  go_wp2_with fail
  refine (CBytes.out).mono ?_
  rintro e wy ⟨rfl, hwy⟩
  obtain rfl : w = wy := hwy.symm
  go_wp2_with fail
  refine (CHashes.out).mono ?_
  rintro e wy ⟨rfl, hwy⟩
  obtain rfl : w = wy := hwy.symm
  go_wp2_with fail
  refine (CIds.out).mono ?_
  rintro e wy ⟨rfl, hwy⟩
  obtain rfl : w = wy := hwy.symm
  go_wp2_with fail
  refine HCT.out.mono ?_
  rintro e w1 ⟨rfl, b1, hq1', fr1⟩
  have ST1 := hidMk (And.intro b1 (And.intro hq1' fr1))
  have hq1 : w1.heap[q]? = some (.cells (bkR tv ev) 54 (0, 0)) := hq1'.trans HQ.out
  have CInts : Hid (Calls Tryz.prog 36 #[.pointer (some ⟨q, 0, none⟩)] w1 fun e w' => e = .returned (.bool true) ∧ w' = w1) := aloneInts q w1 ((cell_of_row w1 q 4 _ _ _ hq1).trans rfl)
  have HQ1 := hidMk hq1
  clear hq1 hq1' fr1 b1 HCT CBytes CHashes CIds
  go_wp2_with fail
  refine (CInts.out).mono ?_
  rintro e wy ⟨rfl, hwy⟩
  obtain rfl : w1 = wy := hwy.symm
  go_wp2_with fail
  refine (HCE.out _ ⟨rfl, ST1.out.1, ST1.out.2.1, ST1.out.2.2⟩).mono ?_
  rintro e w2 ⟨rfl, b2, hq2', fr2⟩
  have ST2 := hidMk (And.intro b2 fr2)
  have hq2 : w2.heap[q]? = some (.cells (bkR tv ev) 54 (0, 0)) := hq2'.trans HQ1.out
  clear b2 hq2' fr2 HCE CInts
  have CEdits : Hid (Calls Tryz.prog 38 #[.pointer (some ⟨q, 0, none⟩)] w2 fun e w' => e = .returned (.bool true) ∧ w' = w2) := aloneEdits q w2 ((cell_of_row w2 q 6 _ _ _ hq2).trans rfl)
  have COps : Hid (Calls Tryz.prog 39 #[.pointer (some ⟨q, 0, none⟩)] w2 fun e w' => e = .returned (.bool true) ∧ w' = w2) := aloneOps q w2 ((cell_of_row w2 q 7 _ _ _ hq2).trans rfl)
  have CSpans : Hid (Calls Tryz.prog 40 #[.pointer (some ⟨q, 0, none⟩)] w2 fun e w' => e = .returned (.bool true) ∧ w' = w2) := aloneSpans q w2 ((cell_of_row w2 q 8 _ _ _ hq2).trans rfl)
  have CSteps : Hid (Calls Tryz.prog 41 #[.pointer (some ⟨q, 0, none⟩)] w2 fun e w' => e = .returned (.bool true) ∧ w' = w2) := aloneSteps q w2 ((cell_of_row w2 q 9 _ _ _ hq2).trans rfl)
  have CCredits : Hid (Calls Tryz.prog 42 #[.pointer (some ⟨q, 0, none⟩)] w2 fun e w' => e = .returned (.bool true) ∧ w' = w2) := aloneCredits q w2 ((cell_of_row w2 q 10 _ _ _ hq2).trans rfl)
  have CRights : Hid (Calls Tryz.prog 43 #[.pointer (some ⟨q, 0, none⟩)] w2 fun e w' => e = .returned (.bool true) ∧ w' = w2) := aloneRights q w2 ((cell_of_row w2 q 11 _ _ _ hq2).trans rfl)
  have CUpdates : Hid (Calls Tryz.prog 44 #[.pointer (some ⟨q, 0, none⟩)] w2 fun e w' => e = .returned (.bool true) ∧ w' = w2) := aloneUpdates q w2 ((cell_of_row w2 q 12 _ _ _ hq2).trans rfl)
  have CNodes : Hid (Calls Tryz.prog 45 #[.pointer (some ⟨q, 0, none⟩)] w2 fun e w' => e = .returned (.bool true) ∧ w' = w2) := aloneNodes q w2 ((cell_of_row w2 q 13 _ _ _ hq2).trans rfl)
  have CPatches : Hid (Calls Tryz.prog 46 #[.pointer (some ⟨q, 0, none⟩)] w2 fun e w' => e = .returned (.bool true) ∧ w' = w2) := alonePatches q w2 ((cell_of_row w2 q 14 _ _ _ hq2).trans rfl)
  have CImages : Hid (Calls Tryz.prog 47 #[.pointer (some ⟨q, 0, none⟩)] w2 fun e w' => e = .returned (.bool true) ∧ w' = w2) := aloneImages q w2 ((cell_of_row w2 q 15 _ _ _ hq2).trans rfl)
  have CForks : Hid (Calls Tryz.prog 48 #[.pointer (some ⟨q, 0, none⟩)] w2 fun e w' => e = .returned (.bool true) ∧ w' = w2) := aloneForks q w2 ((cell_of_row w2 q 16 _ _ _ hq2).trans rfl)
  have CRows : Hid (Calls Tryz.prog 49 #[.pointer (some ⟨q, 0, none⟩)] w2 fun e w' => e = .returned (.bool true) ∧ w' = w2) := aloneRows q w2 ((cell_of_row w2 q 17 _ _ _ hq2).trans rfl)
  go_wp2_with fail
  refine (CEdits.out).mono ?_
  rintro e wy ⟨rfl, hwy⟩
  obtain rfl : w2 = wy := hwy.symm
  go_wp2_with fail
  refine (COps.out).mono ?_
  rintro e wy ⟨rfl, hwy⟩
  obtain rfl : w2 = wy := hwy.symm
  go_wp2_with fail
  refine (CSpans.out).mono ?_
  rintro e wy ⟨rfl, hwy⟩
  obtain rfl : w2 = wy := hwy.symm
  go_wp2_with fail
  refine (CSteps.out).mono ?_
  rintro e wy ⟨rfl, hwy⟩
  obtain rfl : w2 = wy := hwy.symm
  go_wp2_with fail
  refine (CCredits.out).mono ?_
  rintro e wy ⟨rfl, hwy⟩
  obtain rfl : w2 = wy := hwy.symm
  go_wp2_with fail
  refine (CRights.out).mono ?_
  rintro e wy ⟨rfl, hwy⟩
  obtain rfl : w2 = wy := hwy.symm
  go_wp2_with fail
  refine (CUpdates.out).mono ?_
  rintro e wy ⟨rfl, hwy⟩
  obtain rfl : w2 = wy := hwy.symm
  go_wp2_with fail
  refine (CNodes.out).mono ?_
  rintro e wy ⟨rfl, hwy⟩
  obtain rfl : w2 = wy := hwy.symm
  go_wp2_with fail
  refine (CPatches.out).mono ?_
  rintro e wy ⟨rfl, hwy⟩
  obtain rfl : w2 = wy := hwy.symm
  go_wp2_with fail
  refine (CImages.out).mono ?_
  rintro e wy ⟨rfl, hwy⟩
  obtain rfl : w2 = wy := hwy.symm
  go_wp2_with fail
  refine (CForks.out).mono ?_
  rintro e wy ⟨rfl, hwy⟩
  obtain rfl : w2 = wy := hwy.symm
  go_wp2_with fail
  refine (CRows.out).mono ?_
  rintro e wy ⟨rfl, hwy⟩
  obtain rfl : w2 = wy := hwy.symm
  clear CEdits COps CSpans CSteps CCredits CRights CUpdates CNodes CPatches CImages CForks CRows
  go_wp2_with (first | (refine wpList_build_row rfl 54 rfl (bkR (.slice none 0 0) (.slice none 0 0)) hbBkR ?_) | (refine wpList_store_row rfl 54 (.tmp 76) (.tmp 75) rfl q (bkR (.slice none 0 0) (.slice none 0 0)) rfl rfl 54 (bkR tv ev) hq2 (hsBkR.trans rfl) rfl honeR ?_) | fail)
  go_ret
  refine ⟨rfl, (ST1.out.1.trans ST2.out.1).trans (below_setRowZ _ _ _ _ hbq), fun k hk hkq hi he => (setRow_other _ _ _ _ hkq).trans ((ST2.out.2 k (Nat.lt_of_lt_of_le hk ST1.out.1.size) he).trans (ST1.out.2.2 k hk hi))⟩
end Go.Proofs.YtldlljobofnmmaaGreatDoor.B
namespace Go.Proofs.YtldlljobofnmmaaGreatDoor
open Go.RowKit
set_option linter.unusedVariables false
set_option linter.unusedSimpArgs false
def inB (q : Nat) (tv : Value) (RT : List (B.Lst × List Value)) (ev : Value) (RE : List (B.Lst × List EnV)) (j : Nat) : Prop := j = q ∨ tv.ownBlock = some j ∨ ev.ownBlock = some j ∨ (∃ r ∈ RT, r.1.v.ownBlock = some j) ∨ ∃ r ∈ RE, r.1.v.ownBlock = some j
structure TB (bb q : Nat) (w : World) (tv : Value) (RT : List (B.Lst × List Value)) (ev : Value) (RE : List (B.Lst × List EnV)) : Prop where
  hq : w.heap[q]? = some (.cells (B.bkR tv ev) 54 (0, 0))
  rt : w.ownsRow bb 74 1 tv RT.length (RT.map fun r => r.1.v)
  re : w.ownsRow bb 71 1 ev RE.length (RE.map fun r => r.1.v)
  bq : bb ≤ q
  ot : ∀ r ∈ RT, w.ownsRow bb 9 1 r.1.v r.1.n r.2 ∧ r.1.n ≤ 1700000000000
  oe : ∀ r ∈ RE, RN.Own w bb r.1.v r.2 ∧ r.1.n = r.2.length ∧ r.1.n ≤ 1700000000000 ∧ ∀ x ∈ r.2, x.ok
  st : ∀ (i j : Nat) (r r' : B.Lst × List Value) (b : Nat), RT[i]? = some r → RT[j]? = some r' → r.1.v.ownBlock = some b → r'.1.v.ownBlock = some b → i = j
  se : ∀ (i j : Nat) (r r' : B.Lst × List EnV) (b : Nat), RE[i]? = some r → RE[j]? = some r' → r.1.v.ownBlock = some b → r'.1.v.ownBlock = some b → i = j
  nt : RT = [] → tv = .slice none 0 0
  ne : RE = [] → ev = .slice none 0 0
theorem own_base {w : World} {b b' e sz n : Nat} {v : Value} {xs : List Value} (h : w.ownsRow b e sz v n xs) (hb : b' ≤ b) : w.ownsRow b' e sz v n xs := by
  refine ⟨h.1, ?_⟩
  rcases h.2 with hn | ⟨g, cap, cur, e1, hbg, rest⟩
  · exact .inl hn
  · exact .inr ⟨g, cap, cur, e1, Nat.le_trans hb hbg, rest⟩
section
variable {bb q : Nat} {w w' : World} {tv ev : Value} {RT : List (B.Lst × List Value)} {RE : List (B.Lst × List EnV)}
theorem TB.typ (h : TB bb q w tv RT ev RE) {j : Nat} (hj : inB q tv RT ev RE j) : bb ≤ j ∧ ∃ c ty, w.heap[j]? = some (.cells c ty (0, 0)) ∧ (ty = 54 ∨ ty = 74 ∨ ty = 71 ∨ ty = 9 ∨ ty = 85) := by
  rcases hj with rfl | e | e | ⟨r, hr, e⟩ | ⟨r, hr, e⟩
  · exact ⟨h.bq, _, _, h.hq, .inl rfl⟩
  · obtain ⟨c, hc⟩ := B.own_ty h.rt e
    exact ⟨(World.ownsRow.lt h.rt j e).1, c, _, hc, .inr (.inl rfl)⟩
  · obtain ⟨c, hc⟩ := B.own_ty h.re e
    exact ⟨(World.ownsRow.lt h.re j e).1, c, _, hc, .inr (.inr (.inl rfl))⟩
  · obtain ⟨c, hc⟩ := B.own_ty (h.ot r hr).1 e
    exact ⟨(World.ownsRow.lt (h.ot r hr).1 j e).1, c, _, hc, .inr (.inr (.inr (.inl rfl)))⟩
  · obtain ⟨c, hc⟩ := B.own_ty (h.oe r hr).1 e
    exact ⟨(World.ownsRow.lt (h.oe r hr).1 j e).1, c, _, hc, .inr (.inr (.inr (.inr rfl)))⟩
theorem TB.lt (h : TB bb q w tv RT ev RE) {j : Nat} (hj : inB q tv RT ev RE j) : j < w.heap.size := by
  obtain ⟨_, c, ty, hc, _⟩ := h.typ hj
  exact (Array.getElem?_eq_some_iff.1 hc).1
theorem TB.keep (h : TB bb q w tv RT ev RE) (hk : ∀ j, inB q tv RT ev RE j → w'.heap[j]? = w.heap[j]?) : TB bb q w' tv RT ev RE :=
  ⟨(hk q (.inl rfl)).trans h.hq, B.own_sameB h.rt fun b hb => hk b (.inr (.inl hb)), B.own_sameB h.re fun b hb => hk b (.inr (.inr (.inl hb))), h.bq, fun r hr => ⟨B.own_sameB (h.ot r hr).1 fun b hb => hk b (.inr (.inr (.inr (.inl ⟨r, hr, hb⟩)))), (h.ot r hr).2⟩, fun r hr => ⟨(h.oe r hr).1.keep fun b hb => hk b (.inr (.inr (.inr (.inr ⟨r, hr, hb⟩)))), (h.oe r hr).2⟩, h.st, h.se, h.nt, h.ne⟩
theorem TB.below (h : TB bb q w tv RT ev RE) (b : Below w.heap.size w w') : TB bb q w' tv RT ev RE := h.keep fun j hj => b.block j (h.lt hj)
end
theorem sep_app {α : Type} {R : List (B.Lst × α)} {z : Nat} {x : B.Lst × α} (h : ∀ (i j : Nat) (r r' : B.Lst × α) (b : Nat), R[i]? = some r → R[j]? = some r' → r.1.v.ownBlock = some b → r'.1.v.ownBlock = some b → i = j) (old : ∀ r ∈ R, ∀ b, r.1.v.ownBlock = some b → b < z) (new : ∀ b, x.1.v.ownBlock = some b → z ≤ b) : ∀ (i j : Nat) (r r' : B.Lst × α) (b : Nat), (R ++ [x])[i]? = some r → (R ++ [x])[j]? = some r' → r.1.v.ownBlock = some b → r'.1.v.ownBlock = some b → i = j := fun i j r r' b h1 h2 h3 h4 => by
  rcases app_last h1 with ⟨_, q1⟩ | ⟨e1, q1⟩
  · rcases app_last h2 with ⟨_, q2⟩ | ⟨e2, q2⟩
    · exact h i j r r' b q1 q2 h3 h4
    · subst q2
      have := old r (List.mem_of_getElem? q1) b h3
      have := new b h4
      omega
  · rcases app_last h2 with ⟨_, q2⟩ | ⟨e2, q2⟩
    · subst q1
      have := old r' (List.mem_of_getElem? q2) b h4
      have := new b h3
      omega
    · rw [e1, e2]
section
variable {bb q : Nat} {W W' : World} {tv ev : Value} {RT : List (B.Lst × List Value)} {RE : List (B.Lst × List EnV)}
theorem TB.takeE (tb : TB bb q W tv RT ev RE) (hbb : bb ≤ W.heap.size) (hc : RE.length ≤ 2500000000000) {v : Value} {L : List EnV} (b : Below W.heap.size W W') (own : RN.Own W' W.heap.size v L) (okL : ∀ y ∈ L, y.ok) (hL : L.length ≤ 1700000000000) :
    Calls Tryz.prog 9 #[.pointer (some ⟨q, 0, none⟩), v] W' fun e w' => e = .returned (.tuple #[]) ∧ ∃ ev' RE', TB bb q w' tv RT ev' RE' ∧ RE'.length = RE.length + 1 ∧ Below bb W' w' ∧ (∀ j, j < W'.heap.size → j ≠ q → ev.ownBlock ≠ some j → w'.heap[j]? = W'.heap[j]?) ∧ ∀ j, inB q tv RT ev' RE' j → inB q tv RT ev RE j ∨ W.heap.size ≤ j := by
  obtain ⟨a, k, rfl, _, _, _⟩ := own.open RN_is okL
  have tb' := tb.below b
  have re' := tb'.re
  have hlen : (RE.map fun r => r.1.v).length = RE.length := List.length_map ..
  refine (B.tkE_any q bb tv ev (RE.map fun r => r.1.v) a L.length k W' tb'.hq (by rw [hlen]; exact re') (by rw [hlen]; omega) tb'.bq).mono ?_
  rintro e w' ⟨he, ⟨u, hq', row', hu⟩, bl, fr⟩
  rw [hlen] at row'
  have new : ∀ j, (Value.slice a L.length k).ownBlock = some j → W.heap.size ≤ j ∧ j < W'.heap.size := fun j hj => ⟨(own.cells hj).1, own.lt hj⟩
  have st : ∀ {j : Nat} {c : Array Value} {ty : TypeId} {f : Nat × Nat}, W'.heap[j]? = some (.cells c ty f) → ty ≠ 54 → ty ≠ 71 → w'.heap[j]? = W'.heap[j]? := fun {j c ty f} h1 h2 h3 => fr j (Array.getElem?_eq_some_iff.1 h1).1 (fun e => h2 (by rw [e, tb'.hq] at h1; injection h1 with h1; injection h1 with _ h _; exact h.symm)) (fun e => by
    obtain ⟨C, hC⟩ := B.own_ty re' e
    rw [hC] at h1
    injection h1 with h1
    injection h1 with _ h _
    exact h3 h.symm)
  have kO : ∀ {e sz n : Nat} {v : Value} {xs : List Value}, W'.ownsRow bb e sz v n xs → e ≠ 54 → e ≠ 71 → w'.ownsRow bb e sz v n xs := fun h h1 h2 => B.own_sameB h fun b hb => by
    obtain ⟨C, hC⟩ := B.own_ty h hb
    exact st hC h1 h2
  refine ⟨he, u, RE ++ [(⟨a, L.length, k⟩, L)], ⟨hq', kO tb'.rt (by decide) (by decide), by rw [List.length_append, List.map_append]; exact row', tb'.bq, fun r hr => ⟨kO (tb'.ot r hr).1 (by decide) (by decide), (tb'.ot r hr).2⟩, fun r hr => ?_, tb'.st, sep_app (z := W.heap.size) (x := (⟨a, L.length, k⟩, L)) tb'.se (fun r hr b hb => (tb.oe r hr).1.lt hb) (fun b hb => (new b hb).1), tb'.nt, fun e => by simp at e⟩, by rw [List.length_append]; rfl, bl, fr, fun j hj => ?_⟩
  · rcases List.mem_append.1 hr with hr | hr
    · exact ⟨kO (tb'.oe r hr).1 (by decide) (by decide), (tb'.oe r hr).2⟩
    · rw [List.mem_singleton.1 hr]
      exact ⟨kO (own_base own hbb) (by decide) (by decide), rfl, hL, okL⟩
  · rcases hj with h | h | h | h | ⟨r, hr, h⟩
    · exact .inl (.inl h)
    · exact .inl (.inr (.inl h))
    · rcases hu with e | ⟨b2, e, h2⟩
      · exact .inl (.inr (.inr (.inl (e ▸ h))))
      · rw [e] at h
        injection h with h
        subst h
        exact .inr (Nat.le_trans b.size h2)
    · exact .inl (.inr (.inr (.inr (.inl h))))
    · rcases List.mem_append.1 hr with hr | hr
      · exact .inl (.inr (.inr (.inr (.inr ⟨r, hr, h⟩))))
      · rw [List.mem_singleton.1 hr] at h
        exact .inr (new j h).1
theorem TB.takeT (tb : TB bb q W tv RT ev RE) (hbb : bb ≤ W.heap.size) (hc : RT.length ≤ 2500000000000) {v : Value} {L : List Value} (b : Below W.heap.size W W') (own : OwnV W' W.heap.size 9 v L) (hL : L.length ≤ 1700000000000) :
    Calls Tryz.prog 11 #[.pointer (some ⟨q, 0, none⟩), v] W' fun e w' => e = .returned (.tuple #[]) ∧ ∃ tv' RT', TB bb q w' tv' RT' ev RE ∧ RT'.length = RT.length + 1 ∧ Below bb W' w' ∧ (∀ j, j < W'.heap.size → j ≠ q → tv.ownBlock ≠ some j → w'.heap[j]? = W'.heap[j]?) ∧ ∀ j, inB q tv' RT' ev RE j → inB q tv RT ev RE j ∨ W.heap.size ≤ j := by
  obtain ⟨a, k, rfl, _, _, _⟩ := own.open
  have tb' := tb.below b
  have re' := tb'.rt
  have hlen : (RT.map fun r => r.1.v).length = RT.length := List.length_map ..
  refine (B.tkT_any q bb tv ev (RT.map fun r => r.1.v) a L.length k W' tb'.hq (by rw [hlen]; exact re') (by rw [hlen]; omega) tb'.bq).mono ?_
  rintro e w' ⟨he, ⟨u, hq', row', hu⟩, bl, fr⟩
  rw [hlen] at row'
  have new : ∀ j, (Value.slice a L.length k).ownBlock = some j → W.heap.size ≤ j ∧ j < W'.heap.size := fun j hj => World.ownsRow.lt own j hj
  have st : ∀ {j : Nat} {c : Array Value} {ty : TypeId} {f : Nat × Nat}, W'.heap[j]? = some (.cells c ty f) → ty ≠ 54 → ty ≠ 74 → w'.heap[j]? = W'.heap[j]? := fun {j c ty f} h1 h2 h3 => fr j (Array.getElem?_eq_some_iff.1 h1).1 (fun e => h2 (by rw [e, tb'.hq] at h1; injection h1 with h1; injection h1 with _ h _; exact h.symm)) (fun e => by
    obtain ⟨C, hC⟩ := B.own_ty re' e
    rw [hC] at h1
    injection h1 with h1
    injection h1 with _ h _
    exact h3 h.symm)
  have kO : ∀ {e sz n : Nat} {v : Value} {xs : List Value}, W'.ownsRow bb e sz v n xs → e ≠ 54 → e ≠ 74 → w'.ownsRow bb e sz v n xs := fun h h1 h2 => B.own_sameB h fun b hb => by
    obtain ⟨C, hC⟩ := B.own_ty h hb
    exact st hC h1 h2
  refine ⟨he, u, RT ++ [(⟨a, L.length, k⟩, L)], ⟨hq', by rw [List.length_append, List.map_append]; exact row', kO tb'.re (by decide) (by decide), tb'.bq, fun r hr => ?_, fun r hr => ⟨kO (tb'.oe r hr).1 (by decide) (by decide), (tb'.oe r hr).2⟩, sep_app (z := W.heap.size) (x := (⟨a, L.length, k⟩, L)) tb'.st (fun r hr b hb => (World.ownsRow.lt (tb.ot r hr).1 b hb).2) (fun b hb => (new b hb).1), tb'.se, (fun e => by simp at e), tb'.ne⟩, by rw [List.length_append]; rfl, bl, fr, fun j hj => ?_⟩
  · rcases List.mem_append.1 hr with hr | hr
    · exact ⟨kO (tb'.ot r hr).1 (by decide) (by decide), (tb'.ot r hr).2⟩
    · rw [List.mem_singleton.1 hr]
      exact ⟨kO (own_base own hbb) (by decide) (by decide), hL⟩
  · rcases hj with h | h | h | ⟨r, hr, h⟩ | h
    · exact .inl (.inl h)
    · rcases hu with e | ⟨b2, e, h2⟩
      · exact .inl (.inr (.inl (e ▸ h)))
      · rw [e] at h
        injection h with h
        subst h
        exact .inr (Nat.le_trans b.size h2)
    · exact .inl (.inr (.inr (.inl h)))
    · rcases List.mem_append.1 hr with hr | hr
      · exact .inl (.inr (.inr (.inr (.inl ⟨r, hr, h⟩))))
      · rw [List.mem_singleton.1 hr] at h
        exact .inr (new j h).1
    · exact .inl (.inr (.inr (.inr (.inr h))))
end
theorem rows_of {α : Type} (R : List (B.Lst × α)) (d : α) : ∃ V : Nat → B.Lst, ∃ LL : Nat → α, (∀ i, i < R.length → ∃ r ∈ R, R[i]? = some r ∧ V i = r.1 ∧ LL i = r.2) ∧ (R.map fun r => r.1.v) = (List.range R.length).map fun i => (V i).v := by
  refine ⟨fun i => (R[i]?.map (·.1)).getD ⟨none, 0, 0⟩, fun i => (R[i]?.map (·.2)).getD d, fun i hi => ?_, List.ext_getElem? fun i => ?_⟩
  · refine ⟨R[i], List.getElem_mem hi, List.getElem?_eq_getElem hi, ?_, ?_⟩
    · simp [List.getElem?_eq_getElem hi]
    · simp [List.getElem?_eq_getElem hi]
  · rw [List.getElem?_map, List.getElem?_map]
    by_cases hi : i < R.length
    · rw [List.getElem?_range hi, List.getElem?_eq_getElem hi]
      simp [List.getElem?_eq_getElem hi]
    · rw [List.getElem?_eq_none (by omega), List.getElem?_eq_none (by simp; omega)]
      rfl
theorem TB.alone {bb q : Nat} {W : World} {tv ev : Value} {RT : List (B.Lst × List Value)} {RE : List (B.Lst × List EnV)} (tb : TB bb q W tv RT ev RE) (hbb : bb ≤ W.heap.size) (hc : RT.length ≤ 2600000000000) (hd : RE.length ≤ 2600000000000) :
    Calls Tryz.prog 13 #[.pointer (some ⟨q, 0, none⟩)] W fun e w' => e = .returned (.bool true) ∧ Tch (inB q tv RT ev RE) W w' := by
  obtain ⟨VT, LT, hT, eT⟩ := rows_of RT []
  obtain ⟨VE, LE, hE, eE⟩ := rows_of RE []
  have rt := tb.rt
  have re := tb.re
  rw [eT] at rt
  rw [eE] at re
  have sepT : ∀ i j, i < RT.length → j < RT.length → ∀ b, (VT i).v.ownBlock = some b → (VT j).v.ownBlock = some b → i = j := fun i j hi hj b h1 h2 => by
    obtain ⟨r, _, hr, ev1, _⟩ := hT i hi
    obtain ⟨r', _, hr', ev2, _⟩ := hT j hj
    rw [ev1] at h1
    rw [ev2] at h2
    exact tb.st i j r r' b hr hr' h1 h2
  have sepE : ∀ i j, i < RE.length → j < RE.length → ∀ b, (VE i).v.ownBlock = some b → (VE j).v.ownBlock = some b → i = j := fun i j hi hj b h1 h2 => by
    obtain ⟨r, _, hr, ev1, _⟩ := hE i hi
    obtain ⟨r', _, hr', ev2, _⟩ := hE j hj
    rw [ev1] at h1
    rw [ev2] at h2
    exact tb.se i j r r' b hr hr' h1 h2
  have zero : ∀ {α : Type} {l : List α}, l.length = 0 → l = [] := fun h => List.length_eq_zero_iff.1 h
  have owT : ∀ i, i < RT.length → W.ownsRow bb 9 1 (VT i).v (VT i).n (LT i) := fun i hi => by
    obtain ⟨r, hm, _, e1, e2⟩ := hT i hi
    rw [e1, e2]
    exact (tb.ot r hm).1
  refine (B.bookR_any q bb RT.length RE.length tv ev VT VE W tb.hq tb.bq (B.alT_all q bb RT.length tv ev VT LT W hc tb.hq rt (fun i hi => ?_) owT sepT (fun h => tb.nt (zero h)) hbb) (fun w1 h1 => ?_)).mono ?_
  · obtain ⟨r, hm, _, e1, _⟩ := hT i hi
    rw [e1]
    exact (tb.ot r hm).2
  · obtain ⟨_, b1, hq1, fr1⟩ := h1
    have nT : ∀ {j : Nat} {c : Array Value} {ty : TypeId} {f : Nat × Nat}, W.heap[j]? = some (.cells c ty f) → ty ≠ 9 → w1.heap[j]? = W.heap[j]? := fun h2 h3 => fr1 _ (Array.getElem?_eq_some_iff.1 h2).1 fun i hi => B.ty_ne h2 (owT i hi) h3
    have kO : ∀ {e sz n : Nat} {v : Value} {xs : List Value}, W.ownsRow bb e sz v n xs → e ≠ 9 → w1.ownsRow bb e sz v n xs := fun h h1 => B.own_sameB h fun b hb => by
      obtain ⟨C, hC⟩ := B.own_ty h hb
      exact nT hC h1
    refine B.alE_all q bb RE.length tv ev VE LE w1 hd (hq1.trans tb.hq) (kO re (by decide)) (fun i hi => ?_) (fun i hi => ?_) (fun i hi => ?_) (fun i hi => ?_) sepE (fun h => tb.ne (zero h)) (Nat.le_trans hbb b1.size)
    · obtain ⟨r, hm, _, e1, _⟩ := hE i hi
      rw [e1]
      exact (tb.oe r hm).2.2.1
    · obtain ⟨r, hm, _, e1, e2⟩ := hE i hi
      rw [e1, e2]
      exact (tb.oe r hm).2.1.symm
    · obtain ⟨r, hm, _, e1, e2⟩ := hE i hi
      rw [e2]
      exact (tb.oe r hm).2.2.2
    · obtain ⟨r, hm, _, e1, e2⟩ := hE i hi
      rw [e1, e2]
      have o := (tb.oe r hm).1
      unfold RowT.Own at o
      rw [← (tb.oe r hm).2.1] at o
      exact kO o (by decide)
  · rintro e w' ⟨he, bl, fr⟩
    refine ⟨he, bl.os, bl.tape, bl.output, bl.size, fun j hj hn => fr j hj (fun e => hn (.inl e)) (fun i hi e => hn ?_) (fun i hi e => hn ?_)⟩
    · obtain ⟨r, hm, _, e1, _⟩ := hT i hi
      rw [e1] at e
      exact .inr (.inr (.inr (.inl ⟨r, hm, e⟩)))
    · obtain ⟨r, hm, _, e1, _⟩ := hE i hi
      rw [e1] at e
      exact .inr (.inr (.inr (.inr ⟨r, hm, e⟩)))
end Go.Proofs.YtldlljobofnmmaaGreatDoor
