import Derived.Test.YtifendlpeebofaaGreatDoorP2
import Derived.Test.YtifendlpeebofaaGreatDoorP0
import Derived.Test.YtifendlpeebofaaGreatDoorP1
import Derived.Shelf.Abstract
import Derived.WalkKit
import Derived.WalkSpells
import Derived.WalkLawsBesides
import Derived.Lib.Bytealg
import Derived.Deep.RegionHeld3
import Derived.Deep.Cut
import Derived.Shelf.Sort.Plain
import Derived.Shelf.Slices.CompactI
import Derived.Shelf.Slices.SearchI
import Derived.Shelf.SlGeneric
import Derived.Ground.NamesProg
import Derived.Ground.Names2Prog
import Derived.Test.YtifendlpeebofaaGreatDoorRows
import Derived.Lib.SlicesCompact
import Derived.Sort.OwnSortedInts
import Derived.Lib.OwnBridge
set_option linter.unusedSimpArgs false
set_option linter.unusedVariables false
set_option maxRecDepth 100000
set_option maxHeartbeats 4000000
set_option maxRecDepth 100000
set_option maxHeartbeats 4000000
namespace Go.Proofs.YtifendlpeebofaaGreatDoor
open Go.RowKit Sq
theorem four_boxes (w : World) (k : IdK) (v : VaV) (f t : IdK) : ∃ wx, wx = (((w.alloc (.cells k.c.toArray 36)).alloc (.cells v.c.toArray 40)).alloc (.cells f.c.toArray 36)).alloc (.cells t.c.toArray 36) ∧ IdAt wx w.heap.size k ∧ VaAt wx (w.heap.size + 1) v ∧ IdAt wx (w.heap.size + 2) f ∧ IdAt wx (w.heap.size + 3) t ∧ Below w.heap.size w wx ∧ wx.heap.size = w.heap.size + 4 := by
  have al : ∀ (W : World) (o : Obj), (W.alloc o).heap.size = W.heap.size + 1 := fun W o => by simp
  have b1 : ∀ (W : World) (o : Obj), Below W.heap.size W (W.alloc o) := fun W o => (Below.refl _ _).alloc (Nat.le_refl _) _
  obtain ⟨w1, h1⟩ : ∃ W, w.alloc (.cells k.c.toArray 36) = W := ⟨_, rfl⟩
  obtain ⟨w2, h2⟩ : ∃ W, w1.alloc (.cells v.c.toArray 40) = W := ⟨_, rfl⟩
  obtain ⟨w3, h3⟩ : ∃ W, w2.alloc (.cells f.c.toArray 36) = W := ⟨_, rfl⟩
  obtain ⟨w4, h4⟩ : ∃ W, w3.alloc (.cells t.c.toArray 36) = W := ⟨_, rfl⟩
  have z1 : w1.heap.size = w.heap.size + 1 := by rw [← h1]; exact al _ _
  have z2 : w2.heap.size = w.heap.size + 2 := by rw [← h2, al, z1]
  have z3 : w3.heap.size = w.heap.size + 3 := by rw [← h3, al, z2]
  have z4 : w4.heap.size = w.heap.size + 4 := by rw [← h4, al, z3]
  have B1 : Below w.heap.size w w1 := by rw [← h1]; exact b1 _ _
  have B2 : Below w1.heap.size w1 w2 := by rw [← h2]; exact b1 _ _
  have B3 : Below w2.heap.size w2 w3 := by rw [← h3]; exact b1 _ _
  have B4 : Below w3.heap.size w3 w4 := by rw [← h4]; exact b1 _ _
  have i1 : IdAt w1 w.heap.size k := by rw [← h1]; exact heap_alloc_new _ _
  have i2 : VaAt w2 (w.heap.size + 1) v := by rw [← h2, ← z1]; exact heap_alloc_new _ _
  have i3 : IdAt w3 (w.heap.size + 2) f := by rw [← h3, ← z2]; exact heap_alloc_new _ _
  have i4 : IdAt w4 (w.heap.size + 3) t := by rw [← h4, ← z3]; exact heap_alloc_new _ _
  refine ⟨w4, by rw [← h4, ← h3, ← h2, ← h1], ((i1.below B2).below B3).below B4, (i2.below B3).below B4, i3.below B4, i4, ?_, z4⟩
  exact ((B1.trans (B2.mono (by omega))).trans (B3.mono (by omega))).trans (B4.mono (by omega))
section
variable {w : World} {base : Nat} {m : Mx}
theorem add_any (h : MkAt w base m) (hb : base ≤ w.heap.size) (hT : K.V.Tabs w) {x : MkV} (hx : x.ok) (hn : m.L.length + 1 ≤ 900000000000) :
    Calls Tryz.prog 12 #[.pointer (some ⟨m.mb, 0, none⟩), x.id.v, .string x.nm, x.v.v, x.fr.v, x.to.v, .int .i64 x.sd] w fun e w' => e = .returned (.int .i64 (addC m.L x)) ∧ MkN m base (addR m.L x) w w' := by
  obtain ⟨wx, ewx, i1, i2, i3, i4, bx, zx⟩ := four_boxes w x.id x.v x.fr x.to
  have HX := hidMk (And.intro i1 (And.intro i2 (And.intro i3 i4)))
  have HH := hidMk h
  have HT := hidMk hT
  have HK := hidMk hx
  have HB := hidMk hb
  have HNN := hidMk hn
  have BX := hidMk bx
  have ZX := hidMk zx
  have hlt : m.mb < w.heap.size := (Array.getElem?_eq_some_iff.1 h.cell).1
  have HLT := hidMk hlt
  have HC : Hid (addC m.L x = if x.id.n < 1 then 2 else if x.sd < 0 then 2 else if x.sd > 3 then 2 else if hasM m.L x.id = true then 5 else if keyB x.nm = false then 41 else if x.v.right = false then 30 else if x.v.k ≤ 7 then 0 else 30) := rfl
  have HR : Hid (addR m.L x = if addC m.L x = 0 then m.L ++ [x] else m.L) := rfl
  have HW := hidMk ewx
  have SAME : Hid (∀ (W : World) (c : Int), Below w.heap.size w W → addC m.L x = c → c ≠ 0 → (Ending.returned (.int .i64 c) : Ending) = .returned (.int .i64 (addC m.L x)) ∧ MkN m base (addR m.L x) w W) := fun W c b e hc => by
    refine ⟨by rw [e], ?_⟩
    rw [HR.out, if_neg (by rw [e]; exact hc)]
    exact MkN.same h b
  clear i1 i2 i3 i4 bx zx h hT hx hb hn hlt ewx
  show Calls Tryz.prog 12 #[.pointer (some ⟨m.mb, 0, none⟩), .agg x.id.c.toArray, .string x.nm, .agg x.v.c.toArray, .agg x.fr.c.toArray, .agg x.to.c.toArray, .int .i64 x.sd] w _
  generalize addR m.L x = rr at *
  generalize addC m.L x = cc at *
  go_enter Tryz.func12, Tryz.ntmps12
  go_upto_region 3 with fail
  rw [← HW.out]
  cases hn1 : decide (x.id.n < 1) with
  | true =>
    have HN := hidMk hn1
    clear hn1
    refine mad3a (k := x.id) (b1 := w.heap.size) _ wx _ rfl rfl HN.out (fun W e => by rw [e, Nat.zero_add]; exact ld_n HK.out.i HX.out.1) ?_
    intro a' w2 hw ha
    obtain rfl : wx = w2 := hw.symm
    subst ha
    simp only [Act.put, qsA, qsB, qsC]
    clear HX
    go_wp2
    go_ret
    exact SAME.out _ _ BX.out (by rw [HC.out, if_pos (of_decide_eq_true HN.out)]) (by decide)
  | false =>
    have HN := hidMk hn1
    clear hn1
    cases hs0 : decide (x.sd < 0) with
    | true =>
      have H0 := hidMk hs0
      clear hs0
      refine mad3b (k := x.id) (sd := x.sd) (b1 := w.heap.size) _ wx _ rfl rfl rfl HN.out H0.out (fun W e => by rw [e, Nat.zero_add]; exact ld_n HK.out.i HX.out.1) ?_
      intro a' w2 hw ha
      obtain rfl : wx = w2 := hw.symm
      subst ha
      simp only [Act.put, qsA, qsB, qsC]
      clear HX
      go_wp2
      go_ret
      exact SAME.out _ _ BX.out (by rw [HC.out, if_neg (of_decide_eq_false HN.out), if_pos (of_decide_eq_true H0.out)]) (by decide)
    | false =>
      have H0 := hidMk hs0
      clear hs0
      obtain ⟨r3, hr3⟩ : ∃ r, decide (x.sd > 3) = r := ⟨_, rfl⟩
      have H3 := hidMk hr3
      clear hr3
      refine mad3c (k := x.id) (sd := x.sd) (b1 := w.heap.size) (r := r3) _ wx _ rfl rfl rfl HN.out H0.out H3.out (fun W e => by rw [e, Nat.zero_add]; exact ld_n HK.out.i HX.out.1) ?_
      intro a' w2 hw ha
      obtain rfl : wx = w2 := hw.symm
      subst ha
      simp only [Act.put, qsA, qsB, qsC]
      cases r3 with
      | true =>
        clear HX
        go_wp2
        go_ret
        exact SAME.out _ _ BX.out (by rw [HC.out, if_neg (of_decide_eq_false HN.out), if_neg (of_decide_eq_false H0.out), if_pos (of_decide_eq_true H3.out)]) (by decide)
      | false =>
        have C0 : Hid (cc = if hasM m.L x.id = true then 5 else if keyB x.nm = false then 41 else if x.v.right = false then 30 else if x.v.k ≤ 7 then 0 else 30) := by
          show cc = _
          rw [HC.out, if_neg (of_decide_eq_false HN.out), if_neg (of_decide_eq_false H0.out), if_neg (of_decide_eq_false H3.out)]
        have HSD : Hid (0 ≤ x.sd ∧ x.sd ≤ 3) := by
          have h1 := of_decide_eq_false H0.out
          have h2 := of_decide_eq_false H3.out
          show 0 ≤ x.sd ∧ x.sd ≤ 3
          omega
        clear HC H3 H0
        go_upto_region 5 with fail
        refine mad5 (k := x.id) (b1 := w.heap.size) (r := hasM m.L x.id) (fun W => Below wx.heap.size wx W) _ wx _ rfl rfl rfl (fun W e => by rw [e]; exact load_id HK.out.i HX.out.1) (mhas_any (HH.out.below BX.out) HK.out.i) ?_
        intro a' w3 hf ha
        subst ha
        simp only [Act.put, qsA, qsB, qsC]
        have B3 : Hid (Below w.heap.size w w3) := BX.out.trans (hf.mono BX.out.size)
        have X3 : Hid (IdAt w3 w.heap.size x.id ∧ VaAt w3 (w.heap.size + 1) x.v ∧ IdAt w3 (w.heap.size + 2) x.fr ∧ IdAt w3 (w.heap.size + 3) x.to) := ⟨HX.out.1.below hf, HX.out.2.1.below hf, HX.out.2.2.1.below hf, HX.out.2.2.2.below hf⟩
        clear hf HX
        cases hq : hasM m.L x.id with
        | true =>
          have HQ := hidMk hq
          clear hq
          go_wp2
          go_ret
          exact SAME.out _ _ B3.out (by rw [C0.out, if_pos HQ.out]) (by decide)
        | false =>
          have HQ := hidMk hq
          clear hq
          go_upto_region 7 with fail
          obtain ⟨kb, hkb⟩ : ∃ r, keyB x.nm = r := ⟨_, rfl⟩
          have CK : Hid (Calls Tryz.prog 40 #[.string x.nm] w3 fun e w' => e = .returned (.bool kb) ∧ Below w3.heap.size w3 w') := by rw [← hkb]; exact wkey_any x.nm w3 (HT.out.below B3.out)
          have HKB := hidMk hkb
          clear hkb
          refine mad7 (nm := x.nm) (r := kb) (fun W => Below w3.heap.size w3 W) _ w3 _ rfl rfl CK.out ?_
          intro a' w4 hf ha
          subst ha
          simp only [Act.put, qsA, qsB, qsC]
          have B4 : Hid (Below w.heap.size w w4) := B3.out.trans (hf.mono B3.out.size)
          have X4 : Hid (IdAt w4 w.heap.size x.id ∧ VaAt w4 (w.heap.size + 1) x.v ∧ IdAt w4 (w.heap.size + 2) x.fr ∧ IdAt w4 (w.heap.size + 3) x.to) := ⟨X3.out.1.below hf, X3.out.2.1.below hf, X3.out.2.2.1.below hf, X3.out.2.2.2.below hf⟩
          clear hf CK X3 B3
          cases kb with
          | false =>
            go_wp2
            go_ret
            exact SAME.out _ _ B4.out (by rw [C0.out, if_neg (by rw [HQ.out]; decide), if_pos HKB.out]) (by decide)
          | true =>
            have C1 : Hid (cc = if x.v.right = false then 30 else if x.v.k ≤ 7 then 0 else 30) := by
              show cc = _
              rw [C0.out, if_neg (by rw [HQ.out]; decide), if_neg (by rw [HKB.out]; decide)]
            clear C0 HKB
            go_upto_region 9 with fail
            have CR := hidMk (vright_any x.v HK.out.v w4 (HT.out.below B4.out))
            cases hr : x.v.right with
            | false =>
              have ez : vaC x.v = 30 := by unfold vaC; rw [hr]; rfl
              rw [ez] at CR
              have HRR := hidMk hr
              clear hr ez
              refine mad9a (x := x.v) (b2 := w.heap.size + 1) (z := 30) (fun W => Below w4.heap.size w4 W) _ w4 _ rfl rfl (by decide) (fun W e => by rw [e]; exact load_va X4.out.2.1) CR.out ?_
              intro a' w5 hf ha
              subst ha
              simp only [Act.put, qsA, qsB, qsC]
              have B5 : Hid (Below w.heap.size w w5) := B4.out.trans (hf.mono B4.out.size)
              clear hf CR X4
              go_wp2
              go_ret
              exact SAME.out _ _ B5.out (by rw [C1.out, if_pos HRR.out]) (by decide)
            | true =>
              have ez : vaC x.v = 0 := by unfold vaC; rw [hr]; rfl
              rw [ez] at CR
              have HRR := hidMk hr
              clear hr ez
              obtain ⟨sc, hsc⟩ : ∃ r, decide (x.v.k ≤ 7) = r := ⟨_, rfl⟩
              have HSC := hidMk hsc
              clear hsc
              refine mad9b (x := x.v) (b2 := w.heap.size + 1) (z := 0) (r := sc) (fun W => Below w4.heap.size w4 W) _ w4 _ rfl rfl (by decide) (fun W e => by rw [e]; exact load_va X4.out.2.1) (CR.out.mono ?_) ?_
              · rintro e W ⟨rfl, b⟩
                refine ⟨rfl, load_kd (X4.out.2.1.below b), (vscalar_any x.v.k W).mono ?_⟩
                rintro e W' ⟨rfl, rfl⟩
                exact ⟨by rw [HSC.out], b⟩
              intro a' w5 hf ha
              subst ha
              simp only [Act.put, qsA, qsB, qsC]
              have B5 : Hid (Below w.heap.size w w5) := B4.out.trans (hf.mono B4.out.size)
              have X5 : Hid (IdAt w5 w.heap.size x.id ∧ VaAt w5 (w.heap.size + 1) x.v ∧ IdAt w5 (w.heap.size + 2) x.fr ∧ IdAt w5 (w.heap.size + 3) x.to) := ⟨X4.out.1.below hf, X4.out.2.1.below hf, X4.out.2.2.1.below hf, X4.out.2.2.2.below hf⟩
              clear hf CR X4 B4
              cases sc with
              | false =>
                go_wp2
                go_ret
                exact SAME.out _ _ B5.out (by rw [C1.out, if_neg (by rw [HRR.out]; decide), if_neg (of_decide_eq_false HSC.out)]) (by decide)
              | true =>
                have C2 : Hid (cc = 0) := by show cc = 0; rw [C1.out, if_neg (by rw [HRR.out]; decide), if_pos (of_decide_eq_true HSC.out)]
                clear C1 HSC HRR SAME
                have bd : Below w5.heap.size w5 w5.drew := (Below.refl _ _).drew
                have B6 : Hid (Below w.heap.size w w5.drew) := B5.out.drew
                have SA : Hid (AddS m x w.heap.size (w.heap.size + 1) (w.heap.size + 2) (w.heap.size + 3) w5.drew) := ⟨(HH.out.below B6.out).cell, X5.out.1.below bd, X5.out.2.1.below bd, X5.out.2.2.1.below bd, X5.out.2.2.2.below bd⟩
                obtain ⟨sv, y1, v2, y2, y3, e1, s1, e2, s2, e3, n3, lo3, q3, t3⟩ := add_list (HH.out.below B6.out) (Nat.le_trans HB.out B6.out.size) HK.out HNN.out SA.out
                have E := hidMk (And.intro e1 (And.intro s1 (And.intro e2 (And.intro s2 e3))))
                have LDL : Hid (∀ W, AddS m x w.heap.size (w.heap.size + 1) (w.heap.size + 2) (w.heap.size + 3) W → (Instr.loadAt 85 (.pointer (some ⟨m.mb, 0 + 0, none⟩))).run Tryz.prog W = .ok m.lv W) := fun W hS => by
                  obtain ⟨a, c, e, _⟩ := HH.out.lvS
                  have hc : W.cell? ⟨m.mb, 0, none⟩ = some (.slice a m.L.length c) := by rw [← e]; exact (cell_of_row W m.mb 0 _ _ _ hS.1).trans rfl
                  rw [e]
                  go_simp
                have mp3 : M.MapAt y3 m.ib IdK.v IdK.ok (idE m.L) := (HH.out.below B6.out).map.below (t3.block _ (HH.out.below B6.out).map.lt (fun q => by
                  have ap := (HH.out.below B6.out).apart
                  rcases q with q | q
                  · exact ap.2.2 q.symm
                  · exact ap.2.1 q))
                obtain ⟨ob, ep, mp4⟩ := M.run_put (P := Tryz.prog) (w := y3.drew) idKey Tryz.underlying84 (mp3.below rfl) x.id HK.out.i (.agg #[])
                have PUT : Hid (MkN m base rr w (M.setM y3.drew m.ib ob)) := by
                  show MkN m base rr w (M.setM y3.drew m.ib ob)
                  rw [HR.out, if_pos C2.out]
                  have ap := (HH.out.below B6.out).apart
                  have nib : ∀ j, v2.ownBlock = some j → j ≠ m.ib := fun j hj e => by
                    obtain ⟨_, c, hc⟩ := lo3.cells hj
                    obtain ⟨⟨es, c2, hm2, _⟩, _⟩ := mp3
                    rw [e, hm2] at hc
                    cases hc
                  have em := addM_nil HQ.out
                  have mp5 : M.MapAt (M.setM y3.drew m.ib ob) m.ib IdK.v IdK.ok (idE (m.L ++ [x])) := by
                    have e5 : idE (m.L ++ [x]) = M.put (idE m.L) x.id (.agg #[]) := by
                      rw [show M.put (idE m.L) x.id (.agg #[]) = M.put (idE m.L) x.id unV from rfl, em]
                      simp [idE]
                    rw [e5]
                    exact mp4
                  refine ⟨⟨m.mb, v2, m.ib, m.L ++ [x]⟩, ⟨(M.setM_other ob ap.2.2).trans n3, lo3.keep (fun j hj => M.setM_other ob (nib j hj)), fun y hy => ?_, mp5, by simp only [List.length_append, List.length_singleton]; exact HNN.out⟩, rfl, rfl, rfl, q3.imp id (fun q j hj => Nat.le_trans B6.out.size (q j hj)), ?_⟩
                  · rcases List.mem_append.1 hy with hy | hy
                    · exact HH.out.ok y hy
                    · rw [List.mem_singleton.1 hy]; exact ⟨HK.out, HSD.out⟩
                  · have t0 : Tch (fun j => j = m.mb ∨ j = m.ib ∨ m.lv.ownBlock = some j) w w5.drew := tch_below B6.out _
                    have t4 : Tch (fun j => j = m.mb ∨ j = m.ib ∨ m.lv.ownBlock = some j) w5.drew y3 := t3.mono (fun j _ e => e.elim .inl (fun q => .inr (.inr q)))
                    have t5 : Tch (fun j => j = m.mb ∨ j = m.ib ∨ m.lv.ownBlock = some j) y3 (M.setM y3.drew m.ib ob) := ⟨rfl, rfl, rfl, by rw [M.setM_size]; exact Nat.le_refl _, fun j _ hj => M.setM_other ob (fun e => hj (.inr (.inl e)))⟩
                    exact (t0.trans t4).trans t5
                have EP := hidMk ep
                have XY : Hid (IdAt y3.drew w.heap.size x.id ∧ y3.drew.heap[m.mb]? = some (.cells #[v2, .map (some m.ib)] 87 (0, 0))) := ⟨(t3.block _ (SA.out.2.1.lt) (fun q => by
                    rcases q with q | q
                    · have := HLT.out; omega
                    · obtain ⟨_, c, hc⟩ := HH.out.lo.cells q
                      have := (Array.getElem?_eq_some_iff.1 hc).1
                      omega)).trans SA.out.2.1, n3⟩
                clear e1 s1 e2 s2 e3 n3 lo3 q3 t3 mp3 ep mp4 bd X5 B5
                go_upto_region 11 with fail
                refine mad11 (x := x) (mb := m.mb) (b1 := w.heap.size) (b2 := w.heap.size + 1) (b3 := w.heap.size + 2) (b4 := w.heap.size + 3) (lv := m.lv) (sv := sv) (v2 := v2) (w1 := y1) (w2 := y2) (w3 := y3) (AddS m x w.heap.size (w.heap.size + 1) (w.heap.size + 2) (w.heap.size + 3)) _ w5 _ rfl rfl rfl rfl rfl rfl rfl rfl SA.out LDL.out (fun W hS => load_id HK.out.i hS.2.1) (fun W hS => load_va hS.2.2.1) (fun W hS => load_id HK.out.fr hS.2.2.2.1) (fun W hS => load_id HK.out.to hS.2.2.2.2) (fun W => build_mk W HK.out) E.out.1 E.out.2.1 E.out.2.2.1 E.out.2.2.2.1 E.out.2.2.2.2 ?_
                intro a' w6 hw ha
                obtain rfl : y3 = w6 := hw.symm
                subst ha
                simp only [Act.put, qsA, qsB, qsC]
                clear E LDL SA
                go_upto_region 12 with fail
                refine mad12 (mb := m.mb) (ib := m.ib) (b1 := w.heap.size) (k := x.id) (w2 := M.setM y3.drew m.ib ob) (fun W => W = y3.drew) _ y3 _ rfl rfl rfl rfl (fun W e => ?_) (fun W e => by rw [e]; exact load_id HK.out.i XY.out.1) (fun W => build_un W) EP.out ?_
                · have hc : W.cell? ⟨m.mb, 1, none⟩ = some (.map (some m.ib)) := by rw [e]; exact (cell_of_row y3.drew m.mb 1 _ _ _ XY.out.2).trans rfl
                  clear e
                  go_simp
                intro a' w6 hw ha
                obtain rfl : M.setM y3.drew m.ib ob = w6 := hw.symm
                subst ha
                simp only [Act.put, qsA, qsB, qsC]
                clear EP XY
                go_wp2
                go_ret
                exact ⟨by rw [C2.out]; rfl, PUT.out⟩
end
end Go.Proofs.YtifendlpeebofaaGreatDoor
namespace Go.Proofs.YtifendlpeebofaaGreatDoor
open Go.RowKit
theorem len_mk (a : Option Addr) (m c : Nat) (w : World) : (Builtin.len_ #[85] 3 #[.slice a m c]).run Tryz.prog w = .ok (.int .i64 (m : Int)) w := by go_simp
theorem ix_mk {b o n c i : Nat} (hi : i < n) (hm : n ≤ 9223372036854775807) (W : World) : (Instr.indexAt 85 (.slice (some ⟨b, o, none⟩) n c) (.int .i64 (i : Int))).run Tryz.prog W = .ok (.pointer (some ⟨b, o + 105 * i, none⟩)) W := by
  rw [Nat.mul_comm]
  go_simp
theorem exec_boxM {P : Program} {w w2 : World} {a : Act} {o : Oper} {t : TypeId} {x : Operand} {v u : Value} (ho : o.op = .box t x) (hx : a.eval x = v) (hl : (Instr.box t v).run P w = .ok u w2) : (execOp a.eval o).run P w = .ok (.value u) w2 := by
  unfold execOp; simp only [ho, hx, Sem.run_bind, hl, Result.andThen_ok, Sem.run_pure]
theorem qcR {l n : Nat} {P : Program} {ops : Array Oper} {rest : List Oper} {o : Oper} {a : Act} {w : World} {Q : Exit → Act → World → Prop} {f : Nat} {vs : Array Value} {R : Ending → World → Prop} {d : Nat} (h1 : 1 ≤ n) (hw : Region.wanted o (yielded ops a.tmps) = true) (hr : (execOp a.eval o).run P w = .ok (.enter f vs) w) (hC : Calls P f vs w R) (h : ∀ e w', R e w' → ∃ v, e = .returned v ∧ ∀ a', a' = a.put (some d) v → wpListIn (Fence.wide.inRound l) n P ops Q rest a' w') (hd : o.dst = some d := by rfl) (hn : ∀ c, o.op ≠ .defer c := by intro c h; cases h) : wpListIn (Fence.wide.inRound l) n P ops Q (o :: rest) a w :=
  wpListIn_step fun K hK => by
    rw [if_pos hw]
    refine ⟨fun f _ => trivial, ?_⟩
    rw [Oper.semAt_plain _ _ _ hn, hr, Oper.uponIn_enter]
    refine ⟨fun _ => h1, (CallsIn.inRound l (callsIn_wide.2 hC)).mono ?_⟩
    intro e w' hp
    obtain ⟨v, rfl, hh⟩ := h e w' hp
    exact hK _ _ (by rw [hd]; exact hh _ rfl)
def bwd0_ops : Array Oper := (⟨_, rfl⟩ : {o // some o = rgB Tryz.f101 0}).1
theorem bwd0 {bs n c : Nat} {la : Option Addr} (a : Act) (w : World) (Q : Exit → Act → World → Prop) (zz : a.tmps.size = 19)
    (t1 : a.tmps.getD 1 undef = .pointer (some ⟨bs, 0, none⟩))
    (hb : -9223372036854775808 ≤ (n : Int) - 1 ∧ (n : Int) - 1 ≤ 9223372036854775807) (LB : ∀ W, W = w → (Instr.loadAt 85 (.pointer (some ⟨bs, 0, none⟩))).run Tryz.prog W = .ok (.slice la n c) W)
    (h : ∀ a' w', w' = w → a' = (((a.put (some 4) (.slice la n c)).put (some 5) (.int .i64 (n : Int))).put (some 6) (.int .i64 ((n : Int) - 1))).put (some 3) (.int .i64 ((n : Int) - 1)) → Q .normal a' w') :
    (Code.region 0 bwd0_ops false).wp Tryz.prog Q a w := by
  refine z0 rfl ?_
  refine zv rfl (xld rfl (zi t1 rfl) (LB _ rfl)) ?_
  refine zv rfl (exec_len rfl (zg zz rfl) (len_mk _ _ _ _)) ?_
  refine zv (v := .int .i64 ((n : Int) - 1)) rfl (ex_sub rfl (zg zz rfl) rfl hb) ?_
  refine zv rfl (xas rfl (zg zz rfl)) ?_
  exact ze rfl (h _ _ (rfl) rfl)
def bwd1_ops : Array Oper := (⟨_, rfl⟩ : {o // some o = rgB Tryz.f101 1}).1
theorem bwd1 {z : Int} {r : Bool} (a : Act) (w : World) (Q : Exit → Act → World → Prop) (zz : a.tmps.size = 19)
    (t3 : a.tmps.getD 3 undef = .int .i64 z)
    (hz : decide (z ≥ 0) = r)
    (h : ∀ a' w', w' = w → a' = (a.put (some 7) (.int .i64 z)).put (some 8) (.bool r) → Q .normal a' w') :
    (Code.region 1 bwd1_ops false).wp Tryz.prog Q a w := by
  refine z0 rfl ?_
  refine zv rfl (xmv rfl (zi t3 rfl)) ?_
  refine zv (v := .bool r) rfl (ex_geq rfl (zg zz rfl) rfl hz) ?_
  exact ze rfl (h _ _ (rfl) rfl)
def bwd2_ops : Array Oper := (⟨_, rfl⟩ : {o // some o = rgB Tryz.f101 2}).1
theorem bwd2 {z : Int} (a : Act) (w : World) (Q : Exit → Act → World → Prop) (zz : a.tmps.size = 19)
    (t3 : a.tmps.getD 3 undef = .int .i64 z)
    (hb : -9223372036854775808 ≤ z - 1 ∧ z - 1 ≤ 9223372036854775807)
    (h : ∀ a' w', w' = w → a' = ((a.put (some 9) (.int .i64 z)).put (some 10) (.int .i64 (z - 1))).put (some 3) (.int .i64 (z - 1)) → Q .normal a' w') :
    (Code.region 2 bwd2_ops false).wp Tryz.prog Q a w := by
  refine z0 rfl ?_
  refine zv rfl (xmv rfl (zi t3 rfl)) ?_
  refine zv (v := .int .i64 (z - 1)) rfl (ex_sub rfl (zg zz rfl) rfl hb) ?_
  refine zv rfl (xas rfl (zg zz rfl)) ?_
  exact ze rfl (h _ _ (rfl) rfl)
def bwd3_o0 : Oper := ⟨some 11, .move (.tmp 0), 159, "iter.go:29", #[], none⟩
def bwd3_o1 : Oper := ⟨some 12, .move (.tmp 3), 3, "iter.go:29", #[], none⟩
def bwd3_o2 : Oper := ⟨some 13, .load 85 (.tmp 1), 85, "iter.go:29", #[], none⟩
def bwd3_o3 : Oper := ⟨some 14, .move (.tmp 3), 3, "iter.go:29", #[], none⟩
def bwd3_o4 : Oper := ⟨some 15, .indexAddr 85 (.tmp 13) (.tmp 14), 0, "iter.go:29", #[⟨2, .data⟩, ⟨3, .data⟩], none⟩
def bwd3_o5 : Oper := ⟨some 16, .load 95 (.tmp 15), 95, "iter.go:29", #[⟨4, .data⟩], none⟩
def bwd3_o6 : Oper := ⟨some 17, .call { callee := Callee.value (.tmp 11), args := #[.tmp 12, .tmp 16], argTypes := #[3, 95] }, 4, "iter.go:29", #[⟨0, .data⟩, ⟨1, .data⟩, ⟨5, .data⟩], none⟩
def bwd3_o7 : Oper := ⟨some 18, .unOp UnOp.not 4 (.tmp 17), 4, "iter.go:29", #[⟨6, .data⟩], none⟩
def bwd3_ops : Array Oper := #[bwd3_o0, bwd3_o1, bwd3_o2, bwd3_o3, bwd3_o4, bwd3_o5, bwd3_o6, bwd3_o7]
theorem bwd3 {bs g o n c i l n0 : Nat} {x : MkV} (Fin : Bool → World → Prop) (a : Act) (w : World) (Q : Exit → Act → World → Prop) (hsz : a.tmps.size = 19)
    (t0 : a.tmps.getD 0 undef = .func (.yield l) #[] #[])
    (t1 : a.tmps.getD 1 undef = .pointer (some ⟨bs, 0, none⟩))
    (t3 : a.tmps.getD 3 undef = .int .i64 (i : Int))
    (hi : i < n) (hm : n ≤ 9223372036854775807) (LB : (Instr.loadAt 85 (.pointer (some ⟨bs, 0, none⟩))).run Tryz.prog w = .ok (.slice (some ⟨g, o, none⟩) n c) w) (LX : (Instr.loadAt 95 (.pointer (some ⟨g, o + 105 * i, none⟩))).run Tryz.prog w = .ok x.a w) (CY : YieldAt Fence.wide (n0 - 1) Tryz.prog l #[.int .i64 (i : Int), x.a] w fun e w' => ∃ b, e = .returned (.bool b) ∧ Fin b w')
    (h : ∀ (b : Bool) a' w', Fin b w' → a' = (((((((a.put (some 11) (.func (.yield l) #[] #[])).put (some 12) (.int .i64 (i : Int))).put (some 13) (.slice (some ⟨g, o, none⟩) n c)).put (some 14) (.int .i64 (i : Int))).put (some 15) (.pointer (some ⟨g, o + 105 * i, none⟩))).put (some 16) (x.a)).put (some 17) (.bool b)).put (some 18) (.bool (!b)) → Q .normal a' w') :
    (Code.region 3 bwd3_ops false).wpIn Fence.wide n0 Tryz.prog Q a w := by
  refine wpIn_region_list ?_
  change wpListIn _ _ _ _ _ [bwd3_o0, bwd3_o1, bwd3_o2, bwd3_o3, bwd3_o4, bwd3_o5, bwd3_o6, bwd3_o7] _ _
  refine qvI (v := .func (.yield l) #[] #[]) (by rfl) (xmv rfl t0) (fun a0 e0 => ?_)
  rw [← e0] at h
  have z0 := pz e0 hsz
  replace t1 := pk e0 t1
  replace t3 := pk e0 t3
  clear t0
  have t11 := pq e0 hsz
  clear e0 hsz
  refine qvI (v := .int .i64 (i : Int)) (by rfl) (xmv rfl t3) (fun a1 e1 => ?_)
  rw [← e1] at h
  have z1 := pz e1 z0
  replace t1 := pk e1 t1
  replace t3 := pk e1 t3
  replace t11 := pk e1 t11
  have t12 := pq e1 z0
  clear e1 z0
  refine qvI (v := .slice (some ⟨g, o, none⟩) n c) (by rfl) (xld rfl t1 LB) (fun a2 e2 => ?_)
  rw [← e2] at h
  have z2 := pz e2 z1
  replace t3 := pk e2 t3
  replace t11 := pk e2 t11
  replace t12 := pk e2 t12
  clear t1
  have t13 := pq e2 z1
  clear e2 z1
  refine qvI (v := .int .i64 (i : Int)) (by rfl) (xmv rfl t3) (fun a3 e3 => ?_)
  rw [← e3] at h
  have z3 := pz e3 z2
  replace t11 := pk e3 t11
  replace t12 := pk e3 t12
  replace t13 := pk e3 t13
  clear t3
  have t14 := pq e3 z2
  clear e3 z2
  refine qvI (v := .pointer (some ⟨g, o + 105 * i, none⟩)) (by rfl) (xia rfl t13 t14 (ix_mk hi hm _)) (fun a4 e4 => ?_)
  rw [← e4] at h
  have z4 := pz e4 z3
  replace t11 := pk e4 t11
  replace t12 := pk e4 t12
  clear t13 t14
  have t15 := pq e4 z3
  clear e4 z3
  refine qvI (v := x.a) (by rfl) (xld rfl t15 LX) (fun a5 e5 => ?_)
  rw [← e5] at h
  have z5 := pz e5 z4
  replace t11 := pk e5 t11
  replace t12 := pk e5 t12
  clear t15
  have t16 := pq e5 z4
  clear e5 z4
  refine qyI (by rfl) (by unfold bwd3_o6; go_simp) (CY) (fun e x6 hx => ?_)
  obtain ⟨b, rfl, HF⟩ := hx
  replace h := h b
  refine ⟨_, rfl, fun a6 e6 => ?_⟩
  rw [← e6] at h
  have z6 := pz e6 z5
  clear t11 t12 t16
  have t17 := pq e6 z5
  clear e6 z5
  refine qvI (v := .bool (!b)) (by rfl) (by unfold bwd3_o7; go_simp) (fun a7 e7 => ?_)
  rw [← e7] at h
  have z7 := pz e7 z6
  clear t17
  clear e7 z6
  exact wpListIn_nil (h _ _ (HF) rfl)
def cov0_ops : Array Oper := (⟨_, rfl⟩ : {o // some o = rgB Tryz.f56 0}).1
theorem cov0 {sp : Value} {r : Int} {b4 b5 : Nat} {w1 w2 : World} (a : Act) (w : World) (Q : Exit → Act → World → Prop) (zz : a.tmps.size = 53)
    (t1 : a.tmps.getD 1 undef = sp)
    (t2 : a.tmps.getD 2 undef = .int .i64 r)
    (E1 : (Instr.box 23 sp).run Tryz.prog w = .ok (.pointer (some ⟨b4, 0, none⟩)) w1) (E2 : (Instr.box 3 (.int .i64 r)).run Tryz.prog w1 = .ok (.pointer (some ⟨b5, 0, none⟩)) w2)
    (h : ∀ a' w', w' = w2 → a' = ((a.put (some 4) (.pointer (some ⟨b4, 0, none⟩))).put (some 5) (.pointer (some ⟨b5, 0, none⟩))).put (some 6) (.slice none 0 0) → Q .normal a' w') :
    (Code.region 0 cov0_ops false).wp Tryz.prog Q a w := by
  refine z0 rfl ?_
  refine zv (v := .pointer (some ⟨b4, 0, none⟩)) rfl (exec_boxM rfl (zi t1 rfl) E1) ?_
  refine zv (v := .pointer (some ⟨b5, 0, none⟩)) rfl (exec_boxM rfl (zi t2 rfl) E2) ?_
  refine zv rfl (xas rfl rfl) ?_
  exact ze rfl (h _ _ (rfl) rfl)
def cov1_ops : Array Oper := (⟨_, rfl⟩ : {o // some o = rgB Tryz.f56 1}).1
theorem cov1 {b7 : Nat} {w1 : World} (a : Act) (w : World) (Q : Exit → Act → World → Prop) (zz : a.tmps.size = 53)
    (E1 : (Instr.alloc 85 true (.tuple #[])).run Tryz.prog w = .ok (.pointer (some ⟨b7, 0, none⟩)) w1)
    (h : ∀ a' w', w' = w1 → a' = a.put (some 7) (.pointer (some ⟨b7, 0, none⟩)) → Q .normal a' w') :
    (Code.region 1 cov1_ops false).wp Tryz.prog Q a w := by
  refine z0 rfl ?_
  refine zv (v := .pointer (some ⟨b7, 0, none⟩)) rfl (exec_alloc rfl E1) ?_
  exact ze rfl (h _ _ (rfl) rfl)
def cov2_ops : Array Oper := (⟨_, rfl⟩ : {o // some o = rgB Tryz.f56 2}).1
theorem cov2 {b8 fm : Nat} {w1 w2 w3 : World} (a : Act) (w : World) (Q : Exit → Act → World → Prop) (zz : a.tmps.size = 53)
    (E1 : (Instr.makeMap 136 none).run Tryz.prog w = .ok (.map (some fm)) w1) (E2 : (Instr.alloc 136 true (.tuple #[])).run Tryz.prog w1 = .ok (.pointer (some ⟨b8, 0, none⟩)) w2) (E3 : (Instr.storeAt 136 (.pointer (some ⟨b8, 0, none⟩)) (.map (some fm))).run Tryz.prog w2 = .ok () w3)
    (h : ∀ a' w', w' = w3 → a' = (a.put (some 15) (.map (some fm))).put (some 8) (.pointer (some ⟨b8, 0, none⟩)) → Q .normal a' w') :
    (Code.region 2 cov2_ops false).wp Tryz.prog Q a w := by
  refine z0 rfl ?_
  refine zv (v := .map (some fm)) rfl (exec_makeMap rfl E1) ?_
  refine zv (v := .pointer (some ⟨b8, 0, none⟩)) rfl (exec_alloc rfl E2) ?_
  refine zs rfl (exec_store rfl (zg zz rfl) (zg zz rfl) E3) ?_
  exact ze rfl (h _ _ (rfl) rfl)
def cov3_ops : Array Oper := (⟨_, rfl⟩ : {o // some o = rgB Tryz.f56 3}).1
theorem cov3 {mb : Nat} {lv : Value} (Fin : Value → World → Prop) (a : Act) (w : World) (Q : Exit → Act → World → Prop) (zz : a.tmps.size = 53)
    (t0 : a.tmps.getD 0 undef = .pointer (some ⟨mb, 0, none⟩))
    (LL : ∀ W, W = w → (Instr.loadAt 85 (.pointer (some ⟨mb, 0 + 0, none⟩))).run Tryz.prog W = .ok (lv) W) (CB : Calls Tryz.prog 80 #[lv] w fun e w' => ∃ v, e = .returned v ∧ Fin v w')
    (h : ∀ (v : Value) a' w', Fin v w' → a' = ((((a.put (some 16) (.pointer (some ⟨mb, 0, none⟩))).put (some 17) (.pointer (some ⟨mb, 0, none⟩))).put (some 18) (.pointer (some ⟨mb, 0 + 0, none⟩))).put (some 19) (lv)).put (some 20) (v) → Q .normal a' w') :
    (Code.region 3 cov3_ops false).wp Tryz.prog Q a w := by
  refine z0 rfl ?_
  refine zv rfl (xmv rfl (zi t0 rfl)) ?_
  refine zv rfl (xnc rfl (zg zz rfl)) ?_
  refine zv rfl (xfa rfl (zg zz rfl) (fg_87_0 _ _ _)) ?_
  refine zv rfl (xld rfl (zg zz rfl) (LL _ rfl)) ?_
  refine zc rfl (exec_c1 rfl (zg zz rfl)) (CB) (fun e x4 hx => ?_)
  obtain ⟨v, rfl, HF⟩ := hx
  replace h := h v
  refine ⟨_, rfl, ?_⟩
  exact ze rfl (h _ _ (HF) rfl)
def cov4_o0 : Oper := ⟨some 10, .alloc 95, 0, "tell.go:33", #[], none⟩
def cov4_o1 : Oper := ⟨none, .store 95 (.tmp 10) (.tmp 22), 0, "tell.go:33", #[⟨0, .data⟩, ⟨0, .phase⟩], none⟩
def cov4_ops : Array Oper := #[cov4_o0, cov4_o1]
theorem cov4 {l n eb : Nat} {v : Value} {w1 w2 : World} (a : Act) (w : World) (Q : Exit → Act → World → Prop) (hsz : a.tmps.size = 53)
    (t22 : a.tmps.getD 22 undef = v)
    (EA : (Instr.alloc 95 true (.tuple #[])).run Tryz.prog w = .ok (.pointer (some ⟨eb, 0, none⟩)) w1) (ES : (Instr.storeAt 95 (.pointer (some ⟨eb, 0, none⟩)) v).run Tryz.prog w1 = .ok () w2)
    (h : ∀ a' w', w' = w2 → a' = a.put (some 10) (.pointer (some ⟨eb, 0, none⟩)) → Q .normal a' w') :
    (Code.region 4 cov4_ops false).wpIn (Fence.wide.inRound l) n Tryz.prog Q a w := by
  refine wpIn_region_list ?_
  change wpListIn _ _ _ _ _ [cov4_o0, cov4_o1] _ _
  refine qkI (v := .pointer (some ⟨eb, 0, none⟩)) (by rfl) (exec_alloc rfl EA) (fun a0 e0 => ?_)
  rw [← e0] at h
  have z0 := pz e0 hsz
  replace t22 := pk e0 t22
  have t10 := pq e0 hsz
  clear e0 hsz
  refine qsI (by rfl) (exec_store rfl t10 t22 ES) ?_
  exact wpListIn_nil (h _ _ (rfl) rfl)
def cov5_o0 : Oper := ⟨some 24, .load 136 (.tmp 8), 136, "tell.go:34", #[], none⟩
def cov5_o1 : Oper := ⟨some 25, .fieldAddr 95 (.tmp 10) 1, 0, "tell.go:34", #[], none⟩
def cov5_o2 : Oper := ⟨some 26, .load 9 (.tmp 25), 9, "tell.go:34", #[⟨1, .data⟩], none⟩
def cov5_o3 : Oper := ⟨some 27, .lookup 136 (.tmp 24) (.tmp 26) true, 125, "tell.go:34", #[⟨0, .data⟩, ⟨2, .data⟩], none⟩
def cov5_o4 : Oper := ⟨some 23, .move (.tmp 27), 125, "tell.go:34", #[⟨3, .data⟩], none⟩
def cov5_o5 : Oper := ⟨some 28, .extract (.tmp 23) 0, 96, "tell.go:34", #[⟨4, .data⟩], none⟩
def cov5_o6 : Oper := ⟨some 29, .extract (.tmp 23) 1, 4, "tell.go:34", #[⟨4, .data⟩, { on := 8, ground := Ground.gcOnly Departure.lateStores }], none⟩
def cov5_o7 : Oper := ⟨some 11, .alloc 96, 0, "tell.go:34", #[], none⟩
def cov5_o8 : Oper := ⟨none, .store 96 (.tmp 11) (.tmp 28), 0, "tell.go:34", #[⟨7, .data⟩, ⟨5, .data⟩, ⟨0, .phase⟩, ⟨1, .phase⟩, ⟨2, .phase⟩, ⟨3, .phase⟩, ⟨4, .phase⟩, ⟨5, .phase⟩, { on := 6, ground := Ground.textOnly Departure.lateStores }, ⟨7, .phase⟩], none⟩
def cov5_o9 : Oper := ⟨some 12, .assign (.tmp 29), 4, "tell.go:34", #[⟨6, .data⟩, ⟨8, .chain⟩, ⟨0, .phase⟩, ⟨1, .phase⟩, ⟨2, .phase⟩, ⟨3, .phase⟩, ⟨4, .phase⟩, ⟨5, .phase⟩, ⟨6, .phase⟩, ⟨7, .phase⟩, ⟨8, .phase⟩], none⟩
def cov5_ops : Array Oper := #[cov5_o0, cov5_o1, cov5_o2, cov5_o3, cov5_o4, cov5_o5, cov5_o6, cov5_o7, cov5_o8, cov5_o9]
theorem cov5 {l n eb b8 fm ub : Nat} {nm : ByteArray} {r : Bool} {w1 w2 : World} (a : Act) (w : World) (Q : Exit → Act → World → Prop) (hsz : a.tmps.size = 53)
    (t8 : a.tmps.getD 8 undef = .pointer (some ⟨b8, 0, none⟩))
    (t10 : a.tmps.getD 10 undef = .pointer (some ⟨eb, 0, none⟩))
    (L0 : (Instr.loadAt 136 (.pointer (some ⟨b8, 0, none⟩))).run Tryz.prog w = .ok (.map (some fm)) w) (L1 : (Instr.loadAt 9 (.pointer (some ⟨eb, 0 + 33, none⟩))).run Tryz.prog w = .ok (.string nm) w) (LK : (Instr.lookup 136 (.map (some fm)) (.string nm) true).run Tryz.prog w = .ok (.tuple #[.agg #[], .bool r]) w) (EA : (Instr.alloc 96 true (.tuple #[])).run Tryz.prog w = .ok (.pointer (some ⟨ub, 0, none⟩)) w1) (ES : (Instr.storeAt 96 (.pointer (some ⟨ub, 0, none⟩)) (.agg #[])).run Tryz.prog w1 = .ok () w2)
    (h : ∀ a' w', w' = w2 → a' = ((((((((a.put (some 24) (.map (some fm))).put (some 25) (.pointer (some ⟨eb, 0 + 33, none⟩))).put (some 26) (.string nm)).put (some 27) (.tuple #[.agg #[], .bool r])).put (some 23) (.tuple #[.agg #[], .bool r])).put (some 28) (.agg #[])).put (some 29) (.bool r)).put (some 11) (.pointer (some ⟨ub, 0, none⟩))).put (some 12) (.bool r) → Q .normal a' w') :
    (Code.region 5 cov5_ops false).wpIn (Fence.wide.inRound l) n Tryz.prog Q a w := by
  refine wpIn_region_list ?_
  change wpListIn _ _ _ _ _ [cov5_o0, cov5_o1, cov5_o2, cov5_o3, cov5_o4, cov5_o5, cov5_o6, cov5_o7, cov5_o8, cov5_o9] _ _
  refine qvI (v := .map (some fm)) (by rfl) (xld rfl t8 L0) (fun a0 e0 => ?_)
  rw [← e0] at h
  have z0 := pz e0 hsz
  replace t10 := pk e0 t10
  clear t8
  have t24 := pq e0 hsz
  clear e0 hsz
  refine qvI (v := .pointer (some ⟨eb, 0 + 33, none⟩)) (by rfl) (xfa rfl t10 (fg_95_1 _ _ _)) (fun a1 e1 => ?_)
  rw [← e1] at h
  have z1 := pz e1 z0
  replace t24 := pk e1 t24
  clear t10
  have t25 := pq e1 z0
  clear e1 z0
  refine qvI (v := .string nm) (by rfl) (xld rfl t25 L1) (fun a2 e2 => ?_)
  rw [← e2] at h
  have z2 := pz e2 z1
  replace t24 := pk e2 t24
  clear t25
  have t26 := pq e2 z1
  clear e2 z1
  refine qvI (v := .tuple #[.agg #[], .bool r]) (by rfl) (exec_lookup rfl t24 t26 LK) (fun a3 e3 => ?_)
  rw [← e3] at h
  have z3 := pz e3 z2
  clear t24 t26
  have t27 := pq e3 z2
  clear e3 z2
  refine qvI (v := .tuple #[.agg #[], .bool r]) (by rfl) (xmv rfl t27) (fun a4 e4 => ?_)
  rw [← e4] at h
  have z4 := pz e4 z3
  clear t27
  have t23 := pq e4 z3
  clear e4 z3
  refine qvI (v := .agg #[]) (by rfl) (exec_extract rfl t23 rfl) (fun a5 e5 => ?_)
  rw [← e5] at h
  have z5 := pz e5 z4
  replace t23 := pk e5 t23
  have t28 := pq e5 z4
  clear e5 z4
  refine qvI (v := .bool r) (by rfl) (exec_extract rfl t23 rfl) (fun a6 e6 => ?_)
  rw [← e6] at h
  have z6 := pz e6 z5
  replace t28 := pk e6 t28
  clear t23
  have t29 := pq e6 z5
  clear e6 z5
  refine qkI (v := .pointer (some ⟨ub, 0, none⟩)) (by rfl) (exec_alloc rfl EA) (fun a7 e7 => ?_)
  rw [← e7] at h
  have z7 := pz e7 z6
  replace t28 := pk e7 t28
  replace t29 := pk e7 t29
  have t11 := pq e7 z6
  clear e7 z6
  refine qsI (by rfl) (exec_store rfl t11 t28 ES) ?_
  refine qvI (v := .bool r) (by rfl) (xas rfl t29) (fun a9 e9 => ?_)
  rw [← e9] at h
  have z9 := pz e9 z7
  clear t28 t29 t11
  clear e9 z7
  exact wpListIn_nil (h _ _ (rfl) rfl)
def cov6_o0 : Oper := ⟨some 30, .move (.tmp 12), 4, "tell.go:34", #[], none⟩
def cov6_ops : Array Oper := #[cov6_o0]
theorem cov6 {l n : Nat} {r : Bool} (a : Act) (w : World) (Q : Exit → Act → World → Prop) (hsz : a.tmps.size = 53)
    (t12 : a.tmps.getD 12 undef = .bool r)
    (h : ∀ a' w', w' = w → a' = a.put (some 30) (.bool r) → Q .normal a' w') :
    (Code.region 6 cov6_ops false).wpIn (Fence.wide.inRound l) n Tryz.prog Q a w := by
  refine wpIn_region_list ?_
  change wpListIn _ _ _ _ _ [cov6_o0] _ _
  refine qvI (v := .bool r) (by rfl) (xmv rfl t12) (fun a0 e0 => ?_)
  rw [← e0] at h
  have z0 := pz e0 hsz
  clear t12
  clear e0 hsz
  exact wpListIn_nil (h _ _ (rfl) rfl)
def cov7_o0 : Oper := ⟨some 32, .load 23 (.tmp 4), 23, "tell.go:37", #[], none⟩
def cov7_o1 : Oper := ⟨some 33, .call { callee := Callee.value (Operand.func 81), args := #[.tmp 10, .tmp 32], argTypes := #[95, 23] }, 140, "tell.go:37", #[⟨0, .data⟩], none⟩
def cov7_o2 : Oper := ⟨some 31, .move (.tmp 33), 140, "tell.go:37", #[⟨1, .data⟩], none⟩
def cov7_o3 : Oper := ⟨some 34, .extract (.tmp 31) 0, 3, "tell.go:37", #[⟨2, .data⟩], none⟩
def cov7_o4 : Oper := ⟨some 35, .extract (.tmp 31) 1, 3, "tell.go:37", #[⟨2, .data⟩, { on := 5, ground := Ground.gcOnly Departure.lateStores }], none⟩
def cov7_o5 : Oper := ⟨some 13, .assign (.tmp 34), 3, "tell.go:37", #[⟨3, .data⟩, ⟨1, .chain⟩, ⟨0, .phase⟩, ⟨1, .phase⟩, ⟨2, .phase⟩, ⟨3, .phase⟩, { on := 4, ground := Ground.textOnly Departure.lateStores }], none⟩
def cov7_o6 : Oper := ⟨some 14, .assign (.tmp 35), 3, "tell.go:37", #[⟨4, .data⟩, ⟨5, .chain⟩, ⟨0, .phase⟩, ⟨1, .phase⟩, ⟨2, .phase⟩, ⟨3, .phase⟩, ⟨4, .phase⟩, ⟨5, .phase⟩], none⟩
def cov7_ops : Array Oper := #[cov7_o0, cov7_o1, cov7_o2, cov7_o3, cov7_o4, cov7_o5, cov7_o6]
theorem cov7 {l n eb b4 : Nat} {sp : Value} {f u : Int} (Fin : World → Prop) (a : Act) (w : World) (Q : Exit → Act → World → Prop) (hsz : a.tmps.size = 53)
    (t4 : a.tmps.getD 4 undef = .pointer (some ⟨b4, 0, none⟩))
    (t10 : a.tmps.getD 10 undef = .pointer (some ⟨eb, 0, none⟩))
    (h1 : 1 ≤ n) (L0 : (Instr.loadAt 23 (.pointer (some ⟨b4, 0, none⟩))).run Tryz.prog w = .ok sp w) (CR : Calls Tryz.prog 81 #[.pointer (some ⟨eb, 0, none⟩), sp] w fun e w' => e = .returned (.tuple #[.int .i64 f, .int .i64 u]) ∧ Fin w')
    (h : ∀ a' w', Fin w' → a' = ((((((a.put (some 32) (sp)).put (some 33) (.tuple #[.int .i64 f, .int .i64 u])).put (some 31) (.tuple #[.int .i64 f, .int .i64 u])).put (some 34) (.int .i64 f)).put (some 35) (.int .i64 u)).put (some 13) (.int .i64 f)).put (some 14) (.int .i64 u) → Q .normal a' w') :
    (Code.region 7 cov7_ops false).wpIn (Fence.wide.inRound l) n Tryz.prog Q a w := by
  refine wpIn_region_list ?_
  change wpListIn _ _ _ _ _ [cov7_o0, cov7_o1, cov7_o2, cov7_o3, cov7_o4, cov7_o5, cov7_o6] _ _
  refine qvI (v := sp) (by rfl) (xld rfl t4 L0) (fun a0 e0 => ?_)
  rw [← e0] at h
  have z0 := pz e0 hsz
  replace t10 := pk e0 t10
  clear t4
  have t32 := pq e0 hsz
  clear e0 hsz
  refine qcR h1 (by rfl) (by unfold cov7_o1; go_simp) (CR) (fun e x1 hx => ?_)
  obtain ⟨rfl, HF⟩ := hx
  refine ⟨_, rfl, fun a1 e1 => ?_⟩
  rw [← e1] at h
  have z1 := pz e1 z0
  clear t10 t32
  have t33 := pq e1 z0
  clear e1 z0
  refine qvI (v := .tuple #[.int .i64 f, .int .i64 u]) (by rfl) (xmv rfl t33) (fun a2 e2 => ?_)
  rw [← e2] at h
  have z2 := pz e2 z1
  clear t33
  have t31 := pq e2 z1
  clear e2 z1
  refine qvI (v := .int .i64 f) (by rfl) (exec_extract rfl t31 rfl) (fun a3 e3 => ?_)
  rw [← e3] at h
  have z3 := pz e3 z2
  replace t31 := pk e3 t31
  have t34 := pq e3 z2
  clear e3 z2
  refine qvI (v := .int .i64 u) (by rfl) (exec_extract rfl t31 rfl) (fun a4 e4 => ?_)
  rw [← e4] at h
  have z4 := pz e4 z3
  replace t34 := pk e4 t34
  clear t31
  have t35 := pq e4 z3
  clear e4 z3
  refine qvI (v := .int .i64 f) (by rfl) (xas rfl t34) (fun a5 e5 => ?_)
  rw [← e5] at h
  have z5 := pz e5 z4
  replace t35 := pk e5 t35
  clear t34
  clear e5 z4
  refine qvI (v := .int .i64 u) (by rfl) (xas rfl t35) (fun a6 e6 => ?_)
  rw [← e6] at h
  have z6 := pz e6 z5
  clear t35
  clear e6 z5
  exact wpListIn_nil (h _ _ (HF) rfl)
def cov8f_o0 : Oper := ⟨some 36, .move (.tmp 13), 3, "tell.go:37", #[], none⟩
def cov8f_o1 : Oper := ⟨some 37, .load 3 (.tmp 5), 3, "tell.go:37", #[], none⟩
def cov8f_o2 : Oper := ⟨some 38, .binOp BinOp.leq 3 (.tmp 36) (.tmp 37) 3, 4, "tell.go:37", #[⟨0, .data⟩, ⟨1, .data⟩], none⟩
def cov8f_o3 : Oper := ⟨some 39, .move (.tmp 38), 4, "tell.go:37", #[⟨2, .data⟩], none⟩
def cov8f_o4 : Oper := ⟨some 40, .load 3 (.tmp 5), 3, "tell.go:37", #[⟨3, .guard⟩], some (3, true)⟩
def cov8f_o5 : Oper := ⟨some 41, .move (.tmp 14), 3, "tell.go:37", #[⟨3, .guard⟩], some (3, true)⟩
def cov8f_o6 : Oper := ⟨some 42, .binOp BinOp.lss 3 (.tmp 40) (.tmp 41) 3, 4, "tell.go:37", #[⟨4, .data⟩, ⟨5, .data⟩, ⟨3, .guard⟩], some (3, true)⟩
def cov8f_o7 : Oper := ⟨some 43, .pick (.tmp 39) (.tmp 42) (Operand.const (Value.bool false)), 4, "tell.go:37", #[⟨3, .data⟩, ⟨6, .data⟩], none⟩
def cov8f_ops : Array Oper := #[cov8f_o0, cov8f_o1, cov8f_o2, cov8f_o3, cov8f_o4, cov8f_o5, cov8f_o6, cov8f_o7]
theorem cov8f {l n b5 : Nat} {f r : Int} (a : Act) (w : World) (Q : Exit → Act → World → Prop) (hsz : a.tmps.size = 53)
    (t5 : a.tmps.getD 5 undef = .pointer (some ⟨b5, 0, none⟩))
    (t13 : a.tmps.getD 13 undef = .int .i64 f)
    (hf : decide (f ≤ r) = false) (L5 : (Instr.loadAt 3 (.pointer (some ⟨b5, 0, none⟩))).run Tryz.prog w = .ok (.int .i64 r) w)
    (h : ∀ a' w', w' = w → a' = (((((((a.put (some 36) (.int .i64 f)).put (some 37) (.int .i64 r)).put (some 38) (.bool false)).put (some 39) (.bool false)).put (some 40) (undef)).put (some 41) (undef)).put (some 42) (undef)).put (some 43) (.bool false) → Q .normal a' w') :
    (Code.region 8 cov8f_ops false).wpIn (Fence.wide.inRound l) n Tryz.prog Q a w := by
  refine wpIn_region_list ?_
  change wpListIn _ _ _ _ _ [cov8f_o0, cov8f_o1, cov8f_o2, cov8f_o3, cov8f_o4, cov8f_o5, cov8f_o6, cov8f_o7] _ _
  refine qvI (v := .int .i64 f) (by rfl) (xmv rfl t13) (fun a0 e0 => ?_)
  rw [← e0] at h
  have z0 := pz e0 hsz
  replace t5 := pk e0 t5
  clear t13
  have t36 := pq e0 hsz
  clear e0 hsz
  refine qvI (v := .int .i64 r) (by rfl) (xld rfl t5 L5) (fun a1 e1 => ?_)
  rw [← e1] at h
  have z1 := pz e1 z0
  replace t5 := pk e1 t5
  replace t36 := pk e1 t36
  have t37 := pq e1 z0
  clear e1 z0
  refine qvI (v := .bool false) (by rfl) (ex_leq rfl t36 t37 hf) (fun a2 e2 => ?_)
  rw [← e2] at h
  have z2 := pz e2 z1
  replace t5 := pk e2 t5
  clear t36 t37
  have t38 := pq e2 z1
  clear e2 z1
  refine qvI (v := .bool false) (by rfl) (xmv rfl t38) (fun a3 e3 => ?_)
  rw [← e3] at h
  have z3 := pz e3 z2
  replace t5 := pk e3 t5
  clear t38
  have t39 := pq e3 z2
  clear e3 z2
  refine qnI (by simp [Region.wanted, yielded, cov8f_ops, cov8f_o4, cov8f_o3, tget z3 (by decide) t39]) (fun a4 e4 => ?_)
  rw [← e4] at h
  have z4 := pz e4 z3
  replace t39 := pk e4 t39
  clear t5
  have t40 := pq e4 z3
  clear e4 z3
  refine qnI (by simp [Region.wanted, yielded, cov8f_ops, cov8f_o5, cov8f_o3, tget z4 (by decide) t39]) (fun a5 e5 => ?_)
  rw [← e5] at h
  have z5 := pz e5 z4
  replace t39 := pk e5 t39
  replace t40 := pk e5 t40
  have t41 := pq e5 z4
  clear e5 z4
  refine qnI (by simp [Region.wanted, yielded, cov8f_ops, cov8f_o6, cov8f_o3, tget z5 (by decide) t39]) (fun a6 e6 => ?_)
  rw [← e6] at h
  have z6 := pz e6 z5
  replace t39 := pk e6 t39
  clear t40 t41
  have t42 := pq e6 z5
  clear e6 z5
  refine qvI (v := .bool false) (by rfl) (by unfold cov8f_o7; go_simp) (fun a7 e7 => ?_)
  rw [← e7] at h
  have z7 := pz e7 z6
  clear t39 t42
  clear e7 z6
  exact wpListIn_nil (h _ _ (rfl) rfl)
theorem cov8t {l n b5 : Nat} {f u r : Int} {z : Bool} (a : Act) (w : World) (Q : Exit → Act → World → Prop) (hsz : a.tmps.size = 53)
    (t5 : a.tmps.getD 5 undef = .pointer (some ⟨b5, 0, none⟩))
    (t13 : a.tmps.getD 13 undef = .int .i64 f)
    (t14 : a.tmps.getD 14 undef = .int .i64 u)
    (hf : decide (f ≤ r) = true) (hu : decide (r < u) = z) (L5 : (Instr.loadAt 3 (.pointer (some ⟨b5, 0, none⟩))).run Tryz.prog w = .ok (.int .i64 r) w)
    (h : ∀ a' w', w' = w → a' = (((((((a.put (some 36) (.int .i64 f)).put (some 37) (.int .i64 r)).put (some 38) (.bool true)).put (some 39) (.bool true)).put (some 40) (.int .i64 r)).put (some 41) (.int .i64 u)).put (some 42) (.bool z)).put (some 43) (.bool z) → Q .normal a' w') :
    (Code.region 8 cov8f_ops false).wpIn (Fence.wide.inRound l) n Tryz.prog Q a w := by
  refine wpIn_region_list ?_
  change wpListIn _ _ _ _ _ [cov8f_o0, cov8f_o1, cov8f_o2, cov8f_o3, cov8f_o4, cov8f_o5, cov8f_o6, cov8f_o7] _ _
  refine qvI (v := .int .i64 f) (by rfl) (xmv rfl t13) (fun a0 e0 => ?_)
  rw [← e0] at h
  have z0 := pz e0 hsz
  replace t5 := pk e0 t5
  replace t14 := pk e0 t14
  clear t13
  have t36 := pq e0 hsz
  clear e0 hsz
  refine qvI (v := .int .i64 r) (by rfl) (xld rfl t5 L5) (fun a1 e1 => ?_)
  rw [← e1] at h
  have z1 := pz e1 z0
  replace t5 := pk e1 t5
  replace t14 := pk e1 t14
  replace t36 := pk e1 t36
  have t37 := pq e1 z0
  clear e1 z0
  refine qvI (v := .bool true) (by rfl) (ex_leq rfl t36 t37 hf) (fun a2 e2 => ?_)
  rw [← e2] at h
  have z2 := pz e2 z1
  replace t5 := pk e2 t5
  replace t14 := pk e2 t14
  clear t36 t37
  have t38 := pq e2 z1
  clear e2 z1
  refine qvI (v := .bool true) (by rfl) (xmv rfl t38) (fun a3 e3 => ?_)
  rw [← e3] at h
  have z3 := pz e3 z2
  replace t5 := pk e3 t5
  replace t14 := pk e3 t14
  clear t38
  have t39 := pq e3 z2
  clear e3 z2
  refine qvI (v := .int .i64 r) (by simp [Region.wanted, yielded, cov8f_ops, cov8f_o4, cov8f_o3, tget z3 (by decide) t39]) (xld rfl t5 L5) (fun a4 e4 => ?_)
  rw [← e4] at h
  have z4 := pz e4 z3
  replace t14 := pk e4 t14
  replace t39 := pk e4 t39
  clear t5
  have t40 := pq e4 z3
  clear e4 z3
  refine qvI (v := .int .i64 u) (by simp [Region.wanted, yielded, cov8f_ops, cov8f_o5, cov8f_o3, tget z4 (by decide) t39]) (xmv rfl t14) (fun a5 e5 => ?_)
  rw [← e5] at h
  have z5 := pz e5 z4
  replace t39 := pk e5 t39
  replace t40 := pk e5 t40
  clear t14
  have t41 := pq e5 z4
  clear e5 z4
  refine qvI (v := .bool z) (by simp [Region.wanted, yielded, cov8f_ops, cov8f_o6, cov8f_o3, tget z5 (by decide) t39]) (ex_lss rfl t40 t41 hu) (fun a6 e6 => ?_)
  rw [← e6] at h
  have z6 := pz e6 z5
  replace t39 := pk e6 t39
  clear t40 t41
  have t42 := pq e6 z5
  clear e6 z5
  refine qvI (v := .bool z) (by rfl) (by unfold cov8f_o7; go_simp) (fun a7 e7 => ?_)
  rw [← e7] at h
  have z7 := pz e7 z6
  clear t39 t42
  clear e7 z6
  exact wpListIn_nil (h _ _ (rfl) rfl)
def cov9_o0 : Oper := ⟨some 44, .load 136 (.tmp 8), 136, "tell.go:38", #[], none⟩
def cov9_o1 : Oper := ⟨some 45, .fieldAddr 95 (.tmp 10) 1, 0, "tell.go:38", #[], none⟩
def cov9_o2 : Oper := ⟨some 46, .load 9 (.tmp 45), 9, "tell.go:38", #[⟨1, .data⟩], none⟩
def cov9_o3 : Oper := ⟨some 47, .build 96 #[], 96, "tell.go:38", #[], none⟩
def cov9_o4 : Oper := ⟨none, .mapUpdate 136 (.tmp 44) (.tmp 46) (.tmp 47), 0, "tell.go:38", #[⟨0, .data⟩, ⟨2, .data⟩, ⟨3, .data⟩, ⟨0, .phase⟩, ⟨1, .phase⟩, ⟨2, .phase⟩, ⟨3, .phase⟩], none⟩
def cov9_ops : Array Oper := #[cov9_o0, cov9_o1, cov9_o2, cov9_o3, cov9_o4]
theorem cov9 {l n eb b8 fm : Nat} {nm : ByteArray} {w1 : World} (a : Act) (w : World) (Q : Exit → Act → World → Prop) (hsz : a.tmps.size = 53)
    (t8 : a.tmps.getD 8 undef = .pointer (some ⟨b8, 0, none⟩))
    (t10 : a.tmps.getD 10 undef = .pointer (some ⟨eb, 0, none⟩))
    (L0 : (Instr.loadAt 136 (.pointer (some ⟨b8, 0, none⟩))).run Tryz.prog w = .ok (.map (some fm)) w) (L1 : (Instr.loadAt 9 (.pointer (some ⟨eb, 0 + 33, none⟩))).run Tryz.prog w = .ok (.string nm) w) (HU : (Instr.build 96 #[]).run Tryz.prog w = .ok (.agg #[]) w) (EM : (Instr.mapUpdate 136 (.map (some fm)) (.string nm) (.agg #[])).run Tryz.prog w = .ok () w1)
    (h : ∀ a' w', w' = w1 → a' = (((a.put (some 44) (.map (some fm))).put (some 45) (.pointer (some ⟨eb, 0 + 33, none⟩))).put (some 46) (.string nm)).put (some 47) (.agg #[]) → Q .normal a' w') :
    (Code.region 9 cov9_ops false).wpIn (Fence.wide.inRound l) n Tryz.prog Q a w := by
  refine wpIn_region_list ?_
  change wpListIn _ _ _ _ _ [cov9_o0, cov9_o1, cov9_o2, cov9_o3, cov9_o4] _ _
  refine qvI (v := .map (some fm)) (by rfl) (xld rfl t8 L0) (fun a0 e0 => ?_)
  rw [← e0] at h
  have z0 := pz e0 hsz
  replace t10 := pk e0 t10
  clear t8
  have t44 := pq e0 hsz
  clear e0 hsz
  refine qvI (v := .pointer (some ⟨eb, 0 + 33, none⟩)) (by rfl) (xfa rfl t10 (fg_95_1 _ _ _)) (fun a1 e1 => ?_)
  rw [← e1] at h
  have z1 := pz e1 z0
  replace t44 := pk e1 t44
  clear t10
  have t45 := pq e1 z0
  clear e1 z0
  refine qvI (v := .string nm) (by rfl) (xld rfl t45 L1) (fun a2 e2 => ?_)
  rw [← e2] at h
  have z2 := pz e2 z1
  replace t44 := pk e2 t44
  clear t45
  have t46 := pq e2 z1
  clear e2 z1
  refine qvI (v := .agg #[]) (by rfl) (exec_build0 rfl HU) (fun a3 e3 => ?_)
  rw [← e3] at h
  have z3 := pz e3 z2
  replace t44 := pk e3 t44
  replace t46 := pk e3 t46
  have t47 := pq e3 z2
  clear e3 z2
  refine qsI (by rfl) (exec_mapUpdate rfl t44 t46 t47 EM) ?_
  exact wpListIn_nil (h _ _ (rfl) rfl)
def cov10_o0 : Oper := ⟨some 48, .load 85 (.tmp 7), 85, "tell.go:39", #[], none⟩
def cov10_o1 : Oper := ⟨some 49, .load 95 (.tmp 10), 95, "tell.go:39", #[], none⟩
def cov10_o2 : Oper := ⟨some 50, .buildSlice 85 1 #[(0, .tmp 49)], 85, "tell.go:39", #[⟨1, .data⟩], none⟩
def cov10_o3 : Oper := ⟨some 51, .call { callee := Callee.builtin Builtin.append, args := #[.tmp 48, .tmp 50], argTypes := #[85, 85] }, 85, "tell.go:39", #[⟨0, .data⟩, ⟨2, .data⟩], none⟩
def cov10_o4 : Oper := ⟨none, .store 85 (.tmp 7) (.tmp 51), 0, "tell.go:39", #[⟨3, .data⟩, ⟨3, .chain⟩, ⟨0, .phase⟩, ⟨1, .phase⟩, ⟨2, .phase⟩, ⟨3, .phase⟩], none⟩
def cov10_ops : Array Oper := #[cov10_o0, cov10_o1, cov10_o2, cov10_o3, cov10_o4]
theorem cov10 {l n eb b7 : Nat} {x : MkV} {u sv u2 : Value} {w1 w2 w3 : World} (a : Act) (w : World) (Q : Exit → Act → World → Prop) (hsz : a.tmps.size = 53)
    (t7 : a.tmps.getD 7 undef = .pointer (some ⟨b7, 0, none⟩))
    (t10 : a.tmps.getD 10 undef = .pointer (some ⟨eb, 0, none⟩))
    (L0 : (Instr.loadAt 85 (.pointer (some ⟨b7, 0, none⟩))).run Tryz.prog w = .ok u w) (L1 : (Instr.loadAt 95 (.pointer (some ⟨eb, 0, none⟩))).run Tryz.prog w = .ok x.a w) (EB : (Instr.buildSlice 85 1 #[(0, x.a)]).run Tryz.prog w = .ok sv w1) (EA : (Builtin.append_ #[85, 85] 85 #[u, sv]).run Tryz.prog w1 = .ok u2 w2) (ES : (Instr.storeAt 85 (.pointer (some ⟨b7, 0, none⟩)) u2).run Tryz.prog w2 = .ok () w3)
    (h : ∀ a' w', w' = w3 → a' = (((a.put (some 48) (u)).put (some 49) (x.a)).put (some 50) (sv)).put (some 51) (u2) → Q .normal a' w') :
    (Code.region 10 cov10_ops false).wpIn (Fence.wide.inRound l) n Tryz.prog Q a w := by
  refine wpIn_region_list ?_
  change wpListIn _ _ _ _ _ [cov10_o0, cov10_o1, cov10_o2, cov10_o3, cov10_o4] _ _
  refine qvI (v := u) (by rfl) (xld rfl t7 L0) (fun a0 e0 => ?_)
  rw [← e0] at h
  have z0 := pz e0 hsz
  replace t7 := pk e0 t7
  replace t10 := pk e0 t10
  have t48 := pq e0 hsz
  clear e0 hsz
  refine qvI (v := x.a) (by rfl) (xld rfl t10 L1) (fun a1 e1 => ?_)
  rw [← e1] at h
  have z1 := pz e1 z0
  replace t7 := pk e1 t7
  replace t48 := pk e1 t48
  clear t10
  have t49 := pq e1 z0
  clear e1 z0
  refine qkI (v := sv) (by rfl) (exec_buildSlice rfl t49 EB) (fun a2 e2 => ?_)
  rw [← e2] at h
  have z2 := pz e2 z1
  replace t7 := pk e2 t7
  replace t48 := pk e2 t48
  clear t49
  have t50 := pq e2 z1
  clear e2 z1
  refine qkI (v := u2) (by rfl) (exec_append rfl t48 t50 EA) (fun a3 e3 => ?_)
  rw [← e3] at h
  have z3 := pz e3 z2
  replace t7 := pk e3 t7
  clear t48 t50
  have t51 := pq e3 z2
  clear e3 z2
  refine qsI (by rfl) (exec_store rfl t7 t51 ES) ?_
  exact wpListIn_nil (h _ _ (rfl) rfl)
def cov11_ops : Array Oper := (⟨_, rfl⟩ : {o // some o = rgB Tryz.f56 11}).1
theorem cov11 {b7 : Nat} {u : Value} (a : Act) (w : World) (Q : Exit → Act → World → Prop) (zz : a.tmps.size = 53)
    (t7 : a.tmps.getD 7 undef = .pointer (some ⟨b7, 0, none⟩))
    (L0 : (Instr.loadAt 85 (.pointer (some ⟨b7, 0, none⟩))).run Tryz.prog w = .ok u w)
    (h : ∀ a' w', w' = w → a' = (a.put (some 52) (u)).put (some 6) (u) → Q .normal a' w') :
    (Code.region 11 cov11_ops false).wp Tryz.prog Q a w := by
  refine z0 rfl ?_
  refine zv rfl (xld rfl (zi t7 rfl) L0) ?_
  refine zv rfl (xas rfl (zg zz rfl)) ?_
  exact ze rfl (h _ _ (rfl) rfl)
end Go.Proofs.YtifendlpeebofaaGreatDoor
namespace Go.Proofs.YtifendlpeebofaaGreatDoor
open Go.RowKit Go.Shelf Sq
def Kl (l : List Nat) (W W' : World) : Prop := ∀ j ∈ l, W'.heap[j]? = W.heap[j]?
theorem Kl.trans {l : List Nat} {A B C : World} (h : Kl l A B) (k : Kl l B C) : Kl l A C := fun j hj => (k j hj).trans (h j hj)
theorem Kl.put {l : List Nat} {w : World} (hl : ∀ j ∈ l, j < w.heap.size) (W : World) (b : Nat) (o o' : Obj) (hb : w.heap.size ≤ b) (h : W.heap[b]? = some o) (h1 : o.isCells = false) (h2 : o.isWalk = false) : Kl l W (W.putObj b o') := fun j hj => by
  have := hl j hj
  exact World.putObj_heap_other (by omega)
def bkZ {κ : Type} (L : List κ) : List (κ × Nat) := L.zipIdx.reverse
theorem bkZ_len {κ : Type} (L : List κ) : (bkZ L).length = L.length := by simp [bkZ]
theorem bkZ_get {κ : Type} {L : List κ} {j : Nat} {x : κ} (hx : L[j]? = some x) : (bkZ L)[L.length - 1 - j]? = some (x, j) := by
  have hj := (List.getElem?_eq_some_iff.1 hx).1
  unfold bkZ
  rw [List.getElem?_reverse (by simp; omega), List.length_zipIdx, List.getElem?_zipIdx, show L.length - 1 - (L.length - 1 - j) = j by omega, hx]
  simp
theorem bkZ_step {κ : Type} {L : List κ} {j : Nat} {x : κ} (hx : L[j]? = some x) : (bkZ L).take (L.length - j) = (bkZ L).take (L.length - (j + 1)) ++ [(x, j)] := by
  have hj := (List.getElem?_eq_some_iff.1 hx).1
  have := bkZ_get hx
  rw [show L.length - j = (L.length - 1 - j) + 1 by omega, show L.length - (j + 1) = L.length - 1 - j by omega, List.take_add_one, this]
  rfl
abbrev OkM := {x : MkV // x.ok ∧ (0 ≤ x.sd ∧ x.sd ≤ 3)}
theorem lift_ok {κ : Type} {P : κ → Prop} : ∀ (L : List κ), (∀ x ∈ L, P x) → ∃ LK : List {x // P x}, LK.map (·.1) = L
  | [], _ => ⟨[], rfl⟩
  | x :: L, h => by
    obtain ⟨LK, e⟩ := lift_ok L (fun y hy => h y (by simp [hy]))
    exact ⟨⟨x, h x (by simp)⟩ :: LK, by simp [e]⟩
def adB (a : Option Addr) : List Nat := match a with | some ad => [ad.block] | none => []
theorem backward_any (w : World) (la : Option Addr) (n c : Nat) : Calls Tryz.prog 80 #[.slice la n c] w fun e w' => e = .returned (.func (.func 101) #[] #[.pointer (some ⟨w.heap.size, 0, none⟩)]) ∧ w'.heap.size = w.heap.size + 1 ∧ w'.heap[w.heap.size]? = some (.cells #[.slice la n c] 85 (0, 0)) ∧ Below w.heap.size w w' := by
  go_enter Tryz.func80, Tryz.ntmps80
  go_wp2
  go_ret
  exact ⟨rfl, by simp, heap_alloc_new _ _, (Below.refl _ _).alloc (Nat.le_refl _) _⟩
theorem bwd_stops (n0 bs : Nat) (L : List OkM) (hn : L.length ≤ 900000000000) {la : Option Addr} {c : Nat} (w : World) (hc : w.cell? ⟨bs, 0, none⟩ = some (.slice la L.length c)) (hat : RM.At w la (L.map (·.1))) :
    SeqStopsK Fence.wide n0 Tryz.prog 101 #[.pointer (some ⟨bs, 0, none⟩)] (fun x : OkM × Nat => #[.int .i64 (x.2 : Int), x.1.1.a]) (Kl (bs :: adB la)) (fun xs => xs = bkZ L) (fun _ => True) L.length w := by
  intro l J Jx W hW hJ hJx hY h0
  have l1 := block_lt_of_cell hc
  have hla : ∀ j ∈ adB la, L ≠ [] → j < w.heap.size := fun j hj hne => by
    rcases hat with e | ⟨b, off, e, hb, _⟩
    · exact absurd (List.map_eq_nil_iff.1 e) hne
    · rw [e] at hj
      simp [adB] at hj
      omega
  have HC : Hid (∀ W', Kl (bs :: adB la) W W' → W'.cell? ⟨bs, 0, none⟩ = some (.slice la L.length c)) := fun W' hk => (World.cell?_of_block (a := ⟨bs, 0, none⟩) (hk bs (by simp))).trans ((hW.cell (p := ⟨bs, 0, none⟩) l1).trans hc)
  have HX : Hid (∀ (W' : World) (j : Nat) (x : OkM), Kl (bs :: adB la) W W' → L[j]? = some x → ∃ g o, la = some ⟨g, o, none⟩ ∧ (Instr.loadAt 95 (.pointer (some ⟨g, o + 105 * j, none⟩))).run Tryz.prog W' = .ok x.1.a W') := fun W' j x hk hx => by
    rcases hat with e | ⟨b, off, e, hb, hr⟩
    · rw [List.map_eq_nil_iff.1 e] at hx; cases hx
    · refine ⟨b, off, e, RowT.ld RM_is x.2.1 (rangeAt_keep (rangeAt_keep (hr j x.1 (by rw [List.getElem?_map, hx]; rfl)) (hW.block _ hb)) (hk b (by rw [e]; simp [adB])))⟩
  have HY := hidMk hY
  have H0 := hidMk h0
  obtain ⟨n, hnn⟩ : ∃ n, L.length = n := ⟨_, rfl⟩
  have HN := hidMk hnn
  rw [hnn] at hn HC
  clear hY h0 hc hat hnn hla
  refine callsIn_of_wp Tryz.func101 rfl trivial ?_ rfl
  simp only [Tryz.ntmps101, List.size_toArray, List.length_cons, List.length_nil, Nat.reduceAdd, Nat.reduceSub, Array.replicate_succ, Array.replicate_zero, List.push_toArray, List.append_toArray, List.nil_append, List.cons_append]
  refine wpIn_wide.2 ?_
  have hlb0 : (Instr.loadAt 85 (.pointer (some ⟨bs, 0, none⟩))).run Tryz.prog W = .ok (.slice la n c) W := by
    have hc := HC.out W (fun _ _ => rfl)
    go_simp
  go_upto_region 0 with fail
  refine bwd0 (bs := bs) (n := n) (c := c) (la := la) _ W _ rfl rfl (by omega) (fun W' e => by rw [e]; exact hlb0) ?_
  intro a' w1 hw ha
  obtain rfl : W = w1 := hw.symm
  subst ha
  simp only [Act.put, qsA, qsB, qsC]
  clear hlb0
  go_wp2
  go_loopw [3] (fun v3 wr => ∃ k : Nat, v3 = .int .i64 ((k : Int) - 1) ∧ k ≤ n ∧ Hid (J ((bkZ L).take (L.length - k)) wr ∧ Kl (bs :: adB la) W wr)) (fun v3 _ => (match v3 with | .int _ i => (i + 1).toNat | _ => 0))
  case atStart => exact ⟨n, rfl, Nat.le_refl _, by rw [HN.out, Nat.sub_self]; exact H0.out, fun _ _ => rfl⟩
  case round =>
    obtain ⟨k, rfl, hk, HI⟩ := hrel
    cases k with
    | zero =>
      go_upto_region 1 with fail
      refine bwd1 (z := ((0 : Nat) : Int) - 1) (r := false) _ wr _ rfl rfl (by decide) ?_
      intro a' w1 hw ha
      obtain rfl : wr = w1 := hw.symm
      subst ha
      simp only [Act.put, qsA, qsB, qsC]
      go_wp2
      go_end0
      refine ⟨⟨_, rfl⟩, .inl ?_⟩
      have := HI.out.1
      rw [Nat.sub_zero, ← bkZ_len, List.take_length] at this
      exact this
    | succ j =>
      obtain ⟨x, hx⟩ : ∃ x, L[j]? = some x := ⟨_, List.getElem?_eq_getElem (by rw [HN.out]; omega)⟩
      have hz : ((j + 1 : Nat) : Int) - 1 = (j : Int) := by omega
      rw [hz]
      go_upto_region 1 with fail
      refine bwd1 (z := (j : Int)) (r := true) _ wr _ rfl rfl (decide_eq_true (by omega)) ?_
      intro a' w1 hw ha
      obtain rfl : wr = w1 := hw.symm
      subst ha
      simp only [Act.put, qsA, qsB, qsC]
      obtain ⟨g, o, rfl, hld⟩ := HX.out wr j x HI.out.2 hx
      have hlb : (Instr.loadAt 85 (.pointer (some ⟨bs, 0, none⟩))).run Tryz.prog wr = .ok (.slice (some ⟨g, o, none⟩) n c) wr := by
        have hc := HC.out wr HI.out.2
        go_simp
      have h63 : n ≤ 9223372036854775807 := by omega
      have hst := bkZ_step hx
      have CY := HY.out ((bkZ L).take (L.length - (j + 1))) (x, j) wr HI.out.1 (by rw [List.length_take, bkZ_len, HN.out]; omega)
      rw [← hst] at CY
      have HK := hidMk HI.out.2
      clear HI hst hz
      go_upto_region 3 with fail
      refine (wpIn_wide (n := n0)).1 ?_
      refine bwd3 (bs := bs) (g := g) (o := o) (n := n) (c := c) (i := j) (l := l) (x := x.1) (fun b W' => (b = true ∧ J ((bkZ L).take (L.length - j)) W' ∧ Kl (bs :: adB (some ⟨g, o, none⟩)) wr W') ∨ (b = false ∧ Jx ((bkZ L).take (L.length - j)) W')) _ wr _ rfl rfl rfl rfl hk h63 hlb hld (CY.mono ?_) ?_
      · rintro e W' (⟨rfl, q1, q2⟩ | ⟨rfl, q1⟩)
        · exact ⟨true, rfl, .inl ⟨rfl, q1, q2⟩⟩
        · exact ⟨false, rfl, .inr ⟨rfl, q1⟩⟩
      intro b a' w2 hP ha
      subst ha
      simp only [Act.put, qsA, qsB, qsC]
      clear hlb hld CY
      rcases hP with ⟨rfl, q1, q2⟩ | ⟨rfl, q1⟩
      · have Q1 := hidMk q1
        have Q2 := hidMk (HK.out.trans q2)
        clear q1 q2 HK
        go_upto_region 2 with fail
        refine bwd2 (z := (j : Int)) _ w2 _ rfl rfl (by omega) ?_
        intro a' w3 hw ha
        obtain rfl : w2 = w3 := hw.symm
        subst ha
        simp only [Act.put, qsA, qsB, qsC]
        go_wp2
        refine ⟨⟨j, rfl, by omega, Q1.out, Q2.out⟩, ?_⟩
        show ((j : Int) - 1 + 1).toNat < ((j : Int) + 1).toNat
        omega
      · have Q1 := hidMk q1
        clear q1 HK
        go_wp2
        refine bodyPost_ret (results_none rfl _ _ _) rfl ?_
        exact ⟨⟨_, rfl⟩, .inr ⟨_, Q1.out⟩⟩
theorem ba_inj {a b : ByteArray} (h : a.toList = b.toList) : a = b := by
  rw [ByteArray.toList_eq, ByteArray.toList_eq] at h
  cases a; cases b
  congr 1
  exact Array.toList_inj.1 h
def tx (s : ByteArray) : Value := .string s
theorem txKey : M.KeyOk Tryz.prog 9 tx (fun s => s.size ≤ maxLen) := {
  chk := fun b k w hk => MapKept.run_checkKey (d := .string) (k := .string k) Tryz.underlying9 trivial b 9999
  eq := fun a b w ha hb => by
    have : (Op.equal 9 (.string a) (.string b)).run Tryz.prog w = .ok (a.toList == b.toList) w := by
      unfold Op.equal Op.maxDepth
      exact run_equalIn_string w 9999 9 _ _ Tryz.underlying9
    have e : decide (a = b) = (a.toList == b.toList) := by
      rw [Bool.eq_iff_iff]
      simp only [decide_eq_true_eq, beq_iff_eq]
      constructor
      · rintro rfl; rfl
      · exact ba_inj
    rw [e]
    exact this
  und := ⟨_, Tryz.underlying9, .inr fun a b => by
    have e : (a == b) = decide (a = b) := by rw [Bool.eq_iff_iff, MapKept.bytes_beq, decide_eq_true_eq]
    rw [← e]
    rfl⟩
  bits := fun k => by
    simp only [tx, Instr.sameBits]
    exact (MapKept.bytes_beq k k).2 rfl }
def txOk (s : ByteArray) : Prop := s.size ≤ maxLen
def covStep (E : List Elt) (r : Int) (acc : List MkV) (x : MkV) : List MkV := if (acc.any fun y => decide (y.nm = x.nm)) = true then acc else if (reachP E x).1 ≤ r ∧ r < (reachP E x).2 then acc ++ [x] else acc
def covP (E : List Elt) (r : Int) (pre : List (OkM × Nat)) : List MkV := (pre.map (·.1.1)).foldl (covStep E r) []
def covL (E : List Elt) (L : List MkV) (r : Int) : List MkV := L.reverse.foldl (covStep E r) []
theorem covP_all (E : List Elt) (L : List OkM) (r : Int) : covP E r (bkZ L) = covL E (L.map (·.1)) r := by
  unfold covP covL bkZ
  have : L.zipIdx.map (fun p => p.1.1) = L.map (·.1) := by
    rw [← List.zipIdx_map_fst 0 L, List.map_map]
    simp [Function.comp]
  rw [List.map_reverse, this]
theorem covP_snoc (E : List Elt) (r : Int) (pre : List (OkM × Nat)) (x : OkM × Nat) : covP E r (pre ++ [x]) = covStep E r (covP E r pre) x.1.1 := by
  unfold covP
  rw [List.map_append, List.foldl_append]
  rfl
theorem covStep_mem {E : List Elt} {r : Int} {acc : List MkV} {x y : MkV} (h : y ∈ covStep E r acc x) : y ∈ acc ∨ y = x := by
  unfold covStep at h
  split at h
  · exact .inl h
  · split at h
    · rcases List.mem_append.1 h with h | h
      · exact .inl h
      · exact .inr (List.mem_singleton.1 h)
    · exact .inl h
theorem covP_mem {E : List Elt} {r : Int} : ∀ {l : List MkV} {acc : List MkV} {y : MkV}, y ∈ l.foldl (covStep E r) acc → y ∈ acc ∨ y ∈ l
  | [], acc, y, h => .inl h
  | x :: l, acc, y, h => by
    rcases covP_mem (l := l) h with h | h
    · rcases covStep_mem h with h | rfl
      · exact .inl h
      · exact .inr (by simp)
    · exact .inr (by simp [h])
theorem covStep_len {E : List Elt} {r : Int} {acc : List MkV} {x : MkV} : (covStep E r acc x).length ≤ acc.length + 1 := by
  unfold covStep
  split
  · omega
  · split <;> simp
theorem covP_len {E : List Elt} {r : Int} : ∀ (l : List MkV) (acc : List MkV), (l.foldl (covStep E r) acc).length ≤ acc.length + l.length
  | [], acc => by simp
  | x :: l, acc => by
    have := covP_len (E := E) (r := r) l (covStep E r acc x)
    have := covStep_len (E := E) (r := r) (acc := acc) (x := x)
    simp only [List.foldl_cons, List.length_cons]
    omega
def nmE (L : List MkV) : List (ByteArray × Value) := L.map fun x => (x.nm, unV)
def hasN (L : List MkV) (s : ByteArray) : Bool := L.any fun y => decide (y.nm = s)
theorem nmE_look (L : List MkV) (k : ByteArray) : M.look (nmE L) k = if hasN L k = true then some unV else none := by
  induction L with
  | nil => simp [nmE, M.look_nil, hasN]
  | cons x L ih =>
    show M.look ((x.nm, unV) :: nmE L) k = _
    rw [M.look_cons, ih]
    by_cases e : k = x.nm
    · rw [if_pos e, if_pos (by simp [hasN, e])]
    · rw [if_neg e]
      have : hasN (x :: L) k = hasN L k := by simp [hasN, show ¬ x.nm = k from fun q => e q.symm]
      rw [this]
theorem addN_nil {L : List MkV} {k : ByteArray} (h : hasN L k = false) : M.put (nmE L) k unV = nmE L ++ [(k, unV)] := by
  have hn : M.look (nmE L) k = none := by rw [nmE_look, h]; rfl
  unfold M.look at hn
  unfold M.put
  cases e : M.fnd (nmE L) k 0 with
  | none => rfl
  | some q => rw [e] at hn; cases hn
structure LC (w wl : World) (b4 b5 b7 b8 fm : Nat) (sp : Value) (r : Int) (acc : List MkV) (W : World) : Prop where
  v : ∃ v, W.heap[b7]? = some (.cells #[v] 85 (0, 0)) ∧ RM.Lo W w.heap.size v acc
  m : W.heap[b8]? = some (.cells #[.map (some fm)] 136 (0, 0))
  f : M.MapAt W fm tx txOk (nmE acc)
  s : W.heap[b4]? = some (.cells #[sp] 23 (0, 0))
  r : W.heap[b5]? = some (.cells #[.int .i64 r] 3 (0, 0))
  bel : Below w.heap.size w W
  sz : wl.heap.size ≤ W.heap.size
section
variable {w wl W W' : World} {b4 b5 b7 b8 fm : Nat} {sp : Value} {r : Int} {acc : List MkV}
theorem LC.keep (h : LC w wl b4 b5 b7 b8 fm sp r acc W) (b : Below w.heap.size W W') (hk : ∀ (j : Nat) (c : Array Value) (t : TypeId) (z : Nat × Nat), W.heap[j]? = some (.cells c t z) → W'.heap[j]? = W.heap[j]?) (hf : W'.heap[fm]? = W.heap[fm]?) : LC w wl b4 b5 b7 b8 fm sp r acc W' := by
  obtain ⟨v, v1, v2⟩ := h.v
  exact ⟨⟨v, (hk _ _ _ _ v1).trans v1, v2.keep (fun k hk2 => by obtain ⟨_, c, hc⟩ := v2.cells hk2; exact hk _ _ _ _ hc)⟩, (hk _ _ _ _ h.m).trans h.m, h.f.below hf, (hk _ _ _ _ h.s).trans h.s, (hk _ _ _ _ h.r).trans h.r, h.bel.trans b, Nat.le_trans h.sz b.size⟩
theorem LC.below (h : LC w wl b4 b5 b7 b8 fm sp r acc W) (b : Below W.heap.size W W') : LC w wl b4 b5 b7 b8 fm sp r acc W' :=
  h.keep (b.mono h.bel.size) (fun j c t z hj => b.block j (Array.getElem?_eq_some_iff.1 hj).1) (b.block _ h.f.lt)
theorem LC.own {α : Type} (w wl : World) (b4 b5 b7 b8 fm : Nat) (sp : Value) (r : Int) (f : List α → List MkV) (hw : w.heap.size ≤ wl.heap.size) (hfm : fm < wl.heap.size) : OwnFrom wl.heap.size (fun pre W => LC w wl b4 b5 b7 b8 fm sp r (f pre) W) := by
  intro pre W W' row hs hg hr
  have h := hs
  refine h.keep ⟨hg.os, hg.tape, hg.output, hg.size, fun k hk => hg.block k (Nat.lt_of_lt_of_le hk h.bel.size) (fun e => by have := (hr k e.symm).1; omega)⟩ (fun j c t z hj => hg.block j (Array.getElem?_eq_some_iff.1 hj).1 (fun e => ?_)) (hg.block _ h.f.lt (fun e => by have := (hr fm e.symm).1; omega))
  obtain ⟨_, o, ho, hc⟩ := hr j e.symm
  rw [hj] at ho; cases ho; cases hc
theorem LC.lookn (h : LC w wl b4 b5 b7 b8 fm sp r acc W) {k : ByteArray} (hk : k.size ≤ maxLen) : (Instr.lookup 136 (.map (some fm)) (.string k) true).run Tryz.prog W = .ok (.tuple #[.agg #[], .bool (hasN acc k)]) W := by
  have := M.run_look txKey Tryz.underlying136 h.f k hk (zeroUn W) true
  rw [show (Value.string k) = tx k from rfl, this, M.has_look, nmE_look]
  cases hasN acc k <;> rfl
theorem mv_load {b : Nat} {v : Value} (h : W.heap[b]? = some (.cells #[v] 85 (0, 0))) (hv : ∃ a n c, v = .slice a n c) : (Instr.loadAt 85 (.pointer (some ⟨b, 0, none⟩))).run Tryz.prog W = .ok v W := by
  obtain ⟨a, n, c, rfl⟩ := hv
  have hc : W.cell? ⟨b, 0, none⟩ = some (.slice a n c) := (cell_of_row W b 0 _ _ _ h).trans rfl
  go_simp
theorem mv_store {b : Nat} {v : Value} (h : W.heap[b]? = some (.cells #[v] 85 (0, 0))) (hv : ∃ a n c, v = .slice a n c) (a : Option Addr) (n c : Nat) : (Instr.storeAt 85 (.pointer (some ⟨b, 0, none⟩)) (.slice a n c)).run Tryz.prog W = .ok () (W.setCell ⟨b, 0, none⟩ (.slice a n c)) ∧ (W.setCell ⟨b, 0, none⟩ (.slice a n c)).heap[b]? = some (.cells #[.slice a n c] 85 (0, 0)) := by
  obtain ⟨a0, n0, c0, rfl⟩ := hv
  have hc : W.cell? ⟨b, 0, none⟩ = some (.slice a0 n0 c0) := (cell_of_row W b 0 _ _ _ h).trans rfl
  have hf := frozen_of_row W b 0 _ _ h
  exact ⟨by go_simp, Go.heap_setCell_same _ _ 0 _ _ _ h⟩
theorem LC.more (h : LC w wl b4 b5 b7 b8 fm sp r acc W) {x : MkV} (hx : x.ok) (okA : ∀ y ∈ acc, y.ok) (hn : acc.length + 1 ≤ 900000000000) (hnew : hasN acc x.nm = false) (hw : w.heap.size ≤ wl.heap.size) (hfm : w.heap.size ≤ fm ∧ fm < wl.heap.size) (h7 : w.heap.size ≤ b7) :
    ∃ wa v sv wb v2 wc wd, (Instr.mapUpdate 136 (.map (some fm)) (.string x.nm) (.agg #[])).run Tryz.prog W = .ok () wa ∧ (∀ (j : Nat) (c : Array Value) (t : TypeId) (z : Nat × Nat), W.heap[j]? = some (.cells c t z) → wa.heap[j]? = W.heap[j]?) ∧ (Instr.loadAt 85 (.pointer (some ⟨b7, 0, none⟩))).run Tryz.prog wa = .ok v wa ∧
      (Instr.buildSlice 85 1 #[(0, x.a)]).run Tryz.prog wa = .ok sv wb ∧ (Builtin.append_ #[85, 85] 85 #[v, sv]).run Tryz.prog wb = .ok v2 wc ∧ (Instr.storeAt 85 (.pointer (some ⟨b7, 0, none⟩)) v2).run Tryz.prog wc = .ok () wd ∧
      LC w wl b4 b5 b7 b8 fm sp r (acc ++ [x]) wd ∧ KeepsFrom wl.heap.size W wd ∧ Below w.heap.size W wd ∧ (∀ (j : Nat) (c : Array Value) (t : TypeId) (z : Nat × Nat), W.heap[j]? = some (.cells c t z) → t ≠ 95 → j ≠ b7 → wd.heap[j]? = W.heap[j]?) := by
  obtain ⟨v, v1, v2⟩ := h.v
  obtain ⟨ob, ep, mp⟩ := M.run_put (P := Tryz.prog) (w := W) txKey Tryz.underlying136 h.f x.nm hx.nm (.agg #[])
  have ca : ∀ (j : Nat) (c : Array Value) (t : TypeId) (z : Nat × Nat), W.heap[j]? = some (.cells c t z) → (M.setM W fm ob).heap[j]? = W.heap[j]? := fun j c t z hj => M.setM_other ob (fun e => by
    obtain ⟨⟨es, cc, hm, _⟩, _⟩ := h.f
    rw [e, hm] at hj
    cases hj)
  have za : (M.setM W fm ob).heap.size = W.heap.size := M.setM_size _ _ _
  have la : RM.Lo (M.setM W fm ob) w.heap.size v acc := v2.keep (fun k hk => by obtain ⟨_, c, hc⟩ := v2.cells hk; exact ca _ _ _ _ hc)
  obtain ⟨wa, hwa⟩ : ∃ wa, M.setM W fm ob = wa := ⟨_, rfl⟩
  rw [hwa] at ca za la mp ep
  have b0 := h.bel.size
  obtain ⟨sv, wb, u, wc, e1, e2, lo, bl1, z1, g, q, _⟩ := RowT.lo_push RM_is wa w.heap.size v acc okA x la hx (by unfold maxLen; omega) (by show _ * 184 ≤ _; omega) (by omega)
  have va : wa.heap[b7]? = some (.cells #[v] 85 (0, 0)) := (ca _ _ _ _ v1).trans v1
  have okx : ∀ y ∈ acc ++ [x], y.ok := fun y hy => by
    rcases List.mem_append.1 hy with hy | hy
    · exact okA y hy
    · rw [List.mem_singleton.1 hy]; exact hx
  obtain ⟨sa, sc, ev, _⟩ := la.open RM_is okA
  obtain ⟨ua, uc, eu, _⟩ := lo.open RM_is okx
  have kb : ∀ (j : Nat) (c : Array Value) (t : TypeId) (z : Nat × Nat), wb.heap[j]? = some (.cells c t z) → t ≠ 95 → wc.heap[j]? = some (.cells c t z) := fun j c t z hj ht => (g.block j (Array.getElem?_eq_some_iff.1 hj).1 (fun e => by
    obtain ⟨_, c2, hc2⟩ := (la.below bl1).cells e.symm
    exact ht (two_typesM hj hc2))).trans hj
  have vb : wb.heap[b7]? = some (.cells #[v] 85 (0, 0)) := (bl1.block _ (Array.getElem?_eq_some_iff.1 va).1).trans va
  have vc := kb _ _ _ _ vb (by decide)
  obtain ⟨es, vd⟩ := mv_store vc ⟨sa, _, sc, ev⟩ ua (acc ++ [x]).length uc
  obtain ⟨wd, hwd⟩ : ∃ wd, wc.setCell ⟨b7, 0, none⟩ (.slice ua (acc ++ [x]).length uc) = wd := ⟨_, rfl⟩
  have od : ∀ j, j ≠ b7 → wd.heap[j]? = wc.heap[j]? := fun j hj => by rw [← hwd]; exact Below.heap_setCell _ _ _ _ hj
  rw [hwd] at es vd
  have zd : wd.heap.size = wc.heap.size := by rw [← hwd]; simp [World.setCell]
  have kd : ∀ (j : Nat) (c : Array Value) (t : TypeId) (z : Nat × Nat), W.heap[j]? = some (.cells c t z) → t ≠ 95 → j ≠ b7 → wd.heap[j]? = W.heap[j]? := fun j c t z hj ht h7 => by
    have a1 := (ca j c t z hj).trans hj
    have a2 := (bl1.block j (Array.getElem?_eq_some_iff.1 a1).1).trans a1
    exact ((od j h7).trans (kb j c t z a2 ht)).trans hj.symm
  have fd : wd.heap[fm]? = wa.heap[fm]? := by
    have hlt := mp.lt
    obtain ⟨⟨es2, cc, hm, _⟩, _⟩ := mp
    have a2 := (bl1.block fm (Array.getElem?_eq_some_iff.1 hm).1).trans hm
    have a3 : wc.heap[fm]? = wb.heap[fm]? := g.block fm (Array.getElem?_eq_some_iff.1 a2).1 (fun e => by
      obtain ⟨_, c2, hc2⟩ := (la.below bl1).cells e.symm
      rw [a2] at hc2
      cases hc2)
    have n7 : fm ≠ b7 := fun e => by
      rw [e] at hm
      rw [va] at hm
      cases hm
    exact ((od fm n7).trans a3).trans (a2.trans hm.symm)
  have n2 : u.ownBlock ≠ some b7 := fun e => by
    obtain ⟨_, c, hc⟩ := lo.cells e
    have := two_typesM hc vc
    revert this; decide
  have bd : Below w.heap.size W wd := by
    refine ⟨?_, ?_, ?_, by have := bl1.size; have := g.size; omega, fun k hk => ?_⟩
    · rw [← hwd]; exact g.os.trans (bl1.os.trans (by rw [← hwa]; rfl))
    · rw [← hwd]; exact g.tape.trans (bl1.tape.trans (by rw [← hwa]; rfl))
    · rw [← hwd]; exact g.output.trans (bl1.output.trans (by rw [← hwa]; rfl))
    · rw [od k (by omega), g.block k (by have := bl1.size; omega) (fun e => by have := ((la.below bl1).cells e.symm).1; omega), bl1.block k (by omega), ← hwa, M.setM_other ob (by omega)]
  refine ⟨wa, v, sv, wb, u, wc, wd, ep, ca, mv_load va ⟨sa, _, sc, ev⟩, e1, e2, by rw [eu]; exact es, ⟨⟨u, by rw [eu]; exact vd, lo.keep (fun j hj => od j (fun e => n2 (by rw [← e]; exact hj)))⟩, (kd _ _ _ _ h.m (by decide) (fun e => ?_)).trans h.m, ?_, (kd _ _ _ _ h.s (by decide) (fun e => ?_)).trans h.s, (kd _ _ _ _ h.r (by decide) (fun e => ?_)).trans h.r, h.bel.trans bd, Nat.le_trans h.sz bd.size⟩, ⟨bd.size, fun k o hB hk ho => ?_⟩, bd, kd⟩
  · have := h.m
    rw [e] at this
    have := two_typesM this v1
    revert this; decide
  · have e5 : nmE (acc ++ [x]) = M.put (nmE acc) x.nm (.agg #[]) := by
      rw [show M.put (nmE acc) x.nm (.agg #[]) = M.put (nmE acc) x.nm unV from rfl, addN_nil hnew]
      simp [nmE]
    rw [e5]
    exact mp.below fd
  · have := h.s
    rw [e] at this
    have := two_typesM this v1
    revert this; decide
  · have := h.r
    rw [e] at this
    have := two_typesM this v1
    revert this; decide
  · have hkl := (Array.getElem?_eq_some_iff.1 hk).1
    have a1 : wa.heap[k]? = some o := by rw [← hwa, M.setM_other ob (by omega)]; exact hk
    have a2 := (bl1.block k (Array.getElem?_eq_some_iff.1 a1).1).trans a1
    have a3 : wc.heap[k]? = some o := (g.block k (Array.getElem?_eq_some_iff.1 a2).1 (fun e => by
      obtain ⟨_, c2, hc2⟩ := (la.below bl1).cells e.symm
      rw [a2] at hc2
      cases hc2
      cases ho)).trans a2
    rw [od k (fun e => by
      rw [e, vc] at a3
      cases a3
      cases ho)]
    exact a3
end
attribute [local go_sem] Oper.semAt_some
theorem zput {a : Act} {j : Nat} {v : Value} : (a.put (some j) v).tmps.size = a.tmps.size := by simp [Act.put]
theorem gput {a : Act} {i j : Nat} {v : Value} : (a.put (some j) v).tmps.getD i undef = if i = j then (if j < a.tmps.size then v else undef) else a.tmps.getD i undef := by
  simp only [Act.put, Array.getD_eq_getD_getElem?, Array.getElem?_setIfInBounds]
  by_cases e : j = i
  · subst e
    by_cases q : j < a.tmps.size <;> simp [q]
  · rw [if_neg e, if_neg (fun q : i = j => e q.symm)]
theorem run_boxM {P : Program} (t : TypeId) (v : Value) (w : World) : (Instr.box t v).run P w = .ok (.pointer (some ⟨w.heap.size, 0, none⟩)) (w.alloc (.cells v.cells t)) := by
  simp only [Instr.box, newVar, newRow, newObj, Sem.run_bind, Sem.run_pure, Result.andThen_ok]
  rfl
theorem cov_start (w : World) (sb : Nat) (r : Int) : ∃ w1 w2 w3 w4 w5 w6, (Instr.box 23 (.pointer (some ⟨sb, 0, none⟩))).run Tryz.prog w = .ok (.pointer (some ⟨w.heap.size, 0, none⟩)) w1 ∧ (Instr.box 3 (.int .i64 r)).run Tryz.prog w1 = .ok (.pointer (some ⟨w.heap.size + 1, 0, none⟩)) w2 ∧ (Instr.alloc 85 true (.tuple #[])).run Tryz.prog w2 = .ok (.pointer (some ⟨w.heap.size + 2, 0, none⟩)) w3 ∧ (Instr.makeMap 136 none).run Tryz.prog w3 = .ok (.map (some (w.heap.size + 3))) w4 ∧
    (Instr.alloc 136 true (.tuple #[])).run Tryz.prog w4 = .ok (.pointer (some ⟨w.heap.size + 4, 0, none⟩)) w5 ∧ (Instr.storeAt 136 (.pointer (some ⟨w.heap.size + 4, 0, none⟩)) (.map (some (w.heap.size + 3)))).run Tryz.prog w5 = .ok () w6 ∧
    LC w w6 w.heap.size (w.heap.size + 1) (w.heap.size + 2) (w.heap.size + 4) (w.heap.size + 3) (.pointer (some ⟨sb, 0, none⟩)) r [] w6 ∧ w6.heap.size = w.heap.size + 5 := by
  have al : ∀ (W : World) (o : Obj), (W.alloc o).heap.size = W.heap.size + 1 := fun W o => by simp
  have bl : ∀ (W : World) (o : Obj), Below W.heap.size W (W.alloc o) := fun W o => (Below.refl _ _).alloc (Nat.le_refl _) _
  obtain ⟨w1, h1⟩ : ∃ W, w.alloc (.cells #[.pointer (some ⟨sb, 0, none⟩)] 23) = W := ⟨_, rfl⟩
  obtain ⟨w2, h2⟩ : ∃ W, w1.alloc (.cells #[.int .i64 r] 3) = W := ⟨_, rfl⟩
  obtain ⟨w3, h3⟩ : ∃ W, w2.alloc (.cells #[.slice none 0 0] 85) = W := ⟨_, rfl⟩
  obtain ⟨w4, h4⟩ : ∃ W, w3.alloc (.map #[] 0) = W := ⟨_, rfl⟩
  obtain ⟨w5, h5⟩ : ∃ W, w4.alloc (.cells #[.map none] 136) = W := ⟨_, rfl⟩
  have z1 : w1.heap.size = w.heap.size + 1 := by rw [← h1, al]
  have z2 : w2.heap.size = w.heap.size + 2 := by rw [← h2, al, z1]
  have z3 : w3.heap.size = w.heap.size + 3 := by rw [← h3, al, z2]
  have z4 : w4.heap.size = w.heap.size + 4 := by rw [← h4, al, z3]
  have z5 : w5.heap.size = w.heap.size + 5 := by rw [← h5, al, z4]
  have b1 : Below w.heap.size w w1 := by rw [← h1]; exact bl _ _
  have b2 : Below w1.heap.size w1 w2 := by rw [← h2]; exact bl _ _
  have b3 : Below w2.heap.size w2 w3 := by rw [← h3]; exact bl _ _
  have b4 : Below w3.heap.size w3 w4 := by rw [← h4]; exact bl _ _
  have b5 : Below w4.heap.size w4 w5 := by rw [← h5]; exact bl _ _
  have i1 : w1.heap[w.heap.size]? = some (.cells #[.pointer (some ⟨sb, 0, none⟩)] 23 (0, 0)) := by rw [← h1]; exact heap_alloc_new _ _
  have i2 : w2.heap[w.heap.size + 1]? = some (.cells #[.int .i64 r] 3 (0, 0)) := by rw [← h2, ← z1]; exact heap_alloc_new _ _
  have i3 : w3.heap[w.heap.size + 2]? = some (.cells #[.slice none 0 0] 85 (0, 0)) := by rw [← h3, ← z2]; exact heap_alloc_new _ _
  have i4 : M.MapAt w4 (w.heap.size + 3) tx txOk (nmE []) := by rw [← h4, ← z3]; exact M.MapAt.new w3 tx txOk
  have i5 : w5.heap[w.heap.size + 4]? = some (.cells #[.map none] 136 (0, 0)) := by rw [← h5, ← z4]; exact heap_alloc_new _ _
  have hc : w5.cell? ⟨w.heap.size + 4, 0, none⟩ = some (.map none) := (cell_of_row w5 (w.heap.size + 4) 0 _ _ _ i5).trans rfl
  have hf := frozen_of_row w5 (w.heap.size + 4) 0 _ _ i5
  have i6 := Go.heap_setCell_same w5 (w.heap.size + 4) 0 _ _ (Value.map (some (w.heap.size + 3))) i5
  have k6 : ∀ j, j ≠ w.heap.size + 4 → (w5.setCell ⟨w.heap.size + 4, 0, none⟩ (.map (some (w.heap.size + 3)))).heap[j]? = w5.heap[j]? := fun j hj => Below.heap_setCell _ _ _ _ hj
  have z6 : (w5.setCell ⟨w.heap.size + 4, 0, none⟩ (.map (some (w.heap.size + 3)))).heap.size = w.heap.size + 5 := by simp [World.setCell]; exact z5
  have c1 := (b2.block _ (by omega)).trans i1
  have c1 := (b3.block _ (by omega)).trans c1
  have c1 := (b4.block _ (by omega)).trans c1
  have c1 := (b5.block _ (by omega)).trans c1
  have c2 := (b3.block _ (by omega)).trans i2
  have c2 := (b4.block _ (by omega)).trans c2
  have c2 := (b5.block _ (by omega)).trans c2
  have c3 := (b4.block _ (by omega)).trans i3
  have c3 := (b5.block _ (by omega)).trans c3
  have c4 := i4.below (b5.block _ (by omega))
  have bw : Below w.heap.size w w5 := (((b1.trans (b2.mono (by omega))).trans (b3.mono (by omega))).trans (b4.mono (by omega))).trans (b5.mono (by omega))
  refine ⟨w1, w2, w3, w4, w5, _, ?_, ?_, ?_, ?_, ?_, ?_, ⟨⟨.slice none 0 0, (k6 _ (by omega)).trans c3, RowT.lo_nil RM _ _⟩, i6, c4.below (k6 _ (by omega)), (k6 _ (by omega)).trans c1, (k6 _ (by omega)).trans c2, bw.setCell (p := ⟨w.heap.size + 4, 0, none⟩) (by show w.heap.size ≤ w.heap.size + 4; omega) _, Nat.le_refl _⟩, z6⟩
  · rw [run_boxM, ← h1]; rfl
  · rw [run_boxM, ← h2, z1]; rfl
  · rw [← h3, ← z2]; kernel_rfl
  · rw [← h4, ← z3]; simp [Instr.makeMap, run_underlying Tryz.underlying136]
  · rw [← h5, ← z4]; kernel_rfl
  · clear h1 h2 h3 h4 h5 b1 b2 b3 b4 b5 i1 i2 i3 i4 c1 c2 c3 c4 bw z6 k6 i6
    go_simp
def AxM (b4 b5 b7 b8 : Nat) (x : OkM × Nat) (a : Act) (W : World) : Prop := ∃ eb, a.tmps.size = 53 ∧ a.tmps.getD 4 undef = .pointer (some ⟨b4, 0, none⟩) ∧ a.tmps.getD 5 undef = .pointer (some ⟨b5, 0, none⟩) ∧ a.tmps.getD 7 undef = .pointer (some ⟨b7, 0, none⟩) ∧ a.tmps.getD 8 undef = .pointer (some ⟨b8, 0, none⟩) ∧ a.tmps.getD 10 undef = .pointer (some ⟨eb, 0, none⟩) ∧ RM.Bx W eb x.1.1
theorem AxM.own (b4 b5 b7 b8 B : Nat) (x : OkM × Nat) (a : Act) : OwnFrom B (fun (_ : Unit) W => AxM b4 b5 b7 b8 x a W) := by
  intro _ W W' row hs hg hr
  obtain ⟨eb, h0, h1, h2, h3, h4, h5, h6⟩ := hs
  refine ⟨eb, h0, h1, h2, h3, h4, h5, (hg.block eb (Array.getElem?_eq_some_iff.1 h6).1 (fun e => ?_)).trans h6⟩
  obtain ⟨_, o, ho, hc⟩ := hr eb e.symm
  rw [show W.heap[eb]? = _ from h6] at ho; cases ho; cases hc
theorem keeps_below {B : Nat} {W W' : World} (b : Below W.heap.size W W') : KeepsFrom B W W' := ⟨b.size, fun k o _ hk _ => (b.block k (Array.getElem?_eq_some_iff.1 hk).1).trans hk⟩
attribute [local go_sem] Oper.semAt_some
section
variable {w wl W W' : World} {b4 b5 b7 b8 fm : Nat} {sb : Nat} {r : Int} {acc : List MkV}
theorem LC.ldf (h : LC w wl b4 b5 b7 b8 fm (.pointer (some ⟨sb, 0, none⟩)) r acc W) : (Instr.loadAt 136 (.pointer (some ⟨b8, 0, none⟩))).run Tryz.prog W = .ok (.map (some fm)) W := by
  have hc : W.cell? ⟨b8, 0, none⟩ = some (.map (some fm)) := (cell_of_row W b8 0 _ _ _ h.m).trans rfl
  go_simp
theorem LC.lds (h : LC w wl b4 b5 b7 b8 fm (.pointer (some ⟨sb, 0, none⟩)) r acc W) : (Instr.loadAt 23 (.pointer (some ⟨b4, 0, none⟩))).run Tryz.prog W = .ok (.pointer (some ⟨sb, 0, none⟩)) W := by
  have hc : W.cell? ⟨b4, 0, none⟩ = some (.pointer (some ⟨sb, 0, none⟩)) := (cell_of_row W b4 0 _ _ _ h.s).trans rfl
  go_simp
theorem LC.ldr (h : LC w wl b4 b5 b7 b8 fm (.pointer (some ⟨sb, 0, none⟩)) r acc W) : (Instr.loadAt 3 (.pointer (some ⟨b5, 0, none⟩))).run Tryz.prog W = .ok (.int .i64 r) W := by
  have hc : W.cell? ⟨b5, 0, none⟩ = some (.int .i64 r) := (cell_of_row W b5 0 _ _ _ h.r).trans rfl
  go_simp
end
def LCs (w wl : World) (b4 b5 b7 b8 fm : Nat) (sp : Value) (r : Int) (bs : Nat) (acc : List MkV) (W : World) : Prop := LC w wl b4 b5 b7 b8 fm sp r acc W ∧ ∃ c, W.heap[bs]? = some (.cells c 85 (0, 0))
theorem LCs.own {α : Type} (w wl : World) (b4 b5 b7 b8 fm : Nat) (sp : Value) (r : Int) (bs : Nat) (f : List α → List MkV) (hw : w.heap.size ≤ wl.heap.size) (hfm : fm < wl.heap.size) : OwnFrom wl.heap.size (fun pre W => LCs w wl b4 b5 b7 b8 fm sp r bs (f pre) W) := by
  intro pre W W' row hs hg hr
  obtain ⟨h1, c, h2⟩ := hs
  refine ⟨LC.own w wl b4 b5 b7 b8 fm sp r f hw hfm pre W W' row h1 hg hr, c, (hg.block bs (Array.getElem?_eq_some_iff.1 h2).1 (fun e => ?_)).trans h2⟩
  obtain ⟨_, o, ho, hc⟩ := hr bs e.symm
  rw [h2] at ho; cases ho; cases hc
set_option maxHeartbeats 8000000 in
theorem covering_any {w : World} {s : Sx} {E : List Elt} {base : Nat} {m : Mx} (h : SeqAt w s E) (hm : MkAt w base m) (r : Int) :
    Calls Tryz.prog 56 #[.pointer (some ⟨m.mb, 0, none⟩), .pointer (some ⟨s.sb, 0, none⟩), .int .i64 r] w fun e w' => ∃ v, e = .returned v ∧ RM.Lo w' w.heap.size v (covL E m.L r) ∧ Below w.heap.size w w' := by
  obtain ⟨LK, hLK⟩ := lift_ok (P := fun x : MkV => x.ok ∧ (0 ≤ x.sd ∧ x.sd ≤ 3)) m.L hm.ok
  obtain ⟨la, lc, elv, hat⟩ := hm.lvS
  have hla : ∀ j ∈ adB la, j < w.heap.size := by
    rcases hm.lo with ⟨e, _⟩ | ⟨g, cap, cur, e, _, hg, _⟩
    · rw [elv] at e
      injection e with e1
      rw [e1]
      simp [adB]
    · rw [elv] at e
      injection e with e1
      rw [e1]
      intro j hj
      simp [adB] at hj
      rw [hj]
      exact (Array.getElem?_eq_some_iff.1 hg).1
  have hlen : m.L.length = LK.length := by rw [← hLK, List.length_map]
  have hn : LK.length ≤ 900000000000 := by rw [← hlen]; exact hm.n
  rw [← hLK] at hat
  rw [hlen] at elv
  obtain ⟨w1, w2, w3, w4, w5, w6, e1, e2, e3, e4, e5, e6, L6, z6⟩ := cov_start w s.sb r
  have HE := hidMk (And.intro e1 (And.intro e2 (And.intro e3 (And.intro e4 (And.intro e5 e6)))))
  have HH := hidMk (fun (W : World) (b : Below w.heap.size w W) => h.below b)
  have HM := hidMk (fun (W : World) (b : Below w.heap.size w W) => hm.below b)
  have HL6 := hidMk L6
  have HZ6 := hidMk z6
  have HLA := hidMk hla
  have HN := hidMk hn
  clear e1 e2 e3 e4 e5 e6 z6 hla
  refine (callsIn_wide (n := 4)).1 ?_
  refine callsIn_of_wp_marks Tryz.func56 rfl trivial ?_ rfl
  simp only [Tryz.ntmps56, List.size_toArray, List.length_cons, List.length_nil, Nat.reduceAdd, Nat.reduceSub, Array.replicate_succ, Array.replicate_zero, List.push_toArray, List.append_toArray, List.nil_append, List.cons_append]
  refine wpIn_wide.2 ?_
  go_upto_region 0 with fail
  refine cov0 (sp := .pointer (some ⟨s.sb, 0, none⟩)) (r := r) (b4 := w.heap.size) (b5 := w.heap.size + 1) (w1 := w1) (w2 := w2) _ w _ rfl rfl rfl HE.out.1 HE.out.2.1 ?_
  intro a' wx hw ha
  obtain rfl : w2 = wx := hw.symm
  subst ha
  simp only [Act.put, qsA, qsB, qsC]
  go_upto_region 1 with fail
  refine cov1 (b7 := w.heap.size + 2) (w1 := w3) _ w2 _ rfl HE.out.2.2.1 ?_
  intro a' wx hw ha
  obtain rfl : w3 = wx := hw.symm
  subst ha
  simp only [Act.put, qsA, qsB, qsC]
  go_upto_region 2 with fail
  refine cov2 (b8 := w.heap.size + 4) (fm := w.heap.size + 3) (w1 := w4) (w2 := w5) (w3 := w6) _ w3 _ rfl HE.out.2.2.2.1 HE.out.2.2.2.2.1 HE.out.2.2.2.2.2 ?_
  intro a' wx hw ha
  obtain rfl : w6 = wx := hw.symm
  subst ha
  simp only [Act.put, qsA, qsB, qsC]
  clear HE
  go_upto_region 3 with fail
  refine cov3 (mb := m.mb) (lv := m.lv) (fun v W => v = .func (.func 101) #[] #[.pointer (some ⟨w6.heap.size, 0, none⟩)] ∧ W.heap.size = w6.heap.size + 1 ∧ W.heap[w6.heap.size]? = some (.cells #[.slice la LK.length lc] 85 (0, 0)) ∧ Below w6.heap.size w6 W) _ w6 _ rfl rfl (fun W e => by rw [e]; exact (HM.out w6 L6.bel).ldl) ?_ ?_
  · rw [elv]
    refine (backward_any w6 la LK.length lc).mono ?_
    rintro e W ⟨rfl, q⟩
    exact ⟨_, rfl, rfl, q⟩
  rintro v a' w7 ⟨rfl, z7, c7, b7⟩ ha
  subst ha
  simp only [Act.put, qsA, qsB, qsC]
  have b07 : Below w.heap.size w w7 := L6.bel.trans (b7.mono L6.bel.size)
  have L7 : LC w w7 w.heap.size (w.heap.size + 1) (w.heap.size + 2) (w.heap.size + 4) (w.heap.size + 3) (.pointer (some ⟨s.sb, 0, none⟩)) r [] w7 := by
    have q := L6.below b7
    exact ⟨q.v, q.m, q.f, q.s, q.r, q.bel, Nat.le_refl _⟩
  have hat7 : RM.At w7 la (LK.map (·.1)) := hat.below b07
  have ST := hidMk (bwd_stops (4 - 1) w6.heap.size LK hn w7 ((cell_of_row _ _ 0 _ _ _ c7).trans rfl) hat7)
  have LK0 := hidMk hLK
  have HB7 := hidMk b07
  have Z7 := hidMk z7
  have HL7 := hidMk (show LCs w w7 w.heap.size (w.heap.size + 1) (w.heap.size + 2) (w.heap.size + 4) (w.heap.size + 3) (.pointer (some ⟨s.sb, 0, none⟩)) r w6.heap.size [] w7 from ⟨L7, _, c7⟩)
  clear c7 hat7 hat elv HL6 b7 z7 L7 L6 hlen hLK hn b07
  go_wp2
  refine (wpIn_wide (n := 4)).1 ?_
  refine wpIn_rangeFunc_ownH (F := Fence.wide) rfl (by omega) (gf := 101) (lb := #[.pointer (some ⟨w6.heap.size, 0, none⟩)]) rfl trivial (enters_of Tryz.func101 (by kernel_rfl) rfl)
    ST.out (fun h k => h.trans k) ?kb (Below.refl _ _) (fun _ => rfl)
    (fun pre W => LCs w w7 w.heap.size (w.heap.size + 1) (w.heap.size + 2) (w.heap.size + 4) (w.heap.size + 3) (.pointer (some ⟨s.sb, 0, none⟩)) r w6.heap.size (covP E r pre) W)
    (fun _ _ _ => False)
    (LCs.own w w7 w.heap.size (w.heap.size + 1) (w.heap.size + 2) (w.heap.size + 4) (w.heap.size + 3) (.pointer (some ⟨s.sb, 0, none⟩)) r w6.heap.size (covP E r) HB7.out.size (by have := HZ6.out; have := Z7.out; omega))
    (fun _ _ _ _ _ hs _ _ => hs)
    HL7.out (AxM w.heap.size (w.heap.size + 1) (w.heap.size + 2) (w.heap.size + 4)) (AxM.own w.heap.size (w.heap.size + 1) (w.heap.size + 2) (w.heap.size + 4) w7.heap.size) ?assign ?body ?done ?stop
  case kb =>
    refine Kl.put (fun j hj => ?_)
    have := Z7.out
    rcases List.mem_cons.1 hj with rfl | hj
    · omega
    · have := HLA.out j hj
      have := HB7.out.size
      omega
  case assign =>
    intro l pre x W K hI0 hK
    obtain ⟨hI, cbs, hbs⟩ := hI0
    have hz : (#[21, 22].zip #[.int .i64 (x.2 : Int), x.1.1.a] : Array (Tmp × Value)) = #[(21, .int .i64 (x.2 : Int)), (22, x.1.1.a)] := by simp
    rw [hz]
    simp only [List.foldl_toArray', List.foldl_cons, List.foldl_nil, List.setIfInBounds_toArray, List.set_cons_succ, List.set_cons_zero]
    refine cov4 (v := x.1.1.a) (eb := W.heap.size) _ W _ rfl rfl (RowT.bx_zero RM_is W) (RowT.bx_new RM_is W x.1.2.1) ?_
    intro a' W' hw ha
    obtain ⟨hbx, hbl⟩ := RowT.bx_is RM W x.1.1
    rw [← hw] at hbx hbl
    refine hK _ _ (keeps_below hbl) (fun j hj => hbl.block j ?_) ⟨hI.below hbl, cbs, (hbl.block _ (Array.getElem?_eq_some_iff.1 hbs).1).trans hbs⟩ ⟨W.heap.size, ?_, ?_, ?_, ?_, ?_, ?_, hbx⟩
    · have := hI.sz
      have := Z7.out
      rcases List.mem_cons.1 hj with rfl | hj
      · omega
      · have := HLA.out j hj
        have := HB7.out.size
        omega
    · subst ha; rfl
    · subst ha; rfl
    · subst ha; rfl
    · subst ha; rfl
    · subst ha; rfl
    · subst ha; rfl
  case body =>
    rintro l pre x a' W hl hr' ⟨hI, cbs, hbs⟩ ⟨eb, hz, t4, t5, t7, t8, t10, hE⟩ hpl
    have kls : ∀ {W' : World}, Below W.heap.size W W' → Kl (w6.heap.size :: adB la) W W' := fun b j hj => b.block j (by
      have := hI.sz
      have := Z7.out
      rcases List.mem_cons.1 hj with rfl | hj
      · omega
      · have := HLA.out j hj
        have := HB7.out.size
        omega)
    have okA : ∀ y ∈ covP E r pre, y.ok := fun y hy => by
      rcases covP_mem hy with hy | hy
      · cases hy
      · obtain ⟨q, _, rfl⟩ := List.mem_map.1 hy
        exact q.1.2.1
    have lnA : (covP E r pre).length ≤ pre.length := by
      have := covP_len (E := E) (r := r) (pre.map (·.1.1)) []
      simpa [covP] using this
    have hst := covP_snoc E r pre x
    obtain ⟨y1, y2, f1, c1, f2, c2⟩ := un_new W
    obtain ⟨q1, hq1⟩ : ∃ q, hasN (covP E r pre) x.1.1.nm = q := ⟨_, rfl⟩
    refine wpIn_block ?_
    refine wpIn_seq ?_
    refine wpIn_seq ?_
    refine cov5 (eb := eb) (b8 := w.heap.size + 4) (fm := w.heap.size + 3) (ub := W.heap.size) (nm := x.1.1.nm) (r := q1) (w1 := y1) (w2 := y2) _ W _ hz t8 t10 hI.ldf (mk_nm x.1.2.1 hE.rng) (by rw [← hq1]; exact hI.lookn x.1.2.1.nm) f1 f2 ?_
    intro a2 W2 hw ha
    obtain rfl : y2 = W2 := hw.symm
    have z2 : a2.tmps.size = 53 := by rw [ha]; simp only [zput]; exact hz
    have s12 : a2.tmps.getD 12 undef = .bool q1 := by rw [ha]; simp only [gput, zput, hz, ↓reduceIte, Nat.reduceLT, Nat.reduceEqDiff, reduceCtorEq]
    have s4 : a2.tmps.getD 4 undef = .pointer (some ⟨w.heap.size, 0, none⟩) := by rw [ha]; simp only [gput]; exact t4
    have s5 : a2.tmps.getD 5 undef = .pointer (some ⟨w.heap.size + 1, 0, none⟩) := by rw [ha]; simp only [gput]; exact t5
    have s7 : a2.tmps.getD 7 undef = .pointer (some ⟨w.heap.size + 2, 0, none⟩) := by rw [ha]; simp only [gput]; exact t7
    have s8 : a2.tmps.getD 8 undef = .pointer (some ⟨w.heap.size + 4, 0, none⟩) := by rw [ha]; simp only [gput]; exact t8
    have s10 : a2.tmps.getD 10 undef = .pointer (some ⟨eb, 0, none⟩) := by rw [ha]; simp only [gput]; exact t10
    clear ha t4 t5 t7 t8 t10 hz
    refine wpIn_seq ?_
    refine cov6 (r := q1) _ y2 _ z2 s12 ?_
    intro a3 W3 hw ha
    obtain rfl : y2 = W3 := hw.symm
    have z3 : a3.tmps.size = 53 := by rw [ha]; simp only [zput]; exact z2
    have u30 : a3.tmps.getD 30 undef = .bool q1 := by rw [ha]; simp only [gput, zput, z2, ↓reduceIte, Nat.reduceLT, Nat.reduceEqDiff, reduceCtorEq]
    have u4 : a3.tmps.getD 4 undef = .pointer (some ⟨w.heap.size, 0, none⟩) := by rw [ha]; simp only [gput]; exact s4
    have u5 : a3.tmps.getD 5 undef = .pointer (some ⟨w.heap.size + 1, 0, none⟩) := by rw [ha]; simp only [gput]; exact s5
    have u7 : a3.tmps.getD 7 undef = .pointer (some ⟨w.heap.size + 2, 0, none⟩) := by rw [ha]; simp only [gput]; exact s7
    have u8 : a3.tmps.getD 8 undef = .pointer (some ⟨w.heap.size + 4, 0, none⟩) := by rw [ha]; simp only [gput]; exact s8
    have u10 : a3.tmps.getD 10 undef = .pointer (some ⟨eb, 0, none⟩) := by rw [ha]; simp only [gput]; exact s10
    clear ha s4 s5 s7 s8 s10 s12 z2
    refine wpIn_cond (t := q1) u30 ?_
    cases q1 with
    | true =>
      refine wpIn_exit ?_
      have e : covP E r (pre ++ [x]) = covP E r pre := by rw [hst]; unfold covStep; rw [if_pos (show (covP E r pre).any _ = true from hq1)]
      show KeepsFrom _ _ _ ∧ Kl _ _ _ ∧ LCs _ _ _ _ _ _ _ _ _ _ _ _
      rw [e]
      exact ⟨keeps_below c2, kls c2, hI.below c2, cbs, (c2.block _ (Array.getElem?_eq_some_iff.1 hbs).1).trans hbs⟩
    | false =>
      refine wpIn_skip ?_
      have I2 := hI.below c2
      have E2 := hE.below c2
      refine wpIn_seq ?_
      refine cov7 (eb := eb) (b4 := w.heap.size) (sp := .pointer (some ⟨s.sb, 0, none⟩)) (f := (reachP E x.1.1).1) (u := (reachP E x.1.1).2) (fun W' => Below y2.heap.size y2 W') _ y2 _ z3 u4 u10 (by omega) I2.lds (reach_any (HH.out _ I2.bel) x.1.2.1 x.1.2.2 E2) ?_
      intro a4 W4 bw ha
      have z4 : a4.tmps.size = 53 := by rw [ha]; simp only [zput]; exact z3
      have v13 : a4.tmps.getD 13 undef = .int .i64 (reachP E x.1.1).1 := by rw [ha]; simp only [gput, zput, z3, ↓reduceIte, Nat.reduceLT, Nat.reduceEqDiff, reduceCtorEq]
      have v14 : a4.tmps.getD 14 undef = .int .i64 (reachP E x.1.1).2 := by rw [ha]; simp only [gput, zput, z3, ↓reduceIte, Nat.reduceLT, Nat.reduceEqDiff, reduceCtorEq]
      have v5 : a4.tmps.getD 5 undef = .pointer (some ⟨w.heap.size + 1, 0, none⟩) := by rw [ha]; simp only [gput]; exact u5
      have v7 : a4.tmps.getD 7 undef = .pointer (some ⟨w.heap.size + 2, 0, none⟩) := by rw [ha]; simp only [gput]; exact u7
      have v8 : a4.tmps.getD 8 undef = .pointer (some ⟨w.heap.size + 4, 0, none⟩) := by rw [ha]; simp only [gput]; exact u8
      have v10 : a4.tmps.getD 10 undef = .pointer (some ⟨eb, 0, none⟩) := by rw [ha]; simp only [gput]; exact u10
      clear ha u4 u5 u7 u8 u10 u30 z3
      have b4 : Below W.heap.size W W4 := c2.trans (bw.mono c2.size)
      have I4 := hI.below b4
      have E4 := hE.below b4
      have bs4 := (b4.block _ (Array.getElem?_eq_some_iff.1 hbs).1).trans hbs
      refine wpIn_seq ?_
      by_cases hf : (reachP E x.1.1).1 ≤ r
      · obtain ⟨zz, hzz⟩ : ∃ z, decide (r < (reachP E x.1.1).2) = z := ⟨_, rfl⟩
        refine cov8t (b5 := w.heap.size + 1) (f := (reachP E x.1.1).1) (u := (reachP E x.1.1).2) (r := r) (z := zz) _ W4 _ z4 v5 v13 v14 (decide_eq_true hf) hzz I4.ldr ?_
        intro a5 W5 hw ha
        obtain rfl : W4 = W5 := hw.symm
        have z5 : a5.tmps.size = 53 := by rw [ha]; simp only [zput]; exact z4
        have x43 : a5.tmps.getD 43 undef = .bool zz := by rw [ha]; simp only [gput, zput, z4, ↓reduceIte, Nat.reduceLT, Nat.reduceEqDiff, reduceCtorEq]
        have x7 : a5.tmps.getD 7 undef = .pointer (some ⟨w.heap.size + 2, 0, none⟩) := by rw [ha]; simp only [gput]; exact v7
        have x8 : a5.tmps.getD 8 undef = .pointer (some ⟨w.heap.size + 4, 0, none⟩) := by rw [ha]; simp only [gput]; exact v8
        have x10 : a5.tmps.getD 10 undef = .pointer (some ⟨eb, 0, none⟩) := by rw [ha]; simp only [gput]; exact v10
        clear ha v5 v7 v8 v10 v13 v14 z4
        refine wpIn_cond (t := zz) x43 ?_
        cases zz with
        | false =>
          refine wpIn_skip ?_
          have e : covP E r (pre ++ [x]) = covP E r pre := by
            rw [hst]; unfold covStep
            rw [if_neg (by rw [show (covP E r pre).any _ = false from hq1]; decide), if_neg (fun q => by rw [decide_eq_true q.2] at hzz; cases hzz)]
          show KeepsFrom _ _ _ ∧ Kl _ _ _ ∧ LCs _ _ _ _ _ _ _ _ _ _ _ _
          rw [e]
          exact ⟨keeps_below b4, kls b4, I4, cbs, bs4⟩
        | true =>
          have e : covP E r (pre ++ [x]) = covP E r pre ++ [x.1.1] := by
            rw [hst]; unfold covStep
            rw [if_neg (by rw [show (covP E r pre).any _ = false from hq1]; decide), if_pos ⟨hf, of_decide_eq_true hzz⟩]
          obtain ⟨wa, v, sv, wb, v2, wc, wd, g1, ka, g2, g3, g4, g5, I5, kf, bd, kd⟩ := I4.more x.1.2.1 okA (by have := HN.out; omega) hq1 HB7.out.size ⟨by omega, by have := HZ6.out; have := Z7.out; omega⟩ (by omega)
          have Ea : RM.Bx wa eb x.1.1 := (ka _ _ _ _ E4).trans E4
          refine wpIn_seq ?_
          refine cov9 (eb := eb) (b8 := w.heap.size + 4) (fm := w.heap.size + 3) (nm := x.1.1.nm) (w1 := wa) _ W4 _ z5 x8 x10 I4.ldf (mk_nm x.1.2.1 E4.rng) (build_un W4) g1 ?_
          intro a6 W6 hw ha
          obtain rfl : wa = W6 := hw.symm
          have z6 : a6.tmps.size = 53 := by rw [ha]; simp only [zput]; exact z5
          have y7 : a6.tmps.getD 7 undef = .pointer (some ⟨w.heap.size + 2, 0, none⟩) := by rw [ha]; simp only [gput]; exact x7
          have y10 : a6.tmps.getD 10 undef = .pointer (some ⟨eb, 0, none⟩) := by rw [ha]; simp only [gput]; exact x10
          clear ha x7 x8 x10 x43 z5
          refine cov10 (eb := eb) (b7 := w.heap.size + 2) (x := x.1.1) (u := v) (sv := sv) (u2 := v2) (w1 := wb) (w2 := wc) (w3 := wd) _ wa _ z6 y7 y10 g2 (RowT.ld RM_is x.1.2.1 Ea.rng) g3 g4 g5 ?_
          intro a7 W7 hw ha
          obtain rfl : wd = W7 := hw.symm
          show KeepsFrom _ _ _ ∧ Kl _ _ _ ∧ LCs _ _ _ _ _ _ _ _ _ _ _ _
          rw [e]
          have bs5 := kd _ _ _ _ bs4 (by decide) (by have := HZ6.out; omega)
          refine ⟨(keeps_below b4).trans kf, (kls b4).trans (fun j hj => ?_), I5, cbs, bs5.trans bs4⟩
          rcases List.mem_cons.1 hj with rfl | hj
          · exact bs5
          · exact bd.block j (HLA.out j hj)
      · refine cov8f (b5 := w.heap.size + 1) (f := (reachP E x.1.1).1) (r := r) _ W4 _ z4 v5 v13 (decide_eq_false hf) I4.ldr ?_
        intro a5 W5 hw ha
        obtain rfl : W4 = W5 := hw.symm
        have x43 : a5.tmps.getD 43 undef = .bool false := by rw [ha]; simp only [gput, zput, z4, ↓reduceIte, Nat.reduceLT, Nat.reduceEqDiff, reduceCtorEq]
        clear ha v5 v7 v8 v10 v13 v14
        refine wpIn_cond (t := false) x43 ?_
        refine wpIn_skip ?_
        have e : covP E r (pre ++ [x]) = covP E r pre := by
          rw [hst]; unfold covStep
          rw [if_neg (by rw [show (covP E r pre).any _ = false from hq1]; decide), if_neg (fun q => hf q.1)]
        show KeepsFrom _ _ _ ∧ Kl _ _ _ ∧ LCs _ _ _ _ _ _ _ _ _ _ _ _
        rw [e]
        exact ⟨keeps_below b4, kls b4, I4, cbs, bs4⟩
  case done =>
    rintro D ys W hD rfl ⟨hI, _⟩ hK
    obtain ⟨v, v1, v2⟩ := hI.v
    rw [covP_all, LK0.out] at v2
    have okc : ∀ y ∈ covL E m.L r, y.ok := fun y hy => by
      rcases covP_mem hy with hy | hy
      · cases hy
      · exact (hm.ok y (List.mem_reverse.1 hy)).1
    obtain ⟨a0, c0, e0, _⟩ := v2.open RM_is okc
    have LV := hidMk (mv_load v1 ⟨a0, _, c0, e0⟩)
    have kb : ∀ k, k ≠ D → (W.putObj D (.deferred none)).heap[k]? = W.heap[k]? := fun k hk => World.putObj_heap_other hk
    have bD : Below w.heap.size W (W.putObj D (.deferred none)) := (Below.refl _ W).grown (grownBy_putObj' W D (.deferred none)) hI.bel.size (fun k e => by cases e; have := HB7.out.size; omega)
    have RES := hidMk (show RM.Lo (W.putObj D (.deferred none)) w.heap.size v (covL E m.L r) from v2.keep (fun k hk => kb k (fun e => by
      obtain ⟨_, cc, e2⟩ := v2.cells hk
      rw [e, hK] at e2
      cases e2)))
    have RB := hidMk (hI.bel.trans bD)
    clear v1 v2 hI e0
    gi_wp2
    go_upto_region 11 with fail
    refine cov11 (u := v) (b7 := w.heap.size + 2) _ W _ rfl rfl LV.out ?_
    intro a' w3 hw ha
    subst ha
    obtain rfl : W = w3 := hw.symm
    simp only [Act.put, qsA, qsB, qsC]
    go_wp2
    refine ⟨by simp, .inl ⟨_, _, rfl, run_takeDeferred hK, ?_⟩⟩
    exact ⟨_, results_tmp (t := 6) rfl _ _ _, v, rfl, RES.out, RB.out⟩
  case stop =>
    exact fun D c pre W _ _ h _ => h.elim
end Go.Proofs.YtifendlpeebofaaGreatDoor
namespace Go.Proofs.YtifendlpeebofaaGreatDoor
open Go.RowKit
def cI (a b : Int) : Int := if a < b then -1 else if b < a then 1 else 0
def cS (a b : ByteArray) : Int := if Op.bytesLess a.toList b.toList = true then -1 else if (a.toList == b.toList) = true then 0 else 1
/-! ### texts by their bytes -/
theorem bl_irrefl : ∀ l : List UInt8, Op.bytesLess l l = false
  | [] => rfl
  | a :: x => by
    unfold Op.bytesLess
    simp [bl_irrefl x]
theorem bl_cons (a b : UInt8) (x y : List UInt8) : Op.bytesLess (a :: x) (b :: y) = true ↔ a.toNat < b.toNat ∨ (a = b ∧ Op.bytesLess x y = true) := by
  rw [Op.bytesLess]
  simp [UInt8.lt_iff_toNat_lt]
theorem bl_asymm : ∀ {a b : List UInt8}, Op.bytesLess a b = true → Op.bytesLess b a = false
  | [], [], h => by simp [Op.bytesLess] at h
  | [], _ :: _, _ => rfl
  | _ :: _, [], h => by simp [Op.bytesLess] at h
  | a :: x, b :: y, h => by
    cases hq : Op.bytesLess (b :: y) (a :: x) with
    | false => rfl
    | true =>
      rw [bl_cons] at h hq
      rcases h with h | ⟨rfl, h⟩
      · rcases hq with q | ⟨rfl, q⟩ <;> omega
      · rcases hq with q | ⟨_, q⟩
        · omega
        · rw [bl_asymm h] at q; cases q
theorem bl_total : ∀ {a b : List UInt8}, Op.bytesLess a b = false → Op.bytesLess b a = false → a = b
  | [], [], _, _ => rfl
  | [], _ :: _, h, _ => by simp [Op.bytesLess] at h
  | _ :: _, [], _, h => by simp [Op.bytesLess] at h
  | a :: x, b :: y, h1, h2 => by
    have e1 : ¬ (a.toNat < b.toNat ∨ (a = b ∧ Op.bytesLess x y = true)) := by rw [← bl_cons, h1]; simp
    have e2 : ¬ (b.toNat < a.toNat ∨ (b = a ∧ Op.bytesLess y x = true)) := by rw [← bl_cons, h2]; simp
    have e : a = b := UInt8.toNat_inj.1 (by omega)
    subst e
    have h3 : Op.bytesLess x y = false := by cases hq : Op.bytesLess x y with | false => rfl | true => exact absurd (.inr ⟨rfl, hq⟩) e1
    have h4 : Op.bytesLess y x = false := by cases hq : Op.bytesLess y x with | false => rfl | true => exact absurd (.inr ⟨rfl, hq⟩) e2
    rw [bl_total h3 h4]
theorem bl_trans : ∀ {a b c : List UInt8}, Op.bytesLess a b = true → Op.bytesLess b c = true → Op.bytesLess a c = true
  | _, [], _, h, _ => by cases ‹List UInt8› <;> simp [Op.bytesLess] at h
  | _, _ :: _, [], _, h => by simp [Op.bytesLess] at h
  | [], _ :: _, _ :: _, _, _ => rfl
  | a :: x, b :: y, c :: z, h1, h2 => by
    rw [bl_cons] at h1 h2 ⊢
    rcases h1 with h1 | ⟨rfl, h1⟩
    · rcases h2 with h2 | ⟨rfl, h2⟩ <;> exact .inl (by omega)
    · rcases h2 with h2 | ⟨rfl, h2⟩
      · exact .inl h2
      · exact .inr ⟨rfl, bl_trans h1 h2⟩
/-! ### orders, one behind the other -/
structure TO {α : Type} (c : α → α → Int) : Prop where
  anti : ∀ a b, c b a = - c a b
  le : ∀ a b d, c a b ≤ 0 → c b d ≤ 0 → c a d ≤ 0
  lt : ∀ a b d, c a b ≤ 0 → c b d ≤ 0 → (c a b < 0 ∨ c b d < 0) → c a d < 0
theorem TO.zero {α : Type} {c : α → α → Int} (h : TO c) {a b d : α} (h1 : c a b = 0) (h2 : c b d = 0) : c a d = 0 := by
  have e1 := h.le a b d (by omega) (by omega)
  have e2 := h.le d b a (by rw [h.anti]; omega) (by rw [h.anti]; omega)
  rw [h.anti] at e2
  omega
def or2 (a b : Int) : Int := if a = 0 then b else a
theorem TO.lex {α β : Type} {c : α → α → Int} {d : β → β → Int} (hc : TO c) (hd : TO d) : TO (fun (p q : α × β) => or2 (c p.1 q.1) (d p.2 q.2)) := by
  refine ⟨fun a b => ?_, fun a b e h1 h2 => ?_, fun a b e h1 h2 h3 => ?_⟩
  · simp only [or2]
    have := hc.anti a.1 b.1
    have := hd.anti a.2 b.2
    split <;> split <;> omega
  · simp only [or2] at *
    have := hc.le a.1 b.1 e.1
    have := hc.lt a.1 b.1 e.1
    have := @TO.zero _ _ hc a.1 b.1 e.1
    have := hd.le a.2 b.2 e.2
    split at h1 <;> split at h2 <;> split <;> omega
  · simp only [or2] at *
    have := hc.le a.1 b.1 e.1
    have := hc.lt a.1 b.1 e.1
    have := @TO.zero _ _ hc a.1 b.1 e.1
    have := hd.le a.2 b.2 e.2
    have := hd.lt a.2 b.2 e.2
    split at h1 <;> split at h2 <;> split <;> split at h3 <;> (try split at h3) <;> omega
theorem to_cI : TO cI := by
  refine ⟨fun a b => ?_, fun a b d => ?_, fun a b d => ?_⟩ <;> simp only [cI] <;> repeat' split
  all_goals omega
theorem cS_val (a b : ByteArray) : (Op.bytesLess a.toList b.toList = true ∧ cS a b = -1) ∨ (a.toList = b.toList ∧ cS a b = 0) ∨ (Op.bytesLess b.toList a.toList = true ∧ cS a b = 1) := by
  unfold cS
  cases h1 : Op.bytesLess a.toList b.toList with
  | true => exact .inl ⟨rfl, by simp⟩
  | false =>
    cases h2 : Op.bytesLess b.toList a.toList with
    | true =>
      have hne : ¬ a.toList = b.toList := fun e => by rw [e, bl_irrefl] at h2; cases h2
      exact .inr (.inr ⟨rfl, by simp [hne]⟩)
    | false =>
      have e := bl_total h1 h2
      exact .inr (.inl ⟨e, by simp [e]⟩)
theorem to_cS : TO cS := by
  refine ⟨fun a b => ?_, fun a b d h1 h2 => ?_, fun a b d h1 h2 h3 => ?_⟩
  · rcases cS_val a b with ⟨p, e⟩ | ⟨p, e⟩ | ⟨p, e⟩ <;> rcases cS_val b a with ⟨q, g⟩ | ⟨q, g⟩ | ⟨q, g⟩
    all_goals first
      | (rw [e, g]; done)
      | (rw [e, g]; rfl)
      | (exfalso; rw [bl_asymm p] at q; cases q; done)
      | (exfalso; rw [q, bl_irrefl] at p; cases p; done)
      | (exfalso; rw [p, bl_irrefl] at q; cases q; done)
  · rcases cS_val a b with ⟨p, e⟩ | ⟨p, e⟩ | ⟨p, e⟩ <;> rcases cS_val b d with ⟨q, g⟩ | ⟨q, g⟩ | ⟨q, g⟩ <;> rcases cS_val a d with ⟨r, i⟩ | ⟨r, i⟩ | ⟨r, i⟩ <;> (try omega)
    · have := bl_trans p q; rw [bl_asymm this] at r; cases r
    · rw [q] at p; rw [bl_asymm p] at r; cases r
    · rw [← p] at q; rw [bl_asymm q] at r; cases r
    · rw [p, q, bl_irrefl] at r; cases r
  · rcases cS_val a b with ⟨p, e⟩ | ⟨p, e⟩ | ⟨p, e⟩ <;> rcases cS_val b d with ⟨q, g⟩ | ⟨q, g⟩ | ⟨q, g⟩ <;> rcases cS_val a d with ⟨r, i⟩ | ⟨r, i⟩ | ⟨r, i⟩ <;> (try omega)
    · have := bl_trans p q; rw [r, bl_irrefl] at this; cases this
    · have := bl_trans p q; rw [bl_asymm this] at r; cases r
    · rw [q, ← r, bl_irrefl] at p; cases p
    · rw [q] at p; rw [bl_asymm p] at r; cases r
    · rw [← p, r, bl_irrefl] at q; cases q
    · rw [← p] at q; rw [bl_asymm q] at r; cases r
theorem cmpB : ∀ (x y : List UInt8), Lib.compareBytes x y = if Op.bytesLess x y = true then -1 else if (x == y) = true then 0 else 1
  | [], [] => by simp [Lib.compareBytes, Op.bytesLess]
  | [], _ :: _ => by simp [Lib.compareBytes, Op.bytesLess]
  | _ :: _, [] => by simp [Lib.compareBytes, Op.bytesLess]
  | a :: x, b :: y => by
    unfold Lib.compareBytes
    rw [cmpB x y]
    by_cases h1 : a < b
    · have : Op.bytesLess (a :: x) (b :: y) = true := (bl_cons a b x y).2 (.inl (UInt8.lt_iff_toNat_lt.1 h1))
      rw [if_pos h1, if_pos this]
    · rw [if_neg h1]
      have h1' : ¬ a.toNat < b.toNat := fun h => h1 (UInt8.lt_iff_toNat_lt.2 h)
      by_cases h2 : b < a
      · have h2' : b.toNat < a.toNat := UInt8.lt_iff_toNat_lt.1 h2
        have n1 : ¬ Op.bytesLess (a :: x) (b :: y) = true := by
          rw [bl_cons]
          rintro (h | ⟨rfl, _⟩) <;> omega
        have n2 : ¬ ((a :: x) == (b :: y)) = true := by
          intro h
          have : a = b := by simpa using (List.cons.inj (by simpa using h : a :: x = b :: y)).1
          subst this
          omega
        rw [if_pos h2, if_neg n1, if_neg n2]
      · have e : a = b := UInt8.toNat_inj.1 (by have : ¬ b.toNat < a.toNat := fun h => h2 (UInt8.lt_iff_toNat_lt.2 h); omega)
        subst e
        rw [if_neg h2]
        have q1 : (Op.bytesLess (a :: x) (a :: y) = true) ↔ (Op.bytesLess x y = true) := by rw [bl_cons]; simp
        have q2 : (((a :: x) == (a :: y)) = true) ↔ ((x == y) = true) := by simp
        simp only [q1, q2]
theorem cmpS (a b : ByteArray) : Lib.compareBytes a.data.toList b.data.toList = cS a b := by
  rw [cmpB]
  unfold cS
  simp only [ByteArray.toList_eq]
theorem nanN (k : Int) (w : World) : Calls Tryz.prog 106 #[.int .i64 k] w fun e w' => e = .returned (.bool false) ∧ w' = w := by
  go_enter Tryz.func106, Tryz.ntmps106
  go_wp2
  go_ret
  exact ⟨by simp, rfl⟩
theorem cmpN (a b : Int) (w : World) : Calls Tryz.prog 85 #[.int .i64 a, .int .i64 b] w fun e w' => e = .returned (.int .i64 (cI a b)) ∧ w' = w := by
  have H : Hid (∀ k wx, Calls Tryz.prog 106 #[.int .i64 k] wx fun e w' => e = .returned (.bool false) ∧ w' = wx) := fun k wx => nanN k wx
  unfold cI
  by_cases h1 : a < b
  · rw [if_pos h1]
    go_enter Tryz.func85, Tryz.ntmps85
    go_wp2_with (first | (go_at_call 106; refine (H.out _ _).mono ?_; rintro e _ ⟨rfl, rfl⟩) | fail)
    go_ret
    exact ⟨rfl, rfl⟩
  · rw [if_neg h1]
    by_cases h2 : b < a
    · rw [if_pos h2]
      go_enter Tryz.func85, Tryz.ntmps85
      go_wp2_with (first | (go_at_call 106; refine (H.out _ _).mono ?_; rintro e _ ⟨rfl, rfl⟩) | fail)
      go_ret
      exact ⟨rfl, rfl⟩
    · rw [if_neg h2]
      go_enter Tryz.func85, Tryz.ntmps85
      go_wp2_with (first | (go_at_call 106; refine (H.out _ _).mono ?_; rintro e _ ⟨rfl, rfl⟩) | fail)
      go_ret
      exact ⟨rfl, rfl⟩
theorem ext_cs (a b : ByteArray) (w : World) : (callFunc 139 #[.string a, .string b]).run Tryz.prog w = .ok (.value (.int .i64 (cS a b))) w := by
  rw [run_callFunc_extern Tryz.func139 (by kernel_rfl) (by kernel_rfl) (by kernel_rfl) (e := Extern.BytealgCompare.compare) (by kernel_rfl)]
  rw [Lib.run_compareString, cmpS]
  rfl
theorem cmpB_any (a b : ByteArray) (w : World) : Calls Tryz.prog 107 #[.string a, .string b] w fun e w' => e = .returned (.int .i64 (cS a b)) ∧ w' = w := by
  have hx := ext_cs a b w
  go_enter Tryz.func107, Tryz.ntmps107
  go_wp2
  go_ret
  exact ⟨rfl, rfl⟩
theorem cmpS_any (a b : ByteArray) (w : World) : Calls Tryz.prog 86 #[.string a, .string b] w fun e w' => e = .returned (.int .i64 (cS a b)) ∧ w' = w := by
  have H := hidMk (cmpB_any a b w)
  go_enter Tryz.func86, Tryz.ntmps86
  go_wp2_with fail
  refine H.out.mono ?_
  rintro e w1 ⟨rfl, hw⟩
  subst hw
  go_wp2
  go_ret
  exact ⟨rfl, rfl⟩
def or3 (a b c : Int) : Int := if a = 0 then (if b = 0 then c else b) else a
def sel3 (a b c : Int) (k : Nat) : Int := if k = 0 then a else if k = 1 then b else c
theorem or_any (g : Nat) (a b c : Int) (w : World) (t : TypeId) (fr : Nat × Nat) (hg : w.heap[g]? = some (.cells #[.int .i64 a, .int .i64 b, .int .i64 c] t fr)) :
    Calls Tryz.prog 84 #[.slice (some ⟨g, 0, none⟩) 3 3] w fun e w' => e = .returned (.int .i64 (or3 a b c)) ∧ w' = w := by
  have HC : Hid (∀ k, k < 3 → w.cell? ⟨g, k, none⟩ = some (.int .i64 (sel3 a b c k))) := fun k hk => by
    rw [cell_of_row w g k _ _ _ hg]
    rcases (show k = 0 ∨ k = 1 ∨ k = 2 by omega) with rfl | rfl | rfl <;> rfl
  have HO : Hid (∀ k, k < 3 → (∀ j, j < k → sel3 a b c j = 0) → sel3 a b c k ≠ 0 → or3 a b c = sel3 a b c k) := fun k hk h1 h2 => by
    rcases (show k = 0 ∨ k = 1 ∨ k = 2 by omega) with rfl | rfl | rfl
    · simp only [sel3, if_true] at h2 ⊢; unfold or3; rw [if_neg h2]
    · have := h1 0 (by omega)
      simp [sel3] at h2 this
      simp [or3, sel3, this, h2]
    · have := h1 0 (by omega)
      have := h1 1 (by omega)
      simp_all [or3, sel3]
  have HZ : Hid ((∀ j, j < 3 → sel3 a b c j = 0) → or3 a b c = 0) := fun h => by
    have := h 0 (by omega)
    have := h 1 (by omega)
    have := h 2 (by omega)
    simp_all [or3, sel3]
  generalize or3 a b c = O at *
  clear hg
  go_enter Tryz.func84, Tryz.ntmps84
  go_wp2
  go_loopw [8] (fun i wr => ∃ k : Nat, k ≤ 3 ∧ i = .int .i64 k ∧ wr = w ∧ Hid (∀ j, j < k → sel3 a b c j = 0)) (fun i _ => 3 - (intOf i).toNat)
  case atStart => exact ⟨0, by omega, rfl, rfl, fun j hj => by omega⟩
  case round =>
    obtain ⟨k, hk, rfl, rfl, hj⟩ := hrel
    by_cases h1 : k < 3
    · have h1' : (k : Int) < 3 := by omega
      have cx := HC.out k h1
      by_cases h0 : sel3 a b c k = 0
      · have HN : Hid (∀ j, j < k + 1 → sel3 a b c j = 0) := fun j hj2 => by
          rcases Nat.lt_or_ge j k with h | h
          · exact hj.out j h
          · have : j = k := by omega
            subst this; exact h0
        generalize sel3 a b c k = X at cx h0
        subst h0
        go_wp2
        go_roundw
        case rel => exact ⟨k + 1, by omega, by go_num, by trivial, HN⟩
        case measure => simp [intOf]; omega
      · have eO : Hid (O = sel3 a b c k) := HO.out k h1 hj.out h0
        generalize sel3 a b c k = X at *
        go_wp2
        go_ret
        exact ⟨by rw [eO.out]; rfl, rfl⟩
    · have h1' : ¬ (k : Int) < 3 := by omega
      obtain rfl : k = 3 := by omega
      have eO : Hid (O = 0) := HZ.out hj.out
      clear HO HZ hj HC
      go_wp2
      go_ret
      exact ⟨by rw [eO.out]; rfl, rfl⟩
theorem fg_65_0 (b o : Nat) (w : World) : (Instr.fieldAt 65 (.pointer (some ⟨b, o, none⟩)) 0).run Tryz.prog w = .ok (.pointer (some ⟨b, o + 0, none⟩)) w := by go_simp
theorem fg_65_1 (b o : Nat) (w : World) : (Instr.fieldAt 65 (.pointer (some ⟨b, o, none⟩)) 1).run Tryz.prog w = .ok (.pointer (some ⟨b, o + 1, none⟩)) w := by go_simp
theorem fg_65_2 (b o : Nat) (w : World) : (Instr.fieldAt 65 (.pointer (some ⟨b, o, none⟩)) 2).run Tryz.prog w = .ok (.pointer (some ⟨b, o + 2, none⟩)) w := by go_simp
theorem exec_buildSlice3 {P : Program} {w w2 : World} {a : Act} {o : Oper} {t n : Nat} {x y z : Operand} {xv yv zv v : Value} (ho : o.op = .buildSlice t n #[(0, x), (1, y), (2, z)]) (hx : a.eval x = xv) (hy : a.eval y = yv) (hz : a.eval z = zv) (hl : (Instr.buildSlice t n #[(0, xv), (1, yv), (2, zv)]).run P w = .ok v w2) : (execOp a.eval o).run P w = .ok (.value v) w2 := by
  unfold execOp; simp only [ho, List.map_toArray, List.map_cons, List.map_nil, hx, hy, hz, Sem.run_bind, hl, Result.andThen_ok, Sem.run_pure]
theorem exec_build4 {P : Program} {w : World} {a : Act} {o : Oper} {t : TypeId} {x0 x1 x2 x3 : Operand} {v0 v1 v2 v3 v : Value} (ho : o.op = .build t #[(0, x0), (1, x1), (2, x2), (3, x3)]) (h0 : a.eval x0 = v0) (h1 : a.eval x1 = v1) (h2 : a.eval x2 = v2) (h3 : a.eval x3 = v3) (hl : (Instr.build t #[(0, v0), (1, v1), (2, v2), (3, v3)]).run P w = .ok v w) : (execOp a.eval o).run P w = .ok (.value v) w := by
  unfold execOp; simp only [ho, List.map_toArray, List.map_cons, List.map_nil, h0, h1, h2, h3, Sem.run_bind, hl, Result.andThen_ok, Sem.run_pure]
theorem ex_pnil {w : World} {a : Act} {o : Oper} {x y : Operand} {b : Nat} (ho : o.op = .binOp .eql 27 x y 27) (hx : a.eval x = .pointer (some ⟨b, 0, none⟩)) (hy : a.eval y = .pointer none) : (execOp a.eval o).run Tryz.prog w = .ok (.value (.bool false)) w := by
  refine exec_binOp ho hx hy ?_ ?_
  · first | kernel_rfl | go_simp
  · go_simp
theorem ex_neqK {a : Act} {w : World} {o : Oper} {x y : Operand} {p q : Int} {r : Bool} (ho : o.op = .binOp .neq 37 x y 37) (hx : a.eval x = .int .u8 p) (hy : a.eval y = .int .u8 q) (h : decide (p ≠ q) = r) : (execOp a.eval o).run Tryz.prog w = .ok (.value (.bool r)) w := by
  unfold execOp
  simp only [ho, hx, hy]
  subst h
  by_cases e : p = q <;> go_simp
def srt1_ops : Array Oper := (⟨_, rfl⟩ : {o // some o = rgB Tryz.f83 1}).1
theorem srt1 {pb qb : Nat} {p q : SpV} {x1 x2 x3 z : Int} {sv : Value} (S : World → Prop) (a : Act) (w : World) (Q : Exit → Act → World → Prop) (zz : a.tmps.size = 22)
    (t2 : a.tmps.getD 2 undef = .pointer (some ⟨pb, 0, none⟩))
    (t3 : a.tmps.getD 3 undef = .pointer (some ⟨qb, 0, none⟩))
    (h0 : S w.drew) (Lpb0 : ∀ W, S W → (Instr.loadAt 3 (.pointer (some ⟨pb, 0 + 0, none⟩))).run Tryz.prog W = .ok (.int .i64 p.fr) W) (Lpb1 : ∀ W, S W → (Instr.loadAt 3 (.pointer (some ⟨pb, 0 + 1, none⟩))).run Tryz.prog W = .ok (.int .i64 p.to) W) (Lpb2 : ∀ W, S W → (Instr.loadAt 9 (.pointer (some ⟨pb, 0 + 2, none⟩))).run Tryz.prog W = .ok (.string p.nm) W) (Lqb0 : ∀ W, S W → (Instr.loadAt 3 (.pointer (some ⟨qb, 0 + 0, none⟩))).run Tryz.prog W = .ok (.int .i64 q.fr) W) (Lqb1 : ∀ W, S W → (Instr.loadAt 3 (.pointer (some ⟨qb, 0 + 1, none⟩))).run Tryz.prog W = .ok (.int .i64 q.to) W) (Lqb2 : ∀ W, S W → (Instr.loadAt 9 (.pointer (some ⟨qb, 0 + 2, none⟩))).run Tryz.prog W = .ok (.string q.nm) W) (CA : Calls Tryz.prog 85 #[.int .i64 p.fr, .int .i64 q.fr] w.drew fun e w1 => e = .returned (.int .i64 x1) ∧ S w1 ∧ Calls Tryz.prog 85 #[.int .i64 p.to, .int .i64 q.to] w1 fun e w2 => e = .returned (.int .i64 x2) ∧ S w2 ∧ Calls Tryz.prog 86 #[.string p.nm, .string q.nm] w2 fun e w3 => e = .returned (.int .i64 x3) ∧ S w3 ∧ ∃ w4, (Instr.buildSlice 150 3 #[(0, .int .i64 x1), (1, .int .i64 x2), (2, .int .i64 x3)]).run Tryz.prog w3 = .ok sv w4 ∧ S w4 ∧ Calls Tryz.prog 84 #[sv] w4 fun e w5 => e = .returned (.int .i64 z) ∧ S w5)
    (h : ∀ a' w', S w' → a' = (((((((((((((((((a.put (some 5) (.pointer (some ⟨pb, 0 + 0, none⟩))).put (some 6) (.int .i64 p.fr)).put (some 7) (.pointer (some ⟨qb, 0 + 0, none⟩))).put (some 8) (.int .i64 q.fr)).put (some 10) (.pointer (some ⟨pb, 0 + 1, none⟩))).put (some 11) (.int .i64 p.to)).put (some 12) (.pointer (some ⟨qb, 0 + 1, none⟩))).put (some 13) (.int .i64 q.to)).put (some 15) (.pointer (some ⟨pb, 0 + 2, none⟩))).put (some 16) (.string p.nm)).put (some 17) (.pointer (some ⟨qb, 0 + 2, none⟩))).put (some 18) (.string q.nm)).put (some 9) (.int .i64 x1)).put (some 14) (.int .i64 x2)).put (some 19) (.int .i64 x3)).put (some 20) (sv)).put (some 21) (.int .i64 z)).put (some 4) (.int .i64 z) → Q .normal a' w') :
    (Code.region 1 srt1_ops true).wp Tryz.prog Q a w := by
  refine y0 (fun w' => S w') (h0) (fun hHeld => ?_)
  refine yv 0 rfl rfl (fun w1 hw => xfa rfl (zi t2 rfl) (fg_65_0 _ _ _)) hHeld ?_
  refine yv 1 rfl rfl (fun w1 hw => xld rfl (zg zz rfl) (Lpb0 _ hw)) hHeld ?_
  refine yv 2 rfl rfl (fun w1 hw => xfa rfl (zi t3 rfl) (fg_65_0 _ _ _)) hHeld ?_
  refine yv 3 rfl rfl (fun w1 hw => xld rfl (zg zz rfl) (Lqb0 _ hw)) hHeld ?_
  refine yv 5 rfl rfl (fun w1 hw => xfa rfl (zi t2 rfl) (fg_65_1 _ _ _)) hHeld ?_
  refine yv 6 rfl rfl (fun w1 hw => xld rfl (zg zz rfl) (Lpb1 _ hw)) hHeld ?_
  refine yv 7 rfl rfl (fun w1 hw => xfa rfl (zi t3 rfl) (fg_65_1 _ _ _)) hHeld ?_
  refine yv 8 rfl rfl (fun w1 hw => xld rfl (zg zz rfl) (Lqb1 _ hw)) hHeld ?_
  refine yv 10 rfl rfl (fun w1 hw => xfa rfl (zi t2 rfl) (fg_65_2 _ _ _)) hHeld ?_
  refine yv 11 rfl rfl (fun w1 hw => xld rfl (zg zz rfl) (Lpb2 _ hw)) hHeld ?_
  refine yv 12 rfl rfl (fun w1 hw => xfa rfl (zi t3 rfl) (fg_65_2 _ _ _)) hHeld ?_
  refine yv 13 rfl rfl (fun w1 hw => xld rfl (zg zz rfl) (Lqb2 _ hw)) hHeld ?_
  refine yc 4 rfl rfl (exec_c2 rfl (zg zz rfl) (zg zz rfl)) (CA) (fun e x4 hx => ?_)
  obtain ⟨rfl, S0, CB⟩ := hx
  refine ⟨_, rfl, S0, fun hHeld => ?_⟩
  refine yc 9 rfl rfl (exec_c2 rfl (zg zz rfl) (zg zz rfl)) (CB) (fun e x9 hx => ?_)
  obtain ⟨rfl, S1, CC⟩ := hx
  refine ⟨_, rfl, S1, fun hHeld => ?_⟩
  refine yc 14 rfl rfl (exec_c2 rfl (zg zz rfl) (zg zz rfl)) (CC) (fun e x14 hx => ?_)
  obtain ⟨rfl, S2, w4, EB, S3, CD⟩ := hx
  refine ⟨_, rfl, S2, fun hHeld => ?_⟩
  refine yr (v := sv) 15 rfl rfl (exec_buildSlice3 rfl (zg zz rfl) (zg zz rfl) (zg zz rfl) EB) (S3) (fun hHeld => ?_)
  refine yc 16 rfl rfl (exec_c1 rfl (zg zz rfl)) (CD) (fun e x16 hx => ?_)
  obtain ⟨rfl, S4⟩ := hx
  refine ⟨_, rfl, S4, fun hHeld => ?_⟩
  refine yv 17 rfl rfl (fun w1 hw => xas rfl (zg zz rfl)) hHeld ?_
  exact ye rfl (h _ _ (S4) rfl)
def ovr1_ops : Array Oper := (⟨_, rfl⟩ : {o // some o = rgB Tryz.f23 1}).1
theorem ovr1 {mb sb ib : Nat} {k : IdK} {q : Bool} (Fin : World → Prop) (a : Act) (w : World) (Q : Exit → Act → World → Prop) (zz : a.tmps.size = 58)
    (t0 : a.tmps.getD 0 undef = .pointer (some ⟨mb, 0, none⟩))
    (t1 : a.tmps.getD 1 undef = .pointer (some ⟨sb, 0, none⟩))
    (t5 : a.tmps.getD 5 undef = .pointer (some ⟨ib, 0, none⟩))
    (LI : ∀ W, W = w → (Instr.loadAt 36 (.pointer (some ⟨ib, 0, none⟩))).run Tryz.prog W = .ok (k.v) W) (CH : Calls Tryz.prog 47 #[.pointer (some ⟨sb, 0, none⟩), k.v] w fun e w' => e = .returned (.bool q) ∧ Fin w')
    (h : ∀ a' w', Fin w' → a' = (((((((a.put (some 13) (.pointer (some ⟨mb, 0, none⟩))).put (some 14) (.bool false)).put (some 15) (.bool false)).put (some 16) (.pointer (some ⟨sb, 0, none⟩))).put (some 17) (k.v)).put (some 18) (.bool q)).put (some 19) (.bool (!q))).put (some 20) (.bool (!q)) → Q .normal a' w') :
    (Code.region 1 ovr1_ops false).wp Tryz.prog Q a w := by
  refine z0 rfl ?_
  refine zv rfl (xmv rfl (zi t0 rfl)) ?_
  refine zv (v := .bool false) rfl (ex_pnil rfl (zg zz rfl) rfl) ?_
  refine zv rfl (xmv rfl (zg zz rfl)) ?_
  refine zv (zw zz rfl rfl rfl (zg zz rfl)) (xmv rfl (zi t1 rfl)) ?_
  refine zv (zw zz rfl rfl rfl (zg zz rfl)) (xld rfl (zi t5 rfl) (LI _ rfl)) ?_
  refine zc (zw zz rfl rfl rfl (zg zz rfl)) (exec_c2 rfl (zg zz rfl) (zg zz rfl)) (CH) (fun e x5 hx => ?_)
  obtain ⟨rfl, HF⟩ := hx
  refine ⟨_, rfl, ?_⟩
  refine zv (zw zz rfl rfl rfl (zg zz rfl)) (exec_not rfl (zg zz rfl)) ?_
  refine zv rfl (exec_pickF rfl (zg zz rfl) (zg zz rfl)) ?_
  exact ze rfl (h _ _ (HF) rfl)
def ovr3_ops : Array Oper := (⟨_, rfl⟩ : {o // some o = rgB Tryz.f23 3}).1
theorem ovr3 {sb ib : Nat} {k : IdK} {rk : Int} (Fin : World → Prop) (a : Act) (w : World) (Q : Exit → Act → World → Prop) (zz : a.tmps.size = 58)
    (t1 : a.tmps.getD 1 undef = .pointer (some ⟨sb, 0, none⟩))
    (t5 : a.tmps.getD 5 undef = .pointer (some ⟨ib, 0, none⟩))
    (LI : ∀ W, W = w → (Instr.loadAt 36 (.pointer (some ⟨ib, 0, none⟩))).run Tryz.prog W = .ok (k.v) W) (CR : Calls Tryz.prog 54 #[.pointer (some ⟨sb, 0, none⟩), k.v] w fun e w' => e = .returned (.int .i64 rk) ∧ Fin w')
    (h : ∀ a' w', Fin w' → a' = (((a.put (some 21) (.pointer (some ⟨sb, 0, none⟩))).put (some 22) (k.v)).put (some 23) (.int .i64 rk)).put (some 7) (.int .i64 rk) → Q .normal a' w') :
    (Code.region 3 ovr3_ops false).wp Tryz.prog Q a w := by
  refine z0 rfl ?_
  refine zv rfl (xmv rfl (zi t1 rfl)) ?_
  refine zv rfl (xld rfl (zi t5 rfl) (LI _ rfl)) ?_
  refine zc rfl (exec_c2 rfl (zg zz rfl) (zg zz rfl)) (CR) (fun e x2 hx => ?_)
  obtain ⟨rfl, HF⟩ := hx
  refine ⟨_, rfl, ?_⟩
  refine zv rfl (xas rfl (zg zz rfl)) ?_
  exact ze rfl (h _ _ (HF) rfl)
def ovr4_ops : Array Oper := (⟨_, rfl⟩ : {o // some o = rgB Tryz.f23 4}).1
theorem ovr4 {sb : Nat} {rk f t : Int} (Fin : World → Prop) (a : Act) (w : World) (Q : Exit → Act → World → Prop) (zz : a.tmps.size = 58)
    (t1 : a.tmps.getD 1 undef = .pointer (some ⟨sb, 0, none⟩))
    (t7 : a.tmps.getD 7 undef = .int .i64 rk)
    (hb : -9223372036854775808 ≤ rk + 1 ∧ rk + 1 ≤ 9223372036854775807) (CI : Calls Tryz.prog 55 #[.pointer (some ⟨sb, 0, none⟩), .int .i64 rk] w fun e w1 => e = .returned (.int .i64 f) ∧ Calls Tryz.prog 55 #[.pointer (some ⟨sb, 0, none⟩), .int .i64 (rk + 1)] w1 fun e w' => e = .returned (.int .i64 t) ∧ Fin w')
    (h : ∀ a' w', Fin w' → a' = ((((((((a.put (some 24) (.pointer (some ⟨sb, 0, none⟩))).put (some 25) (.int .i64 rk)).put (some 26) (.int .i64 f)).put (some 27) (.pointer (some ⟨sb, 0, none⟩))).put (some 28) (.int .i64 rk)).put (some 29) (.int .i64 (rk + 1))).put (some 30) (.int .i64 t)).put (some 8) (.int .i64 f)).put (some 9) (.int .i64 t) → Q .normal a' w') :
    (Code.region 4 ovr4_ops false).wp Tryz.prog Q a w := by
  refine z0 rfl ?_
  refine zv rfl (xmv rfl (zi t1 rfl)) ?_
  refine zv rfl (xmv rfl (zi t7 rfl)) ?_
  refine zc rfl (exec_c2 rfl (zg zz rfl) (zg zz rfl)) (CI) (fun e x2 hx => ?_)
  obtain ⟨rfl, CJ⟩ := hx
  refine ⟨_, rfl, ?_⟩
  refine zv rfl (xmv rfl (zi t1 rfl)) ?_
  refine zv rfl (xmv rfl (zi t7 rfl)) ?_
  refine zv (v := .int .i64 (rk + 1)) rfl (ex_add rfl (zg zz rfl) rfl hb) ?_
  refine zc rfl (exec_c2 rfl (zg zz rfl) (zg zz rfl)) (CJ) (fun e x6 hx => ?_)
  obtain ⟨rfl, HF⟩ := hx
  refine ⟨_, rfl, ?_⟩
  iterate 2 refine zv rfl (xas rfl (zg zz rfl)) ?_
  exact ze rfl (h _ _ (HF) rfl)
def ovr6_ops : Array Oper := (⟨_, rfl⟩ : {o // some o = rgB Tryz.f23 6}).1
theorem ovr6 {mb sb : Nat} {rk : Int} (Fin : Option Addr → Nat → Nat → World → Prop) (a : Act) (w : World) (Q : Exit → Act → World → Prop) (zz : a.tmps.size = 58)
    (t0 : a.tmps.getD 0 undef = .pointer (some ⟨mb, 0, none⟩))
    (t1 : a.tmps.getD 1 undef = .pointer (some ⟨sb, 0, none⟩))
    (t7 : a.tmps.getD 7 undef = .int .i64 rk)
    (CC : Calls Tryz.prog 56 #[.pointer (some ⟨mb, 0, none⟩), .pointer (some ⟨sb, 0, none⟩), .int .i64 rk] w fun e w' => ∃ la n c, e = .returned (.slice la n c) ∧ Fin la n c w')
    (h : ∀ (la : Option Addr) (n c : Nat) a' w', Fin la n c w' → a' = (((((a.put (some 31) (.pointer (some ⟨mb, 0, none⟩))).put (some 32) (.pointer (some ⟨sb, 0, none⟩))).put (some 33) (.int .i64 rk)).put (some 34) (.slice la n c)).put (some 35) (.int .i64 (n : Int))).put (some 36) (.int .i64 0) → Q .normal a' w') :
    (Code.region 6 ovr6_ops false).wp Tryz.prog Q a w := by
  refine z0 rfl ?_
  refine zv rfl (xmv rfl (zi t0 rfl)) ?_
  refine zv rfl (xmv rfl (zi t1 rfl)) ?_
  refine zv rfl (xmv rfl (zi t7 rfl)) ?_
  refine zc rfl (exec_c3 rfl (zg zz rfl) (zg zz rfl) (zg zz rfl)) (CC) (fun e x3 hx => ?_)
  obtain ⟨la, n, c, rfl, HF⟩ := hx
  replace h := h la n c
  refine ⟨_, rfl, ?_⟩
  refine zv rfl (exec_len rfl (zg zz rfl) (len_mk _ _ _ _)) ?_
  refine zv rfl (xmv rfl rfl) ?_
  exact ze rfl (h _ _ (HF) rfl)
def ovr8_ops : Array Oper := (⟨_, rfl⟩ : {o // some o = rgB Tryz.f23 8}).1
theorem ovr8 {g o n c i eb : Nat} {x : MkV} {w1 w2 : World} (a : Act) (w : World) (Q : Exit → Act → World → Prop) (zz : a.tmps.size = 58)
    (t34 : a.tmps.getD 34 undef = .slice (some ⟨g, o, none⟩) n c)
    (t36 : a.tmps.getD 36 undef = .int .i64 (i : Int))
    (hi : i < n) (hm : n ≤ 9223372036854775807) (LX : (Instr.loadAt 95 (.pointer (some ⟨g, o + 105 * i, none⟩))).run Tryz.prog w = .ok x.a w) (EA : (Instr.alloc 95 true (.tuple #[])).run Tryz.prog w = .ok (.pointer (some ⟨eb, 0, none⟩)) w1) (ES : (Instr.storeAt 95 (.pointer (some ⟨eb, 0, none⟩)) x.a).run Tryz.prog w1 = .ok () w2)
    (h : ∀ a' w', w' = w2 → a' = ((a.put (some 38) (.pointer (some ⟨g, o + 105 * i, none⟩))).put (some 39) (x.a)).put (some 12) (.pointer (some ⟨eb, 0, none⟩)) → Q .normal a' w') :
    (Code.region 8 ovr8_ops false).wp Tryz.prog Q a w := by
  refine z0 rfl ?_
  refine zv rfl (xia rfl (zi t34 rfl) (zi t36 rfl) (ix_mk hi hm _)) ?_
  refine zv rfl (xld rfl (zg zz rfl) LX) ?_
  refine zv (v := .pointer (some ⟨eb, 0, none⟩)) rfl (exec_alloc rfl EA) ?_
  refine zs rfl (exec_store rfl (zg zz rfl) (zg zz rfl) ES) ?_
  exact ze rfl (h _ _ (rfl) rfl)
def ovr9_ops : Array Oper := (⟨_, rfl⟩ : {o // some o = rgB Tryz.f23 9}).1
theorem ovr9 {eb : Nat} {x : MkV} {z : Bool} (a : Act) (w : World) (Q : Exit → Act → World → Prop) (zz : a.tmps.size = 58)
    (t12 : a.tmps.getD 12 undef = .pointer (some ⟨eb, 0, none⟩))
    (hz : decide (x.v.k ≠ 0) = z) (LK : (Instr.loadAt 37 (.pointer (some ⟨eb, 0 + 34 + 0, none⟩))).run Tryz.prog w = .ok (.int .u8 x.v.k) w)
    (h : ∀ a' w', w' = w → a' = (((a.put (some 40) (.pointer (some ⟨eb, 0 + 34, none⟩))).put (some 41) (.pointer (some ⟨eb, 0 + 34 + 0, none⟩))).put (some 42) (.int .u8 x.v.k)).put (some 43) (.bool z) → Q .normal a' w') :
    (Code.region 9 ovr9_ops false).wp Tryz.prog Q a w := by
  refine z0 rfl ?_
  refine zv rfl (xfa rfl (zi t12 rfl) (fg_95_2 _ _ _)) ?_
  refine zv rfl (xfa rfl (zg zz rfl) (fg_40_0 _ _ _)) ?_
  refine zv rfl (xld rfl (zg zz rfl) LK) ?_
  refine zv (v := .bool z) rfl (ex_neqK rfl (zg zz rfl) rfl hz) ?_
  exact ze rfl (h _ _ (rfl) rfl)
def ovr10_ops : Array Oper := (⟨_, rfl⟩ : {o // some o = rgB Tryz.f23 10}).1
theorem ovr10 {eb : Nat} {f t : Int} {x : MkV} {u sv u2 : Value} {w1 w2 : World} (a : Act) (w : World) (Q : Exit → Act → World → Prop) (zz : a.tmps.size = 58)
    (t8 : a.tmps.getD 8 undef = .int .i64 f)
    (t9 : a.tmps.getD 9 undef = .int .i64 t)
    (t10 : a.tmps.getD 10 undef = u)
    (t12 : a.tmps.getD 12 undef = .pointer (some ⟨eb, 0, none⟩))
    (LN : (Instr.loadAt 9 (.pointer (some ⟨eb, 0 + 33, none⟩))).run Tryz.prog w = .ok (.string x.nm) w) (LV : (Instr.loadAt 40 (.pointer (some ⟨eb, 0 + 34, none⟩))).run Tryz.prog w = .ok x.v.v w) (EB : (Instr.buildSlice 49 1 #[(0, SpV.a ⟨f, t, x.nm, x.v⟩)]).run Tryz.prog w = .ok sv w1) (EA : (Builtin.append_ #[49, 49] 49 #[u, sv]).run Tryz.prog w1 = .ok u2 w2)
    (h : ∀ a' w', w' = w2 → a' = ((((((((((a.put (some 44) (u)).put (some 45) (.int .i64 f)).put (some 46) (.int .i64 t)).put (some 47) (.pointer (some ⟨eb, 0 + 33, none⟩))).put (some 48) (.string x.nm)).put (some 49) (.pointer (some ⟨eb, 0 + 34, none⟩))).put (some 50) (x.v.v)).put (some 51) (SpV.a ⟨f, t, x.nm, x.v⟩)).put (some 52) (sv)).put (some 53) (u2)).put (some 10) (u2) → Q .normal a' w') :
    (Code.region 10 ovr10_ops false).wp Tryz.prog Q a w := by
  refine z0 rfl ?_
  refine zv rfl (xmv rfl (zi t10 rfl)) ?_
  refine zv rfl (xmv rfl (zi t8 rfl)) ?_
  refine zv rfl (xmv rfl (zi t9 rfl)) ?_
  refine zv rfl (xfa rfl (zi t12 rfl) (fg_95_1 _ _ _)) ?_
  refine zv rfl (xld rfl (zg zz rfl) LN) ?_
  refine zv rfl (xfa rfl (zi t12 rfl) (fg_95_2 _ _ _)) ?_
  refine zv rfl (xld rfl (zg zz rfl) LV) ?_
  refine zv rfl (exec_build4 rfl (zg zz rfl) (zg zz rfl) (zg zz rfl) (zg zz rfl) (build_span _ _ _ _ _)) ?_
  refine zv (v := sv) rfl (exec_buildSlice rfl (zg zz rfl) EB) ?_
  refine zv (v := u2) rfl (exec_append rfl (zg zz rfl) (zg zz rfl) EA) ?_
  refine zv rfl (xas rfl (zg zz rfl)) ?_
  exact ze rfl (h _ _ (rfl) rfl)
end Go.Proofs.YtifendlpeebofaaGreatDoor
namespace Go.Proofs.YtifendlpeebofaaGreatDoor
open Go.Shelf
def sortZ_ren : Go.Shelf.Ren := ⟨fun | 189 => 108 | 125 => 105 | 257 => 140 | 128 => 137 | 129 => 138 | 294 => 158 | 295 => 159 | 296 => 160 | 297 => 161 | 298 => 162 | 299 => 163 | 216 => 143 | 300 => 164 | 301 => 165 | 328 => 174 | 329 => 154 | 330 => 155 | 331 => 175 | 332 => 176 | 215 => 106 | 343 => 177 | n => n, fun | 28 => 150 | 3 => 3 | 46 => 156 | 0 => 0 | 51 => 191 | 53 => 123 | 4 => 4 | 183 => 185 | 182 => 184 | 131 => 161 | 5 => 5 | 9 => 9 | 218 => 205 | 222 => 209 | 228 => 222 | 229 => 140 | n => n, fun | n => n⟩
theorem sortZ : Go.Proofs.Lays.n189 Tryz.prog sortZ_ren := {
  mixed := by kernel_rfl
  f125 := Tryz.func105.trans (congrArg some (by kernel_rfl))
  f128 := Tryz.func137.trans (congrArg some (by kernel_rfl))
  f129 := Tryz.func138.trans (congrArg some (by kernel_rfl))
  f189 := Tryz.func108.trans (congrArg some (by kernel_rfl))
  f215 := Tryz.func106.trans (congrArg some (by kernel_rfl))
  f216 := Tryz.func143.trans (congrArg some (by kernel_rfl))
  f257 := Tryz.func140.trans (congrArg some (by kernel_rfl))
  f294 := Tryz.func158.trans (congrArg some (by kernel_rfl))
  f295 := Tryz.func159.trans (congrArg some (by kernel_rfl))
  f296 := Tryz.func160.trans (congrArg some (by kernel_rfl))
  f297 := Tryz.func161.trans (congrArg some (by kernel_rfl))
  f298 := Tryz.func162.trans (congrArg some (by kernel_rfl))
  f299 := Tryz.func163.trans (congrArg some (by kernel_rfl))
  f300 := Tryz.func164.trans (congrArg some (by kernel_rfl))
  f301 := Tryz.func165.trans (congrArg some (by kernel_rfl))
  f328 := Tryz.func174.trans (congrArg some (by kernel_rfl))
  f329 := Tryz.func154.trans (congrArg some (by kernel_rfl))
  f330 := Tryz.func155.trans (congrArg some (by kernel_rfl))
  f331 := Tryz.func175.trans (congrArg some (by kernel_rfl))
  f332 := Tryz.func176.trans (congrArg some (by kernel_rfl))
  f343 := Tryz.func177.trans (congrArg some (by kernel_rfl))
  t0 := Tryz.underlying0
  a0 := Tryz.isAgg0
  z0 := Tryz.sizeOf0
  v0 := Tryz.zeroValue0
  t3 := Tryz.underlying3
  a3 := Tryz.isAgg3
  z3 := Tryz.sizeOf3
  v3 := Tryz.zeroValue3
  t4 := Tryz.underlying4
  a4 := Tryz.isAgg4
  z4 := Tryz.sizeOf4
  v4 := Tryz.zeroValue4
  t5 := Tryz.underlying5
  a5 := Tryz.isAgg5
  z5 := Tryz.sizeOf5
  v5 := Tryz.zeroValue5
  t9 := Tryz.underlying9
  a9 := Tryz.isAgg9
  z9 := Tryz.sizeOf9
  v9 := Tryz.zeroValue9
  t28 := Tryz.underlying150
  a28 := Tryz.isAgg150
  z28 := Tryz.sizeOf150
  v28 := Tryz.zeroValue150
  t46 := Tryz.underlying156
  a46 := Tryz.isAgg156
  z46 := Tryz.sizeOf156
  v46 := Tryz.zeroValue156
  t51 := Tryz.underlying191
  a51 := Tryz.isAgg191
  z51 := Tryz.sizeOf191
  v51 := Tryz.zeroValue191
  t53 := Tryz.underlying123
  a53 := Tryz.isAgg123
  z53 := Tryz.sizeOf123
  v53 := Tryz.zeroValue123
  t131 := Tryz.underlying161
  a131 := Tryz.isAgg161
  z131 := Tryz.sizeOf161
  v131 := Tryz.zeroValue161
  t182 := Tryz.underlying184
  a182 := Tryz.isAgg184
  z182 := Tryz.sizeOf184
  v182 := Tryz.zeroValue184
  t183 := Tryz.underlying185
  a183 := Tryz.isAgg185
  z183 := Tryz.sizeOf185
  v183 := Tryz.zeroValue185
  t218 := Tryz.underlying205
  a218 := Tryz.isAgg205
  z218 := Tryz.sizeOf205
  v218 := Tryz.zeroValue205
  t222 := Tryz.underlying209
  a222 := Tryz.isAgg209
  z222 := Tryz.sizeOf209
  v222 := Tryz.zeroValue209
  t228 := Tryz.underlying222
  a228 := Tryz.isAgg222
  z228 := Tryz.sizeOf222
  v228 := Tryz.zeroValue222
  t229 := Tryz.underlying140
  a229 := Tryz.isAgg140
  z229 := Tryz.sizeOf140
  v229 := Tryz.zeroValue140 }
def compactZ_ren : Go.Shelf.Ren := ⟨fun | 20 => 109 | n => n, fun | 22 => 150 | 3 => 3 | 4 => 4 | 0 => 0 | n => n, fun | n => n⟩
theorem compactZ : Go.Proofs.Lays2.n20 Tryz.prog compactZ_ren := {
  mixed := by kernel_rfl
  f20 := Tryz.func109.trans (congrArg some (by kernel_rfl))
  t0 := Tryz.underlying0
  a0 := Tryz.isAgg0
  z0 := Tryz.sizeOf0
  v0 := Tryz.zeroValue0
  t3 := Tryz.underlying3
  a3 := Tryz.isAgg3
  z3 := Tryz.sizeOf3
  v3 := Tryz.zeroValue3
  t4 := Tryz.underlying4
  a4 := Tryz.isAgg4
  z4 := Tryz.sizeOf4
  v4 := Tryz.zeroValue4
  t22 := Tryz.underlying150
  a22 := Tryz.isAgg150
  z22 := Tryz.sizeOf150
  v22 := Tryz.zeroValue150
  i3 := by kernel_rfl }
def searchZ_ren : Go.Shelf.Ren := ⟨fun | 25 => 112 | 31 => 143 | 32 => 144 | 37 => 106 | n => n, fun | 22 => 150 | 3 => 3 | 4 => 4 | 40 => 156 | 0 => 0 | n => n, fun | n => n⟩
theorem searchZ : Go.Proofs.Lays2.n25 Tryz.prog searchZ_ren := {
  mixed := by kernel_rfl
  f25 := Tryz.func112.trans (congrArg some (by kernel_rfl))
  f31 := Tryz.func143.trans (congrArg some (by kernel_rfl))
  f32 := Tryz.func144.trans (congrArg some (by kernel_rfl))
  f37 := Tryz.func106.trans (congrArg some (by kernel_rfl))
  t0 := Tryz.underlying0
  a0 := Tryz.isAgg0
  z0 := Tryz.sizeOf0
  v0 := Tryz.zeroValue0
  t3 := Tryz.underlying3
  a3 := Tryz.isAgg3
  z3 := Tryz.sizeOf3
  v3 := Tryz.zeroValue3
  t4 := Tryz.underlying4
  a4 := Tryz.isAgg4
  z4 := Tryz.sizeOf4
  v4 := Tryz.zeroValue4
  t22 := Tryz.underlying150
  a22 := Tryz.isAgg150
  z22 := Tryz.sizeOf150
  v22 := Tryz.zeroValue150
  t40 := Tryz.underlying156
  a40 := Tryz.isAgg156
  z40 := Tryz.sizeOf156
  v40 := Tryz.zeroValue156 }
end Go.Proofs.YtifendlpeebofaaGreatDoor
namespace Go.Proofs.YtifendlpeebofaaGreatDoor
open Go.RowKit
def Vals (w : World) (a : Option Addr) (X : List Value) : Prop := X = [] ∨ ∃ b off, a = some ⟨b, off, none⟩ ∧ ∀ j u, X[j]? = some u → w.cell? ⟨b, off + j, none⟩ = some u
def OwnV (w : World) (base : Nat) (e : TypeId) (v : Value) (X : List Value) : Prop := w.ownsRow base e 1 v X.length X
theorem OwnV.below {w w' : World} {base : Nat} {e : TypeId} {v : Value} {X : List Value} (h : OwnV w base e v X) (hb : Below w.heap.size w w') : OwnV w' base e v X := by
  refine ⟨h.1, ?_⟩
  rcases h.2 with hn | ⟨g, cap, cur, rfl, hbg, hg, rest⟩
  · exact .inl hn
  · exact .inr ⟨g, cap, cur, rfl, hbg, by rw [hb.block g (Array.getElem?_eq_some_iff.1 hg).1]; exact hg, rest⟩
theorem OwnV.keep {w w' : World} {base : Nat} {e : TypeId} {v : Value} {X : List Value} (h : OwnV w base e v X) (hk : ∀ k, v.ownBlock = some k → w'.heap[k]? = w.heap[k]?) : OwnV w' base e v X := by
  refine ⟨h.1, ?_⟩
  rcases h.2 with hn | ⟨g, cap, cur, rfl, hbg, hg, rest⟩
  · exact .inl hn
  · exact .inr ⟨g, cap, cur, rfl, hbg, by rw [hk g rfl]; exact hg, rest⟩
theorem OwnV.ge {w : World} {base : Nat} {e : TypeId} {v : Value} {X : List Value} (h : OwnV w base e v X) : ∀ j, v.ownBlock = some j → base ≤ j ∧ ∃ c, w.heap[j]? = some (.cells c e (0, 0)) := by
  intro j hj
  rcases h.2 with ⟨rfl, hn⟩ | ⟨g, cap, cur, rfl, hbg, hg, rest⟩
  · cases hj
  · obtain rfl : g = j := by simpa [Value.ownBlock] using hj
    exact ⟨hbg, _, hg⟩
theorem OwnV.open {w : World} {base : Nat} {e : TypeId} {v : Value} {X : List Value} (h : OwnV w base e v X) :
    ∃ a cap, v = .slice a X.length cap ∧ X.length ≤ cap ∧ Vals w a X ∧ (a = none → X = [] ∧ cap = 0) := by
  rcases h.2 with ⟨rfl, hn⟩ | ⟨g, cap, cur, rfl, hbg, hg, hnc, hcm, hcs, htake⟩
  · obtain rfl : X = [] := List.eq_nil_of_length_eq_zero hn
    exact ⟨none, 0, rfl, Nat.le_refl _, .inl rfl, fun _ => ⟨rfl, rfl⟩⟩
  · refine ⟨some ⟨g, 0, none⟩, cap, rfl, hnc, .inr ⟨g, 0, rfl, fun j u hj => ?_⟩, fun h => by cases h⟩
    rw [Nat.zero_add, cell_of_row w g j cur e (0, 0) hg]
    rw [← htake, List.getElem?_take] at hj
    split at hj
    · simpa using hj
    · cases hj
theorem run_appV (T e y : TypeId) (z : Value) (ht : Tryz.prog.underlying T = some (.slice e)) (hi : (Tryz.prog.info? e).map (fun i => (i.zero, i.size, i.bytes)) = some (some z, 1, y)) (hy : y = 8 ∨ y = 24) (hz1 : z.cells.size = 1)
    (w : World) (base : Nat) (ty : TypeId) (v : Value) (L : List Value) (a : Option Addr) (M : List Value) (c : Nat) (hown : OwnV w base e v L) (hb : Vals w a M) (h1 : ∀ u ∈ M, u.oneCell' = true)
    (h : L.length + M.length ≤ 2000000000000) (hbase : base ≤ w.heap.size) :
    ∃ v' w', (Builtin.append_ #[T, T] ty #[v, .slice a M.length c]).run Tryz.prog w = .ok v' w' ∧ OwnV w' base e v' (L ++ M) ∧ w.grownBy w' v.ownBlock ∧ (v'.ownBlock = v.ownBlock ∨ v'.ownBlock = some w.heap.size) := by
  obtain ⟨i, hi, hz, hs, hby⟩ := info_parts hi
  cases a with
  | some ad =>
    have hnews : ∀ j u, M[j]? = some u → w.cell? (ad.add j) = some u := fun j u hj => by
      rcases hb with rfl | ⟨b, off, e, hc⟩
      · simp at hj
      · cases e
        rw [Addr.add_mid]
        exact hc j u hj
    obtain ⟨v', w', hr, h2, h3, h5⟩ := app_at (P := Tryz.prog) w base T ty e i z 1 y ht hi hz hs hby hz1 (by decide) v L.length L hown ad M.length c M (by omega) hnews h1 (by unfold maxLen; omega) (by rcases hy with rfl | rfl <;> omega) hbase
    refine ⟨v', w', hr, ?_, h3, h5⟩
    unfold OwnV
    rw [List.length_append]
    exact h2
  | none =>
    obtain rfl : M = [] := by
      rcases hb with rfl | ⟨b, off, e, _⟩
      · rfl
      · cases e
    rcases hown.2 with ⟨rfl, hn⟩ | ⟨g, cap, cur, rfl, hbg, hg, hnc, rest⟩
    · refine ⟨.slice none 0 0, w, ?_, by rw [List.append_nil]; exact hown, ⟨rfl, rfl, rfl, Nat.le_refl _, fun _ _ _ => rfl⟩, .inl rfl⟩
      simp [Builtin.append_, run_underlying ht, sizeOf, typeInfo, hi, Builtin.lenOf, Builtin.firstCells, loadCells, loadCellsFrom]
    · refine ⟨.slice (some ⟨g, 0, none⟩) L.length cap, w, ?_, by rw [List.append_nil]; exact hown, ⟨rfl, rfl, rfl, Nat.le_refl _, fun _ _ _ => rfl⟩, .inl rfl⟩
      simp [Builtin.append_, run_underlying ht, sizeOf, typeInfo, hi, Builtin.lenOf, Builtin.firstCells, hnc, storeCells]
theorem OwnV.lt {w : World} {base : Nat} {e : TypeId} {v : Value} {X : List Value} (h : OwnV w base e v X) {k : Nat} (hk : v.ownBlock = some k) : k < w.heap.size := by
  obtain ⟨_, c, q⟩ := h.ge k hk
  exact (Array.getElem?_eq_some_iff.1 q).1
def cSp (p q : SpV) : Int := or3 (cI p.fr q.fr) (cI p.to q.to) (cS p.nm q.nm)
theorem to_cSp : TO cSp := by
  have h := to_cI.lex (to_cI.lex to_cS)
  exact ⟨fun a b => h.anti (a.fr, a.to, a.nm) (b.fr, b.to, b.nm), fun a b d => h.le (a.fr, a.to, a.nm) (b.fr, b.to, b.nm) (d.fr, d.to, d.nm), fun a b d => h.lt (a.fr, a.to, a.nm) (b.fr, b.to, b.nm) (d.fr, d.to, d.nm)⟩
section
variable {W : World} {b : Nat} {x : SpV}
theorem sp_fr (h : RSp.Bx W b x) : (Instr.loadAt 3 (.pointer (some ⟨b, 0 + 0, none⟩))).run Tryz.prog W = .ok (.int .i64 x.fr) W := by
  have hc : W.cell? ⟨b, 0, none⟩ = some (.int .i64 x.fr) := (cell_of_row W b 0 _ _ _ h).trans rfl
  go_simp
theorem sp_to (h : RSp.Bx W b x) : (Instr.loadAt 3 (.pointer (some ⟨b, 0 + 1, none⟩))).run Tryz.prog W = .ok (.int .i64 x.to) W := by
  have hc : W.cell? ⟨b, 1, none⟩ = some (.int .i64 x.to) := (cell_of_row W b 1 _ _ _ h).trans rfl
  go_simp
theorem sp_nm (h : RSp.Bx W b x) : (Instr.loadAt 9 (.pointer (some ⟨b, 0 + 2, none⟩))).run Tryz.prog W = .ok (.string x.nm) W := by
  have hc : W.cell? ⟨b, 2, none⟩ = some (.string x.nm) := (cell_of_row W b 2 _ _ _ h).trans rfl
  go_simp
end
theorem run_bs3 (a b c : Int) (w : World) : (Instr.buildSlice 150 3 #[(0, .int .i64 a), (1, .int .i64 b), (2, .int .i64 c)]).run Tryz.prog w = .ok (.slice (some ⟨w.heap.size, 0, none⟩) 3 3) (w.alloc (.cells #[.int .i64 a, .int .i64 b, .int .i64 c] 3)) := by
  kernel_rfl
theorem cmpSp_any (p q : SpV) (w : World) : Calls Tryz.prog 83 #[p.a, q.a] w fun e w' => e = .returned (.int .i64 (cSp p q)) ∧ Below w.heap.size w w' ∧ w.drawn ≤ w'.drawn := by
  obtain ⟨W, hW⟩ : ∃ W, (w.alloc (.cells p.c.toArray 65)).alloc (.cells q.c.toArray 65) = W := ⟨_, rfl⟩
  have zW : W.heap.size = w.heap.size + 2 := by rw [← hW]; simp
  have S0 : Hid (RSp.Bx W w.heap.size p ∧ RSp.Bx W (w.heap.size + 1) q ∧ Below w.heap.size w W ∧ w.drawn ≤ W.drawn) := by
    refine ⟨?_, ?_, ?_, ?_⟩
    · rw [← hW]
      show _ = _
      rw [Below.heap_alloc _ _ _ (by simp)]; exact heap_alloc_new _ _
    · rw [← hW]
      have := heap_alloc_new (w.alloc (.cells p.c.toArray 65)) (.cells q.c.toArray 65)
      rw [show (w.alloc (.cells p.c.toArray 65)).heap.size = w.heap.size + 1 by simp] at this
      exact this
    · rw [← hW]; exact ((Below.refl _ _).alloc (Nat.le_refl _) _).alloc (by simp) _
    · rw [← hW]; exact Nat.le_refl _
  have HK : Hid (∀ {X : World} {v : Array Value} {t : TypeId}, (RSp.Bx X w.heap.size p ∧ RSp.Bx X (w.heap.size + 1) q ∧ Below w.heap.size w X ∧ w.drawn ≤ X.drawn) → (RSp.Bx (X.alloc (.cells v t)) w.heap.size p ∧ RSp.Bx (X.alloc (.cells v t)) (w.heap.size + 1) q ∧ Below w.heap.size w (X.alloc (.cells v t)) ∧ w.drawn ≤ (X.alloc (.cells v t)).drawn)) := fun {X v t} h => by
    have b : Below X.heap.size X (X.alloc (.cells v t)) := (Below.refl _ _).alloc (Nat.le_refl _) _
    exact ⟨h.1.below b, h.2.1.below b, h.2.2.1.trans (b.mono h.2.2.1.size), h.2.2.2⟩
  have HX := hidMk hW
  clear hW
  unfold SpV.a
  go_enter Tryz.func83, Tryz.ntmps83
  go_upto_region 1 with fail
  rw [HX.out]
  clear HX
  have D0 : Hid (RSp.Bx W.drew w.heap.size p ∧ RSp.Bx W.drew (w.heap.size + 1) q ∧ Below w.heap.size w W.drew ∧ w.drawn ≤ W.drew.drawn) := ⟨S0.out.1, S0.out.2.1, S0.out.2.2.1.drew, Nat.le_trans S0.out.2.2.2 (Nat.le_succ _)⟩
  refine srt1 (p := p) (q := q) (pb := w.heap.size) (qb := w.heap.size + 1) (x1 := cI p.fr q.fr) (x2 := cI p.to q.to) (x3 := cS p.nm q.nm) (z := cSp p q) (sv := .slice (some ⟨W.drew.heap.size, 0, none⟩) 3 3) (fun X => RSp.Bx X w.heap.size p ∧ RSp.Bx X (w.heap.size + 1) q ∧ Below w.heap.size w X ∧ w.drawn ≤ X.drawn) _ W _ rfl rfl rfl D0.out
    (fun X h => sp_fr h.1) (fun X h => sp_to h.1) (fun X h => sp_nm h.1) (fun X h => sp_fr h.2.1) (fun X h => sp_to h.2.1) (fun X h => sp_nm h.2.1) ((cmpN _ _ _).mono ?_) ?_
  · rintro e _ ⟨rfl, rfl⟩
    refine ⟨rfl, D0.out, (cmpN _ _ _).mono ?_⟩
    rintro e _ ⟨rfl, rfl⟩
    refine ⟨rfl, D0.out, (cmpS_any _ _ _).mono ?_⟩
    rintro e _ ⟨rfl, rfl⟩
    refine ⟨rfl, D0.out, _, run_bs3 _ _ _ _, HK.out D0.out, (or_any W.drew.heap.size _ _ _ _ 3 (0, 0) (heap_alloc_new _ _)).mono ?_⟩
    rintro e _ ⟨rfl, rfl⟩
    exact ⟨rfl, HK.out D0.out⟩
  intro a' w2 hf ha
  subst ha
  simp only [Act.put, qsA, qsB, qsC]
  have HF := hidMk hf
  clear hf D0 S0 HK zW
  go_wp2
  go_ret
  exact ⟨rfl, HF.out.2.2.1, HF.out.2.2.2⟩
def SdS (L : List SpV) : Prop := L.Pairwise fun x y => cSp x y ≤ 0
def SrtS (W : World) (base : Nat) (v : Value) (L : List SpV) (e : Ending) (w' : World) : Prop := e = .returned (.tuple #[]) ∧ ∃ L', L'.Perm L ∧ SdS L' ∧ RSp.Lo w' base v L' ∧ Tch (fun j => v.ownBlock = some j) W w'
end Go.Proofs.YtifendlpeebofaaGreatDoor
namespace Go.Proofs.YtifendlpeebofaaGreatDoor
theorem cI_zero {a b : Int} (h : cI a b = 0) : a = b := by unfold cI at h; split at h; · omega
                                                           · split at h <;> omega
theorem cS_zero {a b : ByteArray} (h : cS a b = 0) : a = b := by
  rcases cS_val a b with ⟨_, e⟩ | ⟨p, _⟩ | ⟨_, e⟩
  · omega
  · exact ba_inj p
  · omega
theorem cSp_zero {p q : SpV} (h : cSp p q = 0) : p.fr = q.fr ∧ p.to = q.to ∧ p.nm = q.nm := by
  unfold cSp or3 at h
  split at h
  · next h1 =>
    split at h
    · next h2 => exact ⟨cI_zero h1, cI_zero h2, cS_zero h⟩
    · next h2 => exact absurd h h2
  · next h1 => exact absurd h h1
def Run (h : ByteArray → Int → Option VaV) (p : SpV) : Prop := p.fr < p.to ∧ (∀ j, p.fr ≤ j → j < p.to → h p.nm j = some p.v) ∧ h p.nm (p.fr - 1) ≠ some p.v ∧ h p.nm p.to ≠ some p.v
structure SpansIs (h : ByteArray → Int → Option VaV) (S : List SpV) : Prop where
  srt : S.Pairwise (fun p q => cSp p q < 0)
  mem : ∀ p, p ∈ S ↔ Run h p
theorem cSp_self (p : SpV) : cSp p p = 0 := by have := to_cSp.anti p p; omega
theorem Run.eq {h : ByteArray → Int → Option VaV} {p q : SpV} (a : Run h p) (b : Run h q) (e : p.nm = q.nm) {j : Int} (h1 : p.fr ≤ j) (h2 : j < p.to) (h3 : q.fr ≤ j) (h4 : j < q.to) : p = q := by
  obtain ⟨pf, pt, pn, pv⟩ := p
  obtain ⟨qf, qt, qn, qv⟩ := q
  simp only at e h1 h2 h3 h4
  subst e
  obtain ⟨a1, a2, a3, a4⟩ := a
  obtain ⟨b1, b2, b3, b4⟩ := b
  simp only at a1 a2 a3 a4 b1 b2 b3 b4
  have ev : pv = qv := by have := a2 j h1 h2; rw [b2 j h3 h4] at this; exact (Option.some.inj this).symm
  subst ev
  have e1 : pf = qf := by
    rcases Int.lt_trichotomy pf qf with x | x | x
    · exact absurd (a2 (qf - 1) (by omega) (by omega)) b3
    · exact x
    · exact absurd (b2 (pf - 1) (by omega) (by omega)) a3
  have e2 : pt = qt := by
    rcases Int.lt_trichotomy pt qt with x | x | x
    · exact absurd (b2 pt (by omega) (by omega)) a4
    · exact x
    · exact absurd (a2 qt (by omega) (by omega)) b4
  subst e1 e2
  rfl
theorem Run.eq_fr {h : ByteArray → Int → Option VaV} {p q : SpV} (a : Run h p) (b : Run h q) (e : p.nm = q.nm) (h1 : p.fr = q.fr) : p = q :=
  a.eq b e (Int.le_refl _) a.1 (by omega) (by have := b.1; omega)
theorem spans_of {h : ByteArray → Int → Option VaV} {S : List SpV} (hs : S.Pairwise (fun p q => cSp p q ≤ 0)) (hn : S.Nodup) (hm : ∀ p, p ∈ S ↔ Run h p) : SpansIs h S := by
  refine ⟨?_, hm⟩
  have : S.Pairwise (fun p q => cSp p q ≤ 0 ∧ p ≠ q) := hs.and hn
  refine this.imp_of_mem (fun {p q} hp hq hpq => ?_)
  obtain ⟨h1, h2⟩ := hpq
  by_cases h0 : cSp p q = 0
  · obtain ⟨e1, e2, e3⟩ := cSp_zero h0
    exact absurd (((hm p).1 hp).eq_fr ((hm q).1 hq) e3 e1) h2
  · omega
/-! ### what holds, of covers in the order in which they were added -/
def inC (j : Int) (c : SpV) : Bool := decide (c.fr ≤ j ∧ j < c.to)
def lastI : List SpV → Int → Option Nat
  | [], _ => none
  | c :: C, j => match lastI C j with
    | some i => some (i + 1)
    | none => if inC j c = true then some 0 else none
def valI (C : List SpV) (o : Option Nat) : Option VaV := match o with
  | some i => match C[i]? with
    | some c => if c.v.k = 0 then none else some c.v
    | none => none
  | none => none
def valC (C : List SpV) (j : Int) : Option VaV := valI C (lastI C j)
theorem lastI_none : ∀ {C : List SpV} {j : Int}, lastI C j = none ↔ ∀ c ∈ C, inC j c = false
  | [], j => by simp [lastI]
  | c :: C, j => by
    have ih := lastI_none (C := C) (j := j)
    unfold lastI
    cases h : lastI C j with
    | some i =>
      simp only [reduceCtorEq, false_iff]
      intro q
      rw [h] at ih
      have := ih.2 (fun x hx => q x (by simp [hx]))
      cases this
    | none =>
      have i2 := ih.1 h
      simp only [List.mem_cons, forall_eq_or_imp]
      cases hc : inC j c <;> simp_all
theorem lastI_some : ∀ {C : List SpV} {j : Int} {i : Nat}, lastI C j = some i ↔ ∃ c, C[i]? = some c ∧ inC j c = true ∧ ∀ k d, i < k → C[k]? = some d → inC j d = false
  | [], j, i => by simp [lastI]
  | c :: C, j, i => by
    unfold lastI
    cases h : lastI C j with
    | some m =>
      obtain ⟨d, h1, h2, h3⟩ := lastI_some.1 h
      simp only [Option.some.injEq]
      constructor
      · rintro rfl
        refine ⟨d, by simpa using h1, h2, fun k e hk he => ?_⟩
        cases k with
        | zero => omega
        | succ k => exact h3 k e (by omega) (by simpa using he)
      · rintro ⟨e, h4, h5, h6⟩
        rcases Nat.lt_trichotomy (m + 1) i with x | x | x
        · cases i with
          | zero => omega
          | succ i =>
            have := h3 i e (by omega) (by simpa using h4)
            rw [h5] at this; cases this
        · exact x
        · have := h6 (m + 1) d x (by simpa using h1)
          rw [h2] at this; cases this
    | none =>
      have hn := lastI_none.1 h
      simp only
      constructor
      · intro q
        split at q
        · next hc =>
          cases q
          refine ⟨c, rfl, hc, fun k e hk he => ?_⟩
          cases k with
          | zero => omega
          | succ k => exact hn e (List.mem_of_getElem? (by simpa using he))
        · cases q
      · rintro ⟨e, h4, h5, h6⟩
        cases i with
        | zero =>
          simp only [List.getElem?_cons_zero, Option.some.injEq] at h4
          subst h4
          rw [if_pos h5]
        | succ i =>
          have := hn e (List.mem_of_getElem? (by simpa using h4))
          rw [h5] at this; cases this
theorem lastI_congr {j k : Int} : ∀ {C : List SpV}, (∀ c ∈ C, inC j c = inC k c) → lastI C j = lastI C k
  | [], _ => rfl
  | c :: C, h => by
    unfold lastI
    rw [lastI_congr (C := C) (fun x hx => h x (by simp [hx])), h c (by simp)]
/-! ### runs out of pieces -/
def rstep (l : List SpV) (p : SpV) : List SpV := match l.getLast? with
  | some q => if q.to = p.fr ∧ q.v = p.v then l.dropLast ++ [⟨q.fr, p.to, q.nm, q.v⟩] else l ++ [p]
  | none => l ++ [p]
structure RunsTo (h : Int → Option VaV) (nm : ByteArray) (z : Int) (l : List SpV) : Prop where
  nm : ∀ p ∈ l, p.nm = nm
  in' : ∀ p ∈ l, p.fr < p.to ∧ p.to ≤ z ∧ (∀ j, p.fr ≤ j → j < p.to → h j = some p.v) ∧ h (p.fr - 1) ≠ some p.v
  pw : l.Pairwise (fun p q => p.to ≤ q.fr)
  ends : ∀ (l1 l2 : List SpV) (p : SpV), l = l1 ++ p :: l2 → h p.to ≠ some p.v ∨ (p.to = z ∧ l2 = [])
  all : ∀ j v, j < z → h j = some v → ∃ p ∈ l, p.fr ≤ j ∧ j < p.to
theorem RunsTo.skip {h : Int → Option VaV} {nm : ByteArray} {z y : Int} {l : List SpV} (r : RunsTo h nm z l) (hz : z < y) (h0 : ∀ j, z ≤ j → j < y → h j = none) : RunsTo h nm y l := by
  refine ⟨r.nm, fun p hp => ?_, r.pw, fun l1 l2 p e => ?_, fun j v hj hv => ?_⟩
  · obtain ⟨a, b, c, d⟩ := r.in' p hp
    exact ⟨a, by omega, c, d⟩
  · rcases r.ends l1 l2 p e with x | ⟨x, rfl⟩
    · exact .inl x
    · exact .inl (by rw [x, h0 z (by omega) hz]; exact fun q => by cases q)
  · by_cases q : j < z
    · exact r.all j v q hv
    · rw [h0 j (by omega) hj] at hv; cases hv
theorem RunsTo.step {h : Int → Option VaV} {nm : ByteArray} {z y : Int} {l : List SpV} (r : RunsTo h nm z l) (hz : z < y) {v : VaV} (h0 : ∀ j, z ≤ j → j < y → h j = some v) : RunsTo h nm y (rstep l ⟨z, y, nm, v⟩) := by
  unfold rstep
  cases hl : l.getLast? with
  | none =>
    rw [List.getLast?_eq_none_iff] at hl
    subst hl
    simp only [List.nil_append]
    refine ⟨by simp, fun p hp => ?_, by simp, fun l1 l2 p e => ?_, fun j w hj hw => ?_⟩
    · rw [List.mem_singleton] at hp
      subst hp
      refine ⟨hz, Int.le_refl _, h0, fun q => ?_⟩
      obtain ⟨p, hp, _⟩ := r.all (z - 1) v (by omega) q
      cases hp
    · cases l1 with
      | nil => simp only [List.nil_append, List.cons.injEq] at e; exact .inr ⟨by rw [← e.1], e.2.symm⟩
      | cons a l1 => simp at e
    · by_cases q : j < z
      · obtain ⟨p, hp, _⟩ := r.all j w q hw
        cases hp
      · exact ⟨_, List.mem_singleton.2 rfl, by show z ≤ j; omega, hj⟩
  | some q =>
    obtain ⟨l0, rfl⟩ := List.getLast?_eq_some_iff.1 hl
    have hq := r.in' q (by simp)
    simp only [List.dropLast_concat]
    split
    · next hc =>
      obtain ⟨c1, c2⟩ := hc
      have pw := List.pairwise_append.1 r.pw
      refine ⟨fun p hp => ?_, fun p hp => ?_, ?_, fun l1 l2 p e => ?_, fun j w hj hw => ?_⟩
      · rcases List.mem_append.1 hp with x | x
        · exact r.nm p (by simp [x])
        · rw [List.mem_singleton] at x; rw [x]; exact r.nm q (by simp)
      · rcases List.mem_append.1 hp with x | x
        · obtain ⟨a, b, c, d⟩ := r.in' p (by simp [x])
          exact ⟨a, by omega, c, d⟩
        · rw [List.mem_singleton] at x
          subst x
          refine ⟨by show q.fr < y; omega, Int.le_refl _, fun j h1 h2 => ?_, hq.2.2.2⟩
          show h j = some q.v
          by_cases g : j < z
          · exact hq.2.2.1 j h1 (by omega)
          · rw [h0 j (by omega) h2, c2]
      · refine List.pairwise_append.2 ⟨pw.1, by simp, fun p hp s hs => ?_⟩
        rw [List.mem_singleton] at hs
        subst hs
        exact pw.2.2 p hp q (by simp)
      · rcases List.eq_nil_or_concat l2 with rfl | ⟨l3, t, rfl⟩
        · have : p = (⟨q.fr, y, q.nm, q.v⟩ : SpV) := by
            have := congrArg List.getLast? e
            simp at this
            exact this.symm
          exact .inr ⟨by rw [this], rfl⟩
        · have e2 : l0 = l1 ++ p :: l3 := by
            have := congrArg List.dropLast e
            simp only [List.dropLast_concat] at this
            rw [this, show l1 ++ p :: (l3.concat t) = (l1 ++ p :: l3) ++ [t] by simp, List.dropLast_concat]
          rcases r.ends l1 (l3 ++ [q]) p (by rw [e2]; simp) with x | ⟨_, x⟩
          · exact .inl x
          · simp at x
      · by_cases g : j < z
        · obtain ⟨p, hp, h1, h2⟩ := r.all j w g hw
          rcases List.mem_append.1 hp with x | x
          · exact ⟨p, by simp [x], h1, h2⟩
          · rw [List.mem_singleton] at x
            subst x
            exact ⟨_, List.mem_append.2 (.inr (List.mem_singleton.2 rfl)), h1, by show j < y; omega⟩
        · exact ⟨_, List.mem_append.2 (.inr (List.mem_singleton.2 rfl)), by show q.fr ≤ j; omega, hj⟩
    · next hc =>
      refine ⟨fun p hp => ?_, fun p hp => ?_, ?_, fun l1 l2 p e => ?_, fun j w hj hw => ?_⟩
      · rcases List.mem_append.1 hp with x | x
        · exact r.nm p x
        · rw [List.mem_singleton] at x; rw [x]
      · rcases List.mem_append.1 hp with x | x
        · obtain ⟨a, b, c, d⟩ := r.in' p x
          exact ⟨a, by omega, c, d⟩
        · rw [List.mem_singleton] at x
          subst x
          refine ⟨hz, Int.le_refl _, h0, fun g => ?_⟩
          show False
          obtain ⟨p, hp, h1, h2⟩ := r.all (z - 1) v (by omega) g
          have pw := List.pairwise_append.1 r.pw
          rcases List.mem_append.1 hp with x | x
          · have a1 := pw.2.2 p x q (by simp)
            have := hq.1
            have := hq.2.1
            omega
          · rw [List.mem_singleton] at x
            subst x
            have a3 := hq.2.2.1 (z - 1) h1 h2
            simp only at g
            rw [g] at a3
            exact hc ⟨by have := hq.2.1; omega, (Option.some.inj a3).symm⟩
      · refine List.pairwise_append.2 ⟨r.pw, by simp, fun p hp s hs => ?_⟩
        rw [List.mem_singleton] at hs
        subst hs
        exact (r.in' p hp).2.1
      · rcases List.eq_nil_or_concat l2 with rfl | ⟨l3, t, rfl⟩
        · have : p = ⟨z, y, nm, v⟩ := by
            have := congrArg List.getLast? e
            simp at this
            exact this.symm
          exact .inr ⟨by rw [this], rfl⟩
        · have e2 : l0 ++ [q] = l1 ++ p :: l3 := by
            have := congrArg List.dropLast e
            simp only [List.dropLast_concat] at this
            rw [this, show l1 ++ p :: (l3.concat t) = (l1 ++ p :: l3) ++ [t] by simp, List.dropLast_concat]
          rcases r.ends l1 l3 p e2 with x | ⟨x1, x2⟩
          · exact .inl x
          · subst x2
            have e3 : q = p := by
              have := congrArg List.getLast? e2
              simp at this
              exact this
            subst e3
            refine .inl (fun g => hc ⟨x1, ?_⟩)
            rw [x1, h0 z (by omega) hz] at g
            exact (Option.some.inj g).symm
      · by_cases g : j < z
        · obtain ⟨p, hp, h1, h2⟩ := r.all j w g hw
          exact ⟨p, List.mem_append.2 (.inl hp), h1, h2⟩
        · exact ⟨_, List.mem_append.2 (.inr (List.mem_singleton.2 rfl)), by show z ≤ j; omega, hj⟩
theorem RunsTo.mem {h : ByteArray → Int → Option VaV} {nm : ByteArray} {z : Int} {l : List SpV} (r : RunsTo (h nm) nm z l) (hz : ∀ j, z ≤ j → h nm j = none) (p : SpV) : p ∈ l ↔ Run h p ∧ p.nm = nm := by
  have one : ∀ p ∈ l, Run h p ∧ p.nm = nm := fun p hp => by
    obtain ⟨a, b, c, d⟩ := r.in' p hp
    have e := r.nm p hp
    refine ⟨⟨a, by rw [e]; exact c, by rw [e]; exact d, ?_⟩, e⟩
    rw [e]
    obtain ⟨l1, l2, rfl⟩ := List.append_of_mem hp
    rcases r.ends l1 l2 p rfl with x | ⟨x, _⟩
    · exact x
    · rw [x, hz z (Int.le_refl _)]; exact fun q => by cases q
  refine ⟨one p, fun ⟨hp, e⟩ => ?_⟩
  have h1 := hp.2.1 p.fr (Int.le_refl _) hp.1
  rw [e] at h1
  have hlt : p.fr < z := by
    rcases Int.lt_or_le p.fr z with x | x
    · exact x
    · rw [hz p.fr x] at h1; cases h1
  obtain ⟨q, hq, h2, h3⟩ := r.all p.fr p.v hlt h1
  obtain ⟨hq1, hq2⟩ := one q hq
  rw [hp.eq hq1 (e.trans hq2.symm) (Int.le_refl _) hp.1 h2 h3]
  exact hq
theorem RunsTo.nodup {h : Int → Option VaV} {nm : ByteArray} {z : Int} {l : List SpV} (r : RunsTo h nm z l) : l.Nodup := by
  refine r.pw.imp_of_mem (fun {p q} hp hq hpq e => ?_)
  subst e
  have := (r.in' p hp).1
  omega
/-! ### which cover holds for a piece, as they are gone through from the last one down -/
def hI (C : List SpV) (i : Nat) (j : Int) : Int := match lastI C j with
  | some r => if i ≤ r then (r : Int) else -1
  | none => -1
theorem lastI_lt {C : List SpV} {j : Int} {r : Nat} (h : lastI C j = some r) : r < C.length := by
  obtain ⟨c, h1, _⟩ := lastI_some.1 h
  exact (List.getElem?_eq_some_iff.1 h1).1
theorem hI_len (C : List SpV) (j : Int) : hI C C.length j = -1 := by
  unfold hI
  cases h : lastI C j with
  | none => rfl
  | some r => have := lastI_lt h; simp only; rw [if_neg (by omega)]
theorem hI_step {C : List SpV} {i : Nat} {c : SpV} (hc : C[i]? = some c) (j : Int) : hI C i j = if hI C (i + 1) j = -1 then (if inC j c = true then (i : Int) else -1) else hI C (i + 1) j := by
  unfold hI
  cases h : lastI C j with
  | none =>
    simp only [if_true]
    rw [if_neg (by rw [lastI_none.1 h c (List.mem_of_getElem? hc)]; decide)]
  | some r =>
    obtain ⟨d, h1, h2, h3⟩ := lastI_some.1 h
    simp only
    rcases Nat.lt_trichotomy r i with x | x | x
    · have n1 : ¬ i ≤ r := by omega
      have n2 : ¬ i + 1 ≤ r := by omega
      simp only [if_neg n1, if_neg n2, if_true, h3 i c x hc, Bool.false_eq_true, if_false]
    · subst x
      rw [hc] at h1; cases h1
      have n2 : ¬ r + 1 ≤ r := by omega
      simp only [Nat.le_refl, if_neg n2, if_true, h2]
    · have n1 : i ≤ r := by omega
      have n2 : i + 1 ≤ r := by omega
      have n3 : ¬ ((r : Int) = -1) := by omega
      simp only [if_pos n1, if_pos n2, if_neg n3]
theorem hI_done {C : List SpV} {i : Nat} {j : Int} (h : hI C i j ≠ -1) : hI C 0 j = hI C i j := by
  unfold hI at *
  cases e : lastI C j with
  | none => rfl
  | some r =>
    rw [e] at h
    simp only at h ⊢
    by_cases q : i ≤ r
    · rw [if_pos q, if_pos (Nat.zero_le _)]
    · rw [if_neg q] at h; exact absurd rfl h
def valN (C : List SpV) (z : Int) : Option VaV := if z = -1 then none else valI C (some z.toNat)
theorem valN_hI (C : List SpV) (j : Int) : valN C (hI C 0 j) = valC C j := by
  unfold valN valC hI
  cases e : lastI C j with
  | none => simp [valI]
  | some r => simp
/-! ### cuts -/
structure CutsOf (C : List SpV) (K : List Int) : Prop where
  asc : K.Pairwise (· < ·)
  mem : ∀ x, x ∈ K ↔ ∃ c ∈ C, x = c.fr ∨ x = c.to
theorem asc_get {K : List Int} (h : K.Pairwise (· < ·)) {a b : Nat} {x y : Int} (ha : K[a]? = some x) (hb : K[b]? = some y) (hab : a < b) : x < y := by
  obtain ⟨h1, rfl⟩ := List.getElem?_eq_some_iff.1 ha
  obtain ⟨h2, rfl⟩ := List.getElem?_eq_some_iff.1 hb
  exact List.pairwise_iff_getElem.1 h a b h1 h2 hab
theorem asc_lt {K : List Int} (h : K.Pairwise (· < ·)) {a b : Nat} {x y : Int} (ha : K[a]? = some x) (hb : K[b]? = some y) : x < y ↔ a < b := by
  rcases Nat.lt_trichotomy a b with q | q | q
  · exact ⟨fun _ => q, fun _ => asc_get h ha hb q⟩
  · subst q; rw [ha] at hb; cases hb; omega
  · have := asc_get h hb ha q; omega
section
variable {C : List SpV} {K : List Int} (k : CutsOf C K)
include k
theorem CutsOf.piece {a : Nat} {x y : Int} (ha : K[a]? = some x) (hb : K[a + 1]? = some y) {j : Int} (h1 : x ≤ j) (h2 : j < y) : ∀ c ∈ C, inC j c = inC x c := fun c hc => by
  obtain ⟨p, hp⟩ := List.mem_iff_getElem?.1 ((k.mem c.fr).2 ⟨c, hc, .inl rfl⟩)
  obtain ⟨q, hq⟩ := List.mem_iff_getElem?.1 ((k.mem c.to).2 ⟨c, hc, .inr rfl⟩)
  have e1 := asc_lt k.asc ha hp
  have e2 := asc_lt k.asc hp hb
  have e3 := asc_lt k.asc ha hq
  have e4 := asc_lt k.asc hq hb
  unfold inC
  rw [Bool.eq_iff_iff]
  simp only [decide_eq_true_eq]
  constructor
  · rintro ⟨g1, g2⟩
    have : p < a + 1 := e2.1 (by omega)
    have : ¬ x < c.fr := fun g => by have := e1.1 g; omega
    exact ⟨by omega, by omega⟩
  · rintro ⟨g1, g2⟩
    have := e3.1 g2
    have : ¬ c.to < y := fun g => by have := e4.1 g; omega
    exact ⟨by omega, by omega⟩
theorem CutsOf.val {a : Nat} {x y : Int} (ha : K[a]? = some x) (hb : K[a + 1]? = some y) {j : Int} (h1 : x ≤ j) (h2 : j < y) : valC C j = valC C x := by
  unfold valC
  rw [lastI_congr (k.piece ha hb h1 h2)]
theorem CutsOf.inp {c : SpV} (hc : c ∈ C) {p q a : Nat} {x : Int} (hp : K[p]? = some c.fr) (hq : K[q]? = some c.to) (ha : K[a]? = some x) : inC x c = true ↔ p ≤ a ∧ a < q := by
  unfold inC
  have e1 := asc_lt k.asc ha hp
  have e2 := asc_lt k.asc ha hq
  simp only [decide_eq_true_eq]
  constructor
  · rintro ⟨g1, g2⟩
    exact ⟨by rcases Nat.lt_or_ge a p with g | g; · have := e1.2 g; omega
              · exact g, e2.1 g2⟩
  · rintro ⟨g1, g2⟩
    refine ⟨?_, e2.2 g2⟩
    have : ¬ x < c.fr := fun g => by have := e1.1 g; omega
    omega
theorem CutsOf.first {x : Int} (h0 : K[0]? = some x) {j : Int} (hj : j < x) : valC C j = none := by
  have : lastI C j = none := lastI_none.2 fun c hc => by
    obtain ⟨p, hp⟩ := List.mem_iff_getElem?.1 ((k.mem c.fr).2 ⟨c, hc, .inl rfl⟩)
    have e := asc_lt k.asc hp h0
    unfold inC
    rw [decide_eq_false_iff_not]
    rintro ⟨g, _⟩
    have := e.1 (by omega)
    omega
  unfold valC
  rw [this]; rfl
theorem CutsOf.last {x : Int} {m : Nat} (hm : K.length = m + 1) (h0 : K[m]? = some x) {j : Int} (hj : x ≤ j) : valC C j = none := by
  have : lastI C j = none := lastI_none.2 fun c hc => by
    obtain ⟨p, hp⟩ := List.mem_iff_getElem?.1 ((k.mem c.to).2 ⟨c, hc, .inr rfl⟩)
    have e := asc_lt k.asc h0 hp
    have := (List.getElem?_eq_some_iff.1 hp).1
    unfold inC
    rw [decide_eq_false_iff_not]
    rintro ⟨_, g⟩
    have := e.1 (by omega)
    omega
  unfold valC
  rw [this]; rfl
theorem CutsOf.runs0 (nm : ByteArray) {x : Int} (h0 : K[0]? = some x) : RunsTo (valC C) nm x [] :=
  ⟨by simp, by simp, by simp, fun l1 l2 p e => by simp at e, fun j v hj hv => by rw [k.first h0 hj] at hv; cases hv⟩
def rnext (C : List SpV) (nm : ByteArray) (x y : Int) (z : Int) (l : List SpV) : List SpV := match valN C z with
  | some v => rstep l ⟨x, y, nm, v⟩
  | none => l
theorem CutsOf.next {nm : ByteArray} {l : List SpV} {a : Nat} {x y : Int} (ha : K[a]? = some x) (hb : K[a + 1]? = some y) (r : RunsTo (valC C) nm x l) : RunsTo (valC C) nm y (rnext C nm x y (hI C 0 x) l) := by
  have hxy := asc_get k.asc ha hb (by omega)
  unfold rnext
  rw [valN_hI]
  cases e : valC C x with
  | none => exact r.skip hxy (fun j h1 h2 => by rw [k.val ha hb h1 h2, e])
  | some v => exact r.step hxy (fun j h1 h2 => by rw [k.val ha hb h1 h2, e])
end
/-! ### the pieces that are open still -/
structure NX (H : List Int) (X : List Nat) : Prop where
  len : X.length = H.length + 1
  le : ∀ (a x : Nat), X[a]? = some x → a ≤ x ∧ x ≤ H.length
  cl : ∀ (a x b : Nat), X[a]? = some x → a ≤ b → b < x → H[b]? ≠ some (-1)
  fix : ∀ (a x : Nat), X[a]? = some x → (x = a ↔ a = H.length ∨ H[a]? = some (-1))
theorem NX.half {H : List Int} {X : List Nat} (n : NX H X) {a x y : Nat} (ha : X[a]? = some x) (hx : X[x]? = some y) (hne : x ≠ a) : NX H (X.set a y) := by
  have l1 := n.le a x ha
  have l2 := n.le x y hx
  have al := (List.getElem?_eq_some_iff.1 ha).1
  have get : ∀ b z, (X.set a y)[b]? = some z → (b = a ∧ z = y) ∨ (b ≠ a ∧ X[b]? = some z) := fun b z h => by
    by_cases e : b = a
    · subst e
      rw [List.getElem?_set_self al] at h
      exact .inl ⟨rfl, (Option.some.inj h).symm⟩
    · rw [List.getElem?_set_ne (Ne.symm e)] at h
      exact .inr ⟨e, h⟩
  refine ⟨by simp [n.len], fun b z h => ?_, fun b z c h h1 h2 => ?_, fun b z h => ?_⟩
  · rcases get b z h with ⟨rfl, rfl⟩ | ⟨_, g⟩
    · exact ⟨by omega, l2.2⟩
    · exact n.le b z g
  · rcases get b z h with ⟨rfl, rfl⟩ | ⟨_, g⟩
    · by_cases q : c < x
      · exact n.cl _ x c ha h1 q
      · exact n.cl x _ c hx (by omega) h2
    · exact n.cl b z c g h1 h2
  · rcases get b z h with ⟨rfl, rfl⟩ | ⟨_, g⟩
    · have := n.fix _ x ha
      constructor
      · intro e; omega
      · intro e; exact absurd (this.2 e) hne
    · exact n.fix b z g
theorem NX.take {H : List Int} {X : List Nat} (n : NX H X) {a : Nat} (ha : X[a]? = some a) (hl : a < H.length) {i : Int} (hi : i ≠ -1) : NX (H.set a i) (X.set a (a + 1)) := by
  have al := (List.getElem?_eq_some_iff.1 ha).1
  have get : ∀ b z, (X.set a (a + 1))[b]? = some z → (b = a ∧ z = a + 1) ∨ (b ≠ a ∧ X[b]? = some z) := fun b z h => by
    by_cases e : b = a
    · subst e
      rw [List.getElem?_set_self al] at h
      exact .inl ⟨rfl, (Option.some.inj h).symm⟩
    · rw [List.getElem?_set_ne (Ne.symm e)] at h
      exact .inr ⟨e, h⟩
  have gh : ∀ b, (H.set a i)[b]? = some (-1) → b ≠ a ∧ H[b]? = some (-1) := fun b h => by
    by_cases e : b = a
    · subst e
      rw [List.getElem?_set_self hl] at h
      exact absurd (Option.some.inj h) hi
    · rw [List.getElem?_set_ne (Ne.symm e)] at h
      exact ⟨e, h⟩
  refine ⟨by simp [n.len], fun b z h => ?_, fun b z c h h1 h2 => ?_, fun b z h => ?_⟩
  · rw [List.length_set]
    rcases get b z h with ⟨rfl, rfl⟩ | ⟨_, g⟩
    · exact ⟨by omega, by omega⟩
    · exact n.le b z g
  · intro q
    obtain ⟨g1, g2⟩ := gh c q
    rcases get b z h with ⟨rfl, rfl⟩ | ⟨_, g⟩
    · omega
    · exact n.cl b z c g h1 h2 g2
  · rw [List.length_set]
    rcases get b z h with ⟨rfl, rfl⟩ | ⟨e, g⟩
    · constructor
      · intro e; omega
      · rintro (e | e)
        · omega
        · exact absurd rfl (gh _ e).1
    · rw [n.fix b z g]
      constructor
      · rintro (e | q)
        · exact .inl e
        · exact .inr (by rw [List.getElem?_set_ne (Ne.symm e)]; exact q)
      · rintro (e | q)
        · exact .inl e
        · exact .inr (gh b q).2
theorem nx_start (m : Nat) : NX (List.replicate m (-1)) (List.range (m + 1)) := by
  have get : ∀ a x, (List.range (m + 1))[a]? = some x → x = a ∧ a ≤ m := fun a x h => by
    obtain ⟨h1, h2⟩ := List.getElem?_eq_some_iff.1 h
    simp at h1 h2
    exact ⟨h2.symm, by omega⟩
  refine ⟨by simp, fun a x h => ?_, fun a x b h h1 h2 => ?_, fun a x h => ?_⟩
  · obtain ⟨rfl, h2⟩ := get a x h; simp; omega
  · obtain ⟨rfl, h3⟩ := get a x h; omega
  · obtain ⟨rfl, h3⟩ := get a x h
    simp only [List.length_replicate, true_iff]
    by_cases e : x = m
    · exact .inl e
    · exact .inr (by rw [List.getElem?_replicate, if_pos (by omega)])
structure FI (C : List SpV) (K : List Int) (i : Nat) (p e a : Nat) (H : List Int) : Prop where
  len : H.length + 1 = K.length
  get : ∀ (b : Nat) (h x : Int), H[b]? = some h → K[b]? = some x → h = hI C (i + 1) x ∨ (h = (i : Int) ∧ hI C (i + 1) x = -1 ∧ p ≤ b ∧ b < e)
  cl : ∀ (b : Nat), p ≤ b → b < a → b < e → H[b]? ≠ some (-1)
structure FD (C : List SpV) (K : List Int) (i : Nat) (H : List Int) : Prop where
  len : H.length + 1 = K.length
  get : ∀ (b : Nat) (h x : Int), H[b]? = some h → K[b]? = some x → h = hI C i x
theorem FD.start {C : List SpV} {K : List Int} {i : Nat} {H : List Int} (f : FD C K (i + 1) H) (p e : Nat) : FI C K i p e p H :=
  ⟨f.len, fun b h x h1 h2 => .inl (f.get b h x h1 h2), fun b h1 h2 => by omega⟩
theorem FD.zero {C : List SpV} {K : List Int} {m : Nat} (hm : m + 1 = K.length) : FD C K C.length (List.replicate m (-1)) :=
  ⟨by simp [hm], fun b h x h1 h2 => by
    rw [hI_len]
    rw [List.getElem?_replicate] at h1
    split at h1
    · exact (Option.some.inj h1).symm
    · cases h1⟩
section
variable {C : List SpV} {K : List Int} {i p e a : Nat} {H : List Int} {c : SpV}
theorem FI.more (f : FI C K i p e a H) {r : Nat} (hr : ∀ b, a ≤ b → b < r → H[b]? ≠ some (-1)) : FI C K i p e r H :=
  ⟨f.len, f.get, fun b h1 h2 h3 => by
    by_cases q : b < a
    · exact f.cl b h1 q h3
    · exact hr b (by omega) h2⟩
theorem FI.take (f : FI C K i p e a H) (k : CutsOf C K) (ho : H[a]? = some (-1)) (hp : p ≤ a) (he : a < e) : FI C K i p e (a + 1) (H.set a (i : Int)) := by
  have al := (List.getElem?_eq_some_iff.1 ho).1
  refine ⟨by simp [f.len], fun b h x h1 h2 => ?_, fun b h1 h2 h3 => ?_⟩
  · by_cases q : b = a
    · subst q
      rw [List.getElem?_set_self al] at h1
      cases h1
      rcases f.get b (-1) x ho h2 with g | ⟨g, _⟩
      · exact .inr ⟨rfl, g.symm, hp, he⟩
      · omega
    · rw [List.getElem?_set_ne (Ne.symm q)] at h1
      exact f.get b h x h1 h2
  · by_cases q : b = a
    · subst q
      rw [List.getElem?_set_self al]
      intro g; have := Option.some.inj g; omega
    · rw [List.getElem?_set_ne (Ne.symm q)]
      exact f.cl b h1 (by omega) h3
theorem FI.done (f : FI C K i p e a H) (k : CutsOf C K) (hc : C[i]? = some c) (hp : K[p]? = some c.fr) (hq : K[e]? = some c.to) (ha : e ≤ a) : FD C K i H := by
  refine ⟨f.len, fun b h x h1 h2 => ?_⟩
  rw [hI_step hc]
  have ip := k.inp (List.mem_of_getElem? hc) hp hq h2
  rcases f.get b h x h1 h2 with g | ⟨g1, g2, g3, g4⟩
  · by_cases z : hI C (i + 1) x = -1
    · rw [if_pos z]
      rw [z] at g
      subst g
      rw [if_neg]
      intro y
      obtain ⟨y1, y2⟩ := ip.1 y
      exact f.cl b y1 (by omega) y2 h1
    · rw [if_neg z]; exact g
  · rw [if_pos g2, if_pos (ip.2 ⟨g3, g4⟩)]; exact g1
theorem FI.full (f : FI C K i p e a H) (k : CutsOf C K) (hc : C[i]? = some c) (hp : K[p]? = some c.fr) (hq : K[e]? = some c.to) (hz : H.countP (fun z => decide (z = -1)) = 0) : FD C K 0 H := by
  refine ⟨f.len, fun b h x h1 h2 => ?_⟩
  have ip := k.inp (List.mem_of_getElem? hc) hp hq h2
  have hne : h ≠ -1 := fun q => by
    rw [List.countP_eq_zero] at hz
    exact hz h (List.mem_of_getElem? h1) (by simp [q])
  rcases f.get b h x h1 h2 with g | ⟨g1, g2, g3, g4⟩
  · rw [hI_done (i := i + 1) (by rw [← g]; exact hne)]; exact g
  · have : hI C i x = (i : Int) := by rw [hI_step hc, if_pos g2, if_pos (ip.2 ⟨g3, g4⟩)]
    rw [hI_done (i := i) (by rw [this]; omega), this]; exact g1
end
theorem count_set : ∀ {H : List Int} {a : Nat} {i : Int}, H[a]? = some (-1) → i ≠ -1 → H.countP (fun z => decide (z = -1)) = (H.set a i).countP (fun z => decide (z = -1)) + 1
  | [], a, i, h, _ => by simp at h
  | x :: H, 0, i, h, hi => by
    simp only [List.getElem?_cons_zero, Option.some.injEq] at h
    subst h
    simp [List.countP_cons, hi]
  | x :: H, a + 1, i, h, hi => by
    have := count_set (H := H) (a := a) (i := i) (by simpa using h) hi
    simp only [List.set_cons_succ, List.countP_cons, this]
    omega
/-! ### a sorted row, each number once -/
theorem get_bang {d : List Int} {i : Nat} (h : i < d.length) : d.toArray[i]! = d[i] := by simp [h]
theorem compact_asc {d : List Int} (h : d.Pairwise (· ≤ ·)) : (Lib.compact d).Pairwise (· < ·) := by
  unfold Lib.compact Lib.compactUpTo
  rw [List.pairwise_map]
  have h0 : ((List.range d.length).filter (Lib.keeps d.toArray)).Pairwise (· < ·) := (List.pairwise_lt_range (n := d.length)).filter _
  refine h0.imp_of_mem (fun {a b} ha hb hab => ?_)
  rw [List.mem_filter, List.mem_range] at ha hb
  have e1 := get_bang ha.1
  have e2 := get_bang hb.1
  have e3 : d.toArray[b - 1]! = d[b - 1] := get_bang (by omega)
  have hk := hb.2
  unfold Lib.keeps at hk
  rw [decide_eq_true_eq] at hk
  rcases hk with q | q
  · omega
  · rw [e2, e3] at q
    rw [e1, e2]
    have g := List.pairwise_iff_getElem.1 h
    have g1 := g (b - 1) b (by omega) hb.1 (by omega)
    by_cases x : a = b - 1
    · subst x; omega
    · have := g a (b - 1) ha.1 (by omega) (by omega); omega
theorem compact_mem {d : List Int} (x : Int) : x ∈ Lib.compact d ↔ x ∈ d := by
  unfold Lib.compact Lib.compactUpTo
  rw [List.mem_map]
  constructor
  · rintro ⟨j, hj, rfl⟩
    rw [List.mem_filter, List.mem_range] at hj
    rw [get_bang hj.1]
    exact List.getElem_mem hj.1
  · intro hx
    obtain ⟨j, hj, rfl⟩ := List.mem_iff_getElem.1 hx
    clear hx
    induction j with
    | zero => exact ⟨0, by rw [List.mem_filter, List.mem_range]; exact ⟨hj, by simp [Lib.keeps]⟩, get_bang hj⟩
    | succ j ih =>
      by_cases q : d[j + 1] = d[j]
      · obtain ⟨k, hk, e⟩ := ih (by omega)
        exact ⟨k, hk, by rw [e, q]⟩
      · refine ⟨j + 1, ?_, get_bang hj⟩
        rw [List.mem_filter, List.mem_range]
        refine ⟨hj, ?_⟩
        unfold Lib.keeps
        rw [decide_eq_true_eq]
        refine .inr ?_
        rw [get_bang hj, show j + 1 - 1 = j by omega, get_bang (by omega)]
        exact q
theorem compact_le (d : List Int) : (Lib.compact d).length ≤ d.length := by
  unfold Lib.compact Lib.compactUpTo
  rw [List.length_map]
  have := List.length_filter_le (Lib.keeps d.toArray) (List.range d.length)
  simpa using this
theorem asc_count {K : List Int} (h : K.Pairwise (· < ·)) {p : Nat} {x : Int} (hp : K[p]? = some x) : K.countP (fun y => decide (y < x)) = p := by
  induction K generalizing p with
  | nil => simp at hp
  | cons y K ih =>
    have a := List.pairwise_cons.1 h
    cases p with
    | zero =>
      simp only [List.getElem?_cons_zero, Option.some.injEq] at hp
      subst hp
      rw [List.countP_cons]
      have : K.countP (fun z => decide (z < y)) = 0 := List.countP_eq_zero.2 fun z hz => by have := a.1 z hz; simp; omega
      rw [this]
      simp
    | succ p =>
      have hx : K[p]? = some x := by simpa using hp
      have := a.1 x (List.mem_of_getElem? hx)
      rw [List.countP_cons, ih a.2 hx, if_pos (by simpa using this)]
def endsL (C : List SpV) : List Int := C.flatMap fun c => [c.fr, c.to]
def srtZ (l : List Int) : List Int := l.mergeSort fun x y => decide (x ≤ y)
theorem srtZ_asc (l : List Int) : (srtZ l).Pairwise (· ≤ ·) := by
  have := List.pairwise_mergeSort (le := fun x y : Int => decide (x ≤ y)) (fun a b c h1 h2 => by simp at *; omega) (fun a b => by simp; omega) l
  unfold srtZ
  simpa using this
theorem srtZ_mem (l : List Int) (x : Int) : x ∈ srtZ l ↔ x ∈ l := by unfold srtZ; exact List.mem_mergeSort
theorem srtZ_len (l : List Int) : (srtZ l).length = l.length := by unfold srtZ; exact List.length_mergeSort l
def cutsL (C : List SpV) : List Int := Lib.compact (srtZ (endsL C))
theorem cuts_of (C : List SpV) : CutsOf C (cutsL C) := ⟨compact_asc (srtZ_asc _), fun x => by
  unfold cutsL
  rw [compact_mem, srtZ_mem]
  unfold endsL
  simp only [List.mem_flatMap, List.mem_cons, List.not_mem_nil, or_false]⟩
theorem endsL_len (C : List SpV) : (endsL C).length = 2 * C.length := by
  unfold endsL
  induction C with
  | nil => rfl
  | cons c C ih => simp only [List.flatMap_cons, List.length_append, List.length_cons, List.length_nil, ih]; omega
theorem cuts_len (C : List SpV) : (cutsL C).length ≤ 2 * C.length := by
  unfold cutsL
  have := compact_le (srtZ (endsL C))
  rw [srtZ_len, endsL_len] at this
  exact this
theorem cuts_two {C : List SpV} {c : SpV} (hc : c ∈ C) (h : c.fr < c.to) : 2 ≤ (cutsL C).length := by
  obtain ⟨p, hp⟩ := List.mem_iff_getElem?.1 (((cuts_of C).mem c.fr).2 ⟨c, hc, .inl rfl⟩)
  obtain ⟨q, hq⟩ := List.mem_iff_getElem?.1 (((cuts_of C).mem c.to).2 ⟨c, hc, .inr rfl⟩)
  have := (asc_lt (cuts_of C).asc hp hq).1 h
  have := (List.getElem?_eq_some_iff.1 hq).1
  omega
end Go.Proofs.YtifendlpeebofaaGreatDoor
namespace Go.Proofs.YtifendlpeebofaaGreatDoor
open Go.RowKit Go.Shelf Go.Sort
abbrev iz (x : Int) : Value := .int .i64 x
def OwnZ (w : World) (base : Nat) (v : Value) (L : List Int) : Prop := OwnV w base 3 v (L.map iz)
theorem infoZ : (Tryz.prog.info? 3).map (fun i => (i.zero, i.size, i.bytes)) = some (some (.int .i64 0), 1, 8) := by kernel_rfl
theorem undZ : Tryz.prog.underlying 150 = some (.slice 3) := Tryz.underlying150
section
variable {w w' : World} {base : Nat} {v : Value} {L : List Int}
theorem OwnZ.keep (h : OwnZ w base v L) (hk : ∀ k, v.ownBlock = some k → w'.heap[k]? = w.heap[k]?) : OwnZ w' base v L := OwnV.keep h hk
theorem OwnZ.below (h : OwnZ w base v L) (hb : Below w.heap.size w w') : OwnZ w' base v L := OwnV.below h hb
theorem OwnZ.ge (h : OwnZ w base v L) : ∀ j, v.ownBlock = some j → base ≤ j ∧ ∃ c, w.heap[j]? = some (.cells c 3 (0, 0)) := OwnV.ge h
theorem OwnZ.lt (h : OwnZ w base v L) {k : Nat} (hk : v.ownBlock = some k) : k < w.heap.size := OwnV.lt h hk
theorem OwnZ.mono {b2 : Nat} (h : OwnZ w base v L) (hb : b2 ≤ base) : OwnZ w b2 v L := by
  refine ⟨h.1, ?_⟩
  rcases h.2 with hn | ⟨g, cap, cur, rfl, hbg, rest⟩
  · exact .inl hn
  · exact .inr ⟨g, cap, cur, rfl, Nat.le_trans hb hbg, rest⟩
theorem oz_nil (w : World) (base : Nat) : OwnZ w base (.slice none 0 0) [] := ⟨by simp, .inl ⟨rfl, rfl⟩⟩
theorem OwnZ.form (h : OwnZ w base v L) : ∃ a cap, v = .slice a L.length cap ∧ L.length ≤ cap := by
  obtain ⟨a, cap, e, hc, _⟩ := OwnV.open h
  rw [List.length_map] at e hc
  exact ⟨a, cap, e, hc⟩
theorem OwnZ.at (h : OwnZ w base v L) (hne : L ≠ []) : ∃ g cap, v = .slice (some ⟨g, 0, none⟩) L.length cap ∧ base ≤ g ∧ g < w.heap.size ∧ (∀ i x, L[i]? = some x → w.cell? ⟨g, i, none⟩ = some (iz x)) ∧ v.ownBlock = some g := by
  rcases h.2 with ⟨_, hn⟩ | ⟨g, cap, cur, rfl, hbg, hg, hnc, hcm, hcs, ht⟩
  · rw [List.length_map] at hn
    exact absurd (List.eq_nil_of_length_eq_zero hn) hne
  · refine ⟨g, cap, by rw [List.length_map], hbg, (Array.getElem?_eq_some_iff.1 hg).1, fun i x hx => ?_, rfl⟩
    rw [cell_of_row w g i cur 3 (0, 0) hg]
    have hj : (L.map iz)[i]? = some (iz x) := by rw [List.getElem?_map, hx]; rfl
    rw [← ht, List.getElem?_take] at hj
    split at hj
    · simpa using hj
    · cases hj
theorem OwnZ.set (h : OwnZ w base v L) {i : Nat} (hi : i < L.length) (x : Int) : ∃ g cap, v = .slice (some ⟨g, 0, none⟩) L.length cap ∧ g < w.heap.size ∧ (Instr.storeAt 3 (.pointer (some ⟨g, i, none⟩)) (iz x)).run Tryz.prog w = .ok () (w.setCell ⟨g, i, none⟩ (iz x)) ∧ OwnZ (w.setCell ⟨g, i, none⟩ (iz x)) base v (L.set i x) ∧ Tch (fun j => v.ownBlock = some j) w (w.setCell ⟨g, i, none⟩ (iz x)) := by
  rcases h.2 with ⟨_, hn⟩ | ⟨g, cap, cur, rfl, hbg, hg, hnc, hcm, hcs, ht⟩
  · rw [List.length_map] at hn; omega
  · rw [List.length_map] at hnc ht
    have hic : i < cur.size := by omega
    obtain ⟨y, hy⟩ : ∃ y, cur[i]? = some y := ⟨_, Array.getElem?_eq_getElem hic⟩
    have hc : w.cell? ⟨g, i, none⟩ = some (iz L[i]) := by
      have hj : (L.map iz)[i]? = some (iz L[i]) := by rw [List.getElem?_map, List.getElem?_eq_getElem hi]; rfl
      rw [← ht, List.getElem?_take] at hj
      rw [cell_of_row w g i cur 3 (0, 0) hg]
      split at hj
      · simpa using hj
      · cases hj
    have hf := frozen_of_row w g i _ _ hg
    have hh := Go.heap_setCell_same w g i _ _ (iz x) hg
    have ho : ∀ j, j ≠ g → (w.setCell ⟨g, i, none⟩ (iz x)).heap[j]? = w.heap[j]? := fun j hj => Below.heap_setCell _ _ _ _ hj
    refine ⟨g, cap, by rw [List.length_map], (Array.getElem?_eq_some_iff.1 hg).1, by go_simp, ⟨by simp, .inr ⟨g, cap, _, by simp, hbg, hh, by simp; omega, hcm, by simpa using hcs, ?_⟩⟩, ⟨rfl, rfl, rfl, by simp [World.setCell], fun j hj hn => ho j (fun e => hn (by rw [e]; rfl))⟩⟩
    rw [List.length_map, List.length_set, List.map_set]
    rw [Array.toList_setIfInBounds, List.take_set, ht]
theorem run_bsZ1 (x : Int) (w : World) : (Instr.buildSlice 150 1 #[(0, .int .i64 x)]).run Tryz.prog w = .ok (.slice (some ⟨w.heap.size, 0, none⟩) 1 1) (w.alloc (.cells #[.int .i64 x] 3)) := by
  obtain ⟨ie, hi, hz0, hs, hby⟩ := info_parts infoZ
  refine run_buildSlice w 150 3 1 _ #[.int .i64 x] ie _ undZ hi hz0 (by rw [hs]; decide) (by rw [hs]; decide) ?_
  rw [hs]
  have := Go.Great.fill_whole (s := 1) (by decide) [.int .i64 x] ((Array.range (1 * 1)).map ((Value.int .i64 0).cells[· % (Value.int .i64 0).cells.size]!)) (by intro u hu; simp at hu; subst hu; rfl) (by simp)
  simpa [Value.cells] using this
theorem run_bsZ2 (x y : Int) (w : World) : (Instr.buildSlice 150 2 #[(0, .int .i64 x), (1, .int .i64 y)]).run Tryz.prog w = .ok (.slice (some ⟨w.heap.size, 0, none⟩) 2 2) (w.alloc (.cells #[.int .i64 x, .int .i64 y] 3)) := by
  obtain ⟨ie, hi, hz0, hs, hby⟩ := info_parts infoZ
  refine run_buildSlice w 150 3 2 _ #[.int .i64 x, .int .i64 y] ie _ undZ hi hz0 (by rw [hs]; decide) (by rw [hs]; decide) ?_
  rw [hs]
  have := Go.Great.fill_whole (s := 1) (by decide) [.int .i64 x, .int .i64 y] ((Array.range (2 * 1)).map ((Value.int .i64 0).cells[· % (Value.int .i64 0).cells.size]!)) (by intro u hu; simp at hu; rcases hu with rfl | rfl <;> rfl) (by simp)
  simpa [Value.cells] using this
theorem valsZ_new (w : World) (M : List Int) : Vals (w.alloc (.cells (M.map iz).toArray 3)) (some ⟨w.heap.size, 0, none⟩) (M.map iz) :=
  .inr ⟨_, _, rfl, fun j u hj => by
    rw [Nat.zero_add, cell_of_row _ _ _ _ _ _ (heap_alloc_new _ _)]
    simpa using hj⟩
theorem OwnZ.app (h : OwnZ w base v L) (hb : base ≤ w.heap.size) (M : List Int) {bs : Sem Value} (hbs : bs.run Tryz.prog w = .ok (.slice (some ⟨w.heap.size, 0, none⟩) M.length M.length) (w.alloc (.cells (M.map iz).toArray 3))) (hn : L.length + M.length ≤ 2000000000000) :
    ∃ sv w1 v2 w2, bs.run Tryz.prog w = .ok sv w1 ∧ Below w.heap.size w w1 ∧ (Builtin.append_ #[150, 150] 150 #[v, sv]).run Tryz.prog w1 = .ok v2 w2 ∧ OwnZ w2 base v2 (L ++ M) ∧ Tch (fun j => v.ownBlock = some j) w w2 ∧ (v2.ownBlock = v.ownBlock ∨ ∀ j, v2.ownBlock = some j → w.heap.size ≤ j) := by
  have b1 : Below w.heap.size w (w.alloc (.cells (M.map iz).toArray 3)) := (Below.refl _ _).alloc (Nat.le_refl _) _
  have v1 := valsZ_new w M
  generalize w.alloc (.cells (M.map iz).toArray 3) = w1 at *
  obtain ⟨v2, w2, e2, o2, g2, q2⟩ := run_appV 150 3 8 (.int .i64 0) undZ infoZ (.inl rfl) rfl w1 base 150 v (L.map iz) _ (M.map iz) M.length (OwnV.below h b1) v1 (fun u hu => by obtain ⟨x, _, rfl⟩ := List.mem_map.1 hu; rfl) (by simpa using hn) (Nat.le_trans hb b1.size)
  rw [List.length_map] at e2
  have t2 : Tch (fun j => v.ownBlock = some j) w1 w2 := ⟨g2.os, g2.tape, g2.output, g2.size, fun j hj hn => g2.block j hj (fun e => hn e.symm)⟩
  refine ⟨_, w1, v2, w2, hbs, b1, e2, ?_, (tch_below b1 _).trans t2, q2.imp id (fun q j hj => by rw [q] at hj; injection hj with hj; have := b1.size; omega)⟩
  unfold OwnZ
  rw [List.map_append]
  exact o2
/-! ### the library -/
theorem OwnZ.holds (h : OwnZ w base v L) (hne : L ≠ []) : ∃ g cap, v = .slice (some ⟨g, 0, none⟩) L.length cap ∧ base ≤ g ∧ g < w.heap.size ∧ L.length ≤ cap ∧ cap ≤ maxLen ∧ Holds iz w g 0 L.toArray ∧ ∃ cur, w.heap[g]? = some (.cells cur 3 (0, 0)) ∧ cur.size = cap * 1 := by
  have h' : w.ownsRow base 3 1 v L.length (L.map iz) := by have := h; unfold OwnZ OwnV at this; rw [List.length_map] at this; exact this
  have hv : v ≠ .slice none 0 0 := fun e => by
    rcases h'.2 with ⟨_, hn⟩ | ⟨g, cap, cur, e2, _⟩
    · exact hne (List.eq_nil_of_length_eq_zero hn)
    · rw [e] at e2; cases e2
  obtain ⟨g, cap, e, hb, hlt, hn, hm, _, hH⟩ := Lib.holds_of_ownsRow h' hv
  refine ⟨g, cap, e, hb, hlt, hn, hm, hH, ?_⟩
  rcases h'.2 with ⟨e0, _⟩ | ⟨g', cap', cur, e2, _, hg, _, _, hs, _⟩
  · exact absurd e0 hv
  · rw [e] at e2; cases e2
    exact ⟨cur, hg, hs⟩
theorem OwnZ.sort (h : OwnZ w base v L) (hne : L ≠ []) (hn : L.length ≤ 2000000000000) : Calls Tryz.prog 108 #[v] w fun e w' => e = .returned (.tuple #[]) ∧ OwnZ w' base v (srtZ L) ∧ Tch (fun j => v.ownBlock = some j) w w' := by
  obtain ⟨g, cap, rfl, hb, hlt, hnc, hcm, hH, cur, hg, hs⟩ := h.holds hne
  have c := Any.slices_Sort_int sortZ g 0 cap L w hH hlt (by omega)
  change Calls Tryz.prog 108 _ _ _ at c
  refine c.mono ?_
  rintro e w' ⟨he, n, os, rfl⟩
  refine ⟨he, ?_, ?_⟩
  · have := ownsRow_sortedI (ts := srtZ L) (ss := L) (os := os) (n := n) (srtZ_len L) hb hg hnc hcm hs
    unfold OwnZ OwnV
    rw [List.length_map, srtZ_len]
    exact this
  · have gb := grownBy_sortedI (w := w) (g := g) (n := n) (os := os) (srtZ L).toArray
    exact ⟨gb.os, gb.tape, gb.output, gb.size, fun j hj hn => gb.block j hj (fun e => hn (by cases e; rfl))⟩
theorem OwnZ.compact (h : OwnZ w base v L) (hne : L ≠ []) (hn : L.length ≤ 2000000000000) : Calls Tryz.prog 109 #[v] w fun e w' => ∃ v', e = .returned v' ∧ OwnZ w' base v' (Lib.compact L) ∧ v'.ownBlock = v.ownBlock ∧ Tch (fun j => v.ownBlock = some j) w w' := by
  obtain ⟨g, cap, rfl, hb, hlt, hnc, hcm, hH, cur, hg, hs⟩ := h.holds hne
  have c := Any.slices_Compact_int compactZ g 0 cap L w hH (by omega) hnc
  change Calls Tryz.prog 109 _ _ _ at c
  refine c.mono ?_
  rintro e w' ⟨he, q, rfl⟩
  have h' : w.ownsRow base 3 1 (.slice (some ⟨g, 0, none⟩) L.length cap) L.length (L.map iz) := by have := h; unfold OwnZ OwnV at this; rw [List.length_map] at this; exact this
  have hl := compact_le L
  have o := Lib.ownsRow_putRow (q := q) (k := (Lib.compact L).length) (ys := Lib.compact L ++ List.replicate (L.length - (Lib.compact L).length) 0) h' (by simp; omega) hl
  rw [List.take_left] at o
  refine ⟨_, he, ?_, rfl, ?_⟩
  · unfold OwnZ OwnV
    rw [List.length_map]
    exact o
  · have gb := grownBy_sortedI (w := w) (g := g) (n := q) (os := #[]) (Lib.compact L ++ List.replicate (L.length - (Lib.compact L).length) 0).toArray
    have e0 : ∀ W : World, grow W #[] = W := fun W => by simp [grow]
    rw [e0] at gb
    exact ⟨gb.os, gb.tape, gb.output, gb.size, fun j hj hn => gb.block j hj (fun e => hn (by cases e; rfl))⟩
theorem OwnZ.search (h : OwnZ w base v L) (hs : L.Pairwise (· < ·)) (hn : L.length ≤ 2000000000000) {p : Nat} {x : Int} (hp : L[p]? = some x) : Calls Tryz.prog 112 #[v, iz x] w fun e w' => ∃ b, e = .returned (.tuple #[.int .i64 (p : Int), .bool b]) ∧ ∃ q, w' = w.drewN q := by
  have hne : L ≠ [] := fun e => by rw [e] at hp; simp at hp
  obtain ⟨g, cap, rfl, hb, hlt, hc, _⟩ := h.at hne
  have c := Any.slices_BinarySearch_int searchZ g 0 L.length cap L x w (Nat.le_refl _) (by omega) (fun j hj => by
    rw [Nat.zero_add, List.getD_eq_getElem?_getD, List.getElem?_eq_getElem hj]
    exact hc j _ (List.getElem?_eq_getElem hj)) (by rw [List.take_length]; exact hs.imp (fun h => by omega))
  change Calls Tryz.prog 112 _ _ _ at c
  refine c.mono ?_
  rintro e w' ⟨he, q⟩
  rw [List.take_length, asc_count hs hp] at he
  exact ⟨_, he, q⟩
end
end Go.Proofs.YtifendlpeebofaaGreatDoor
