import Derived.Test.YtldlljobofnmmabDoorRgd
import Derived.Test.YtldlljobofnmmabDoorGt
namespace Go.Proofs.YtldlljobofnmmabDoor
open Go.RowKit
set_option linter.unusedVariables false
set_option linter.unusedSimpArgs false

set_option maxRecDepth 100000 in
set_option maxHeartbeats 2000000 in
theorem with_nil (a ta : Option Addr) (n c tc : Nat) (w : World) : Calls Tryd.prog 32 #[.slice a n c, .slice ta 0 tc] w fun e w' => e = .returned (.slice a n c) ∧ w' = w := by
  go_enter Tryd.func32, Tryd.ntmps32
  go_wp2
  go_ret
  exact ⟨rfl, rfl⟩
/-- A row in a world that grew beside it. -/
theorem RowT.At.grown {κ : Type} {R : RowT κ} {w w' : World} {a : Option Addr} {L : List κ} {row : Option Nat} (h : R.At w a L) (g : w.grownBy w' row) (hne : ∀ b o, a = some ⟨b, o, none⟩ → some b ≠ row) : R.At w' a L := h.keepB g.size (fun b o e hl => g.block b hl (hne b o e))
theorem RowT.Bx.grown {κ : Type} {R : RowT κ} {w w' : World} {b : Nat} {x : κ} {row : Option Nat} (h : R.Bx w b x) (g : w.grownBy w' row) (hne : some b ≠ row) : R.Bx w' b x := (g.block b (Array.getElem?_eq_some_iff.1 h).1 hne).trans h
theorem RowT.Own.form {κ : Type} {R : RowT κ} {w : World} {base : Nat} {v : Value} {L : List κ} (h : R.Own w base v L) : ∃ a c, v = .slice a L.length c := by
  rcases h.2 with ⟨e, hn⟩ | ⟨g, cap, cur, e, _⟩
  · exact ⟨none, 0, by rw [e, hn]⟩
  · exact ⟨_, cap, e⟩
/-- append(append(l, piece...), x), in both orders. -/
theorem app_two {w : World} {base bx : Nat} {u : Value} {l : List EnV} {t : Nat × EnV} (ow : RN.Own w base u l) (bx0 : RD.Bx w bx t) (hbx : u.ownBlock ≠ some bx) {pa : Option Addr} {pc : Nat} {M : List EnV} (hp : RN.At w pa M) (pok : ∀ x ∈ M, x.ok) (ht : RD.ok t) (hl : l.length + M.length + 1 ≤ 2500000000000) (hbase : base ≤ w.heap.size) :
    ∃ v1 sv1 u1 v2 sv2 u2 w1 w2 w3 y1 y2 y3, (Builtin.append_ #[44, 44] 44 #[u, .slice pa M.length pc]).run Tryd.prog w = .ok v1 w1 ∧ w1.rangeAt bx 0 (sdC t) ∧ (Instr.buildSlice 44 1 #[(0, t.2.a)]).run Tryd.prog w1 = .ok sv1 w2 ∧ w2.rangeAt bx 0 (sdC t) ∧ (Builtin.append_ #[44, 44] 44 #[v1, sv1]).run Tryd.prog w2 = .ok u1 w3 ∧ RD.Bx w3 bx t ∧
      (Instr.buildSlice 44 1 #[(0, t.2.a)]).run Tryd.prog w = .ok sv2 y1 ∧ y1.rangeAt bx 0 (sdC t) ∧ (Builtin.append_ #[44, 44] 44 #[u, .slice pa M.length pc]).run Tryd.prog y1 = .ok v2 y2 ∧ y2.rangeAt bx 0 (sdC t) ∧ (Builtin.append_ #[44, 44] 44 #[v2, sv2]).run Tryd.prog y2 = .ok u2 y3 ∧ RD.Bx y3 bx t ∧
      (RN.Own w3 base u1 (l ++ M ++ [t.2]) ∧ Below base w w3) ∧ (RN.Own y3 base u2 (l ++ M ++ [t.2]) ∧ Below base w y3) := by
  have lb := (Array.getElem?_eq_some_iff.1 bx0).1
  -- first the piece, then the one
  obtain ⟨v1, w1, e1, o1, g1, q1⟩ := RowT.run_app RN_is w base u l pa M pc ow hp pok (by unfold maxLen; omega) (by show _ * 80 ≤ _; omega) hbase
  have bx1 := bx0.grown g1 (fun e => hbx e.symm)
  have B1 : Below base w w1 := (Below.refl base w).grown g1 hbase (fun k hk => (ow.cells hk).1)
  obtain ⟨sv1, w2, u1, w3, e2, e3, o3, b2, z2, g3, q3⟩ := RowT.run_push RN_is w1 base v1 (l ++ M) t.2 o1 ht.1 (by rw [List.length_append]; unfold maxLen; omega) (by rw [List.length_append]; show _ * 80 ≤ _; omega) (Nat.le_trans hbase B1.size)
  have bx2 := bx1.below b2
  have n1 : v1.ownBlock ≠ some bx := fun e => by
    rcases q1 with q | q
    · rw [q] at e; exact hbx e
    · rw [q] at e; injection e with e; omega
  have bx3 := bx2.grown g3 (fun e => n1 e.symm)
  have B3 : Below base w w3 := (B1.trans (b2.mono (Nat.le_trans hbase B1.size))).grown g3 (Nat.le_trans hbase (Nat.le_trans B1.size b2.size)) (fun k hk => (o1.cells hk).1)
  -- first the one, then the piece
  have by1 : Below w.heap.size w (w.alloc (.cells (RN.c t.2).toArray RN.e)) := (Below.refl _ _).alloc (Nat.le_refl _) _
  have hlit := RowT.lit RN w t.2 RN.e
  have ebs := RowT.run_bs RN_is t.2 ht.1 w
  have zy : (w.alloc (.cells (RN.c t.2).toArray RN.e)).heap.size = w.heap.size + 1 := by simp
  generalize w.alloc (.cells (RN.c t.2).toArray RN.e) = y1 at *
  have bxy1 := bx0.below by1
  obtain ⟨v2, y2, f1, p1, k1, r1⟩ := RowT.run_app RN_is y1 base u l pa M pc (ow.below by1) (hp.below by1) pok (by unfold maxLen; omega) (by show _ * 80 ≤ _; omega) (by omega)
  have nu : ∀ k, u.ownBlock = some k → k < w.heap.size := fun k hk => ow.lt hk
  have bxy2 := bxy1.grown k1 (fun e => hbx e.symm)
  have hlit2 := hlit.grown k1 (fun b o e eu => by cases e; have := nu _ eu.symm; omega)
  have BY2 : Below base w y2 := (by1.mono hbase).grown k1 (by omega) (fun k hk => (ow.cells hk).1)
  obtain ⟨u2, y3, f3, p3, k3, r3⟩ := RowT.run_app RN_is y2 base v2 (l ++ M) _ [t.2] 1 p1 hlit2 (fun x hx => by rw [List.mem_singleton.1 hx]; exact ht.1) (by rw [List.length_append]; unfold maxLen; simp; omega) (by rw [List.length_append]; show _ * 80 ≤ _; simp; omega) (Nat.le_trans hbase BY2.size)
  have n2 : v2.ownBlock ≠ some bx := fun e => by
    rcases r1 with q | q
    · rw [q] at e; exact hbx e
    · rw [q] at e; injection e with e; omega
  have bxy3 := bxy2.grown k3 (fun e => n2 e.symm)
  have BY3 : Below base w y3 := BY2.grown k3 (Nat.le_trans hbase BY2.size) (fun k hk => (p1.cells hk).1)
  exact ⟨v1, sv1, u1, v2, _, u2, w1, w2, w3, y1, y2, y3, e1, bx1.rng, e2, bx2.rng, e3, bx3, ebs, bxy1.rng, f1, bxy2.rng, f3, bxy3, ⟨o3, B3⟩, ⟨p3, BY3⟩⟩
set_option maxRecDepth 100000 in
set_option maxHeartbeats 4000000 in
/-- A list with those that were taken back where they stood. -/
theorem with_any {w : World} {a : Option Addr} {c : Nat} {L : List EnV} (hL : RN.At w a L) (hc : L.length ≤ c) (ok : ∀ x ∈ L, x.ok) {ta : Option Addr} {tc : Nat} {T : List (Nat × EnV)} (hT : RD.At w ta T) (okT : ∀ t ∈ T, RD.ok t) (hW : Rg.WiOk [] L T) (hne : T ≠ []) (hn : L.length + T.length ≤ 2500000000000) :
    Calls Tryd.prog 32 #[.slice a L.length c, .slice ta T.length tc] w fun e w' => ∃ v, e = .returned v ∧ RN.Own w' w.heap.size v (Rg.wi [] L T) ∧ Below w.heap.size w w' := by
  have hm0 : 0 < T.length := List.length_pos_iff.2 hne
  obtain ⟨n, hnn⟩ : ∃ n, L.length = n := ⟨_, rfl⟩
  obtain ⟨m, hmm⟩ : ∃ m, T.length = m := ⟨_, rfl⟩
  have HN := hidMk hnn
  have HM := hidMk hmm
  rw [hnn] at hn hc ⊢
  rw [hmm] at hn hm0 ⊢
  obtain ⟨d, hd⟩ : ∃ d, n + m = d := ⟨_, rfl⟩
  have HD := hidMk hd
  have HL := hidMk hL
  have HT := hidMk hT
  have HK := hidMk ok
  have HKT := hidMk okT
  have HO := hidMk hW
  obtain ⟨G, hG⟩ : ∃ G, Rg.wi [] L T = G := ⟨_, rfl⟩
  have HG := hidMk hG
  rw [hG]
  clear hL hT ok okT hne hW hnn hmm hd hG
  obtain ⟨w1, em, om, bm⟩ := RowT.make0 RN_is w w.heap.size d (by show d * 80 ≤ _; have := HD.out; omega) (by have := HD.out; omega) (Nat.le_refl _)
  have EM := hidMk em
  have HI0 : Hid (RN.Own w1 w.heap.size (.slice (some ⟨w.heap.size, 0, none⟩) 0 d) [] ∧ Below w.heap.size w w1) := ⟨om, bm⟩
  clear em om bm
  go_enter Tryd.func32, Tryd.ntmps32
  have hm1 : ((m : Int) == 0) = false := by simp; omega
  go_upto_region 3 with fail
  refine wi3 (la := a) (n := n) (lc := c) (ta := ta) (m := m) (tc := tc) (d := d) (w2 := w1) _ w _ rfl rfl rfl HD.out (by have := HD.out; omega) EM.out ?_
  intro a' w' hw' ha
  subst ha
  obtain rfl : w1 = w' := hw'.symm
  simp only [Act.put, List.setIfInBounds_toArray, List.set_cons_zero, List.set_cons_succ]
  clear EM hm1
  go_wp2
  go_loopw [0, 5, 21] (fun v0 v5 v21 wr => ∃ (j : Nat) (l r : List EnV) (ra : Option Addr) (rn rc : Nat), v21 = .int .i64 (j : Int) ∧ j ≤ m ∧ v0 = .slice ra rn rc ∧ Hid (RN.Own wr w.heap.size v5 l ∧ Below w.heap.size w wr ∧ RN.At w ra r ∧ r.length = rn ∧ rn ≤ rc ∧ (∀ x ∈ r, x.ok) ∧ Rg.wi l r (T.drop j) = G ∧ Rg.WiOk l r (T.drop j) ∧ l.length + rn + m = n + m + j)) (fun _ _ v21 wr => m - (match v21 with | .int _ i => i.toNat | _ => 0))
  case atStart => exact ⟨0, [], L, a, n, c, rfl, Nat.zero_le _, rfl, HI0.out.1, HI0.out.2, HL.out, HN.out, hc, HK.out, by rw [List.drop_zero]; exact HG.out, by rw [List.drop_zero]; exact HO.out, by simp⟩
  case round =>
    clear HI0
    obtain ⟨j, l, r, ra, rn, rc, rfl, hjm, rfl, HI⟩ := hrel
    by_cases hj : j < m
    · obtain ⟨t, htj⟩ : ∃ o, T[j]? = some o := ⟨_, List.getElem?_eq_getElem (by rw [HM.out]; exact hj)⟩
      have ht := HKT.out t (List.mem_of_getElem? htj)
      obtain ⟨tb, to, rfl, lb, hr⟩ := HT.out.at htj
      have dc := drop_cons htj
      obtain ⟨ow, bel, rat, hrn, hrc, rok, wi, wok, sz⟩ := HI.out
      rw [dc] at wi wok
      obtain ⟨k1, k2, k3⟩ : l.length ≤ t.1 ∧ t.1 - l.length ≤ r.length ∧ Rg.WiOk (l ++ r.take (t.1 - l.length) ++ [t.2]) (r.drop (t.1 - l.length)) (T.drop (j + 1)) := by
        cases wok with
        | cons a b c => exact ⟨a, b, c⟩
      obtain ⟨dd, hdd⟩ : ∃ dd, t.1 - l.length = dd := ⟨_, rfl⟩
      have wi2 : Rg.wi (l ++ r.take (t.1 - l.length) ++ [t.2]) (r.drop (t.1 - l.length)) (T.drop (j + 1)) = G := wi
      rw [hdd] at k2 k3 wi2
      have zb := bel.size
      go_upto_region 6 with fail
      refine wi6 (tb := tb) (to := to) (m := m) (tc := tc) (j := j) (t := t) _ wr _ rfl rfl rfl ht hj (by omega) (rangeAt_keep hr (bel.block _ lb)) ?_
      intro a' w2 hw2 ha
      subst ha
      simp only [Act.put, List.setIfInBounds_toArray, List.set_cons_zero, List.set_cons_succ]
      obtain ⟨bx2, b2⟩ := RowT.bx_is RD wr t
      rw [show wr.alloc (.cells (RD.c t).toArray RD.e) = w2 from hw2.symm] at bx2 b2
      clear hw2
      have bel2 := bel.trans (b2.mono zb)
      have ow2 := ow.below b2
      obtain ⟨la, lc, e5⟩ := ow.form
      obtain ⟨ln, hln⟩ : ∃ ln, l.length = ln := ⟨_, rfl⟩
      rw [hln] at e5
      have hld : ln + dd = t.1 := by omega
      have ht2 := ht.2
      have E5 := hidMk e5
      have HLD := hidMk hld
      go_upto_region 7 with fail
      rw [E5.out]
      refine wi7 (bx := wr.heap.size) (la := la) (ln := ln) (lc := lc) (d := dd) (t := t) _ w2 _ rfl rfl rfl bx2.rng HLD.out (by omega) ?_
      intro a' w3 hw3 ha
      subst ha
      obtain rfl : w2 = w3 := hw3.symm
      simp only [Act.put, List.setIfInBounds_toArray, List.set_cons_zero, List.set_cons_succ]
      have bx2d : RD.Bx w2.drew wr.heap.size t := bx2
      have ptk : (r.take dd).length = dd := by rw [List.length_take]; omega
      have SL := hidMk (fun W => RowT.sl_upto RN_is ra (n := rn) (c := rc) (m := dd) (by omega) W)
      rw [E5.out] at ow2
      have hub : ∀ k, (Value.slice la ln lc).ownBlock = some k → w.heap.size ≤ k ∧ k < wr.heap.size := fun k hk => by rw [← E5.out] at hk; exact ⟨(ow.cells hk).1, ow.lt hk⟩
      obtain ⟨v1, sv1, u1, v2, sv2, u2, x1, x2, x3, y1, y2, y3, e1, s1, e2, s2, e3, bx3, f1, r1, f2, r2, f3, bxy3, F1, F2⟩ := app_two (w := w2.drew) (base := w.heap.size) (bx := wr.heap.size) (u := .slice la ln lc) (l := l) (t := t) (pa := ra) (pc := rc) (M := r.take dd) ow2 bx2d (fun e => by have := (hub _ e).2; omega) ((rat.below bel2).take dd) (fun x hx => rok x (List.mem_of_mem_take hx)) ht (by rw [ptk]; omega) bel2.size
      rw [ptk] at e1 f2
      obtain ⟨pa, pc, es, hp, hpc⟩ := RowT.sl_from (c := rc) RN_is rat (by omega) (show dd ≤ r.length by omega)
      rw [hrn] at es hpc
      have ES := hidMk es
      have NX : ∀ u' W, RN.Own W w.heap.size u' (l ++ r.take dd ++ [t.2]) ∧ Below w.heap.size w2.drew W → Hid (RN.Own W w.heap.size u' (l ++ r.take dd ++ [t.2]) ∧ Below w.heap.size w W ∧ RN.At w pa (r.drop dd) ∧ (r.drop dd).length = rn - dd ∧ rn - dd ≤ pc ∧ (∀ x ∈ r.drop dd, x.ok) ∧ Rg.wi (l ++ r.take dd ++ [t.2]) (r.drop dd) (T.drop (j + 1)) = G ∧ Rg.WiOk (l ++ r.take dd ++ [t.2]) (r.drop dd) (T.drop (j + 1)) ∧ (l ++ r.take dd ++ [t.2]).length + (rn - dd) + m = n + m + (j + 1)) := fun u' W h => ⟨h.1, bel2.drew.trans h.2, hp, by rw [List.length_drop, hrn], hpc, fun x hx => rok x (List.mem_of_mem_drop hx), wi2, k3, by rw [List.length_append, List.length_append, ptk]; simp; omega⟩
      have N1 := NX _ _ F1
      have N2 := NX _ _ F2
      have HE1 := hidMk (And.intro e1 (And.intro e2 e3))
      have HE2 := hidMk (And.intro f1 (And.intro f2 f3))
      have HS1 := hidMk (And.intro s1 (And.intro s2 bx3))
      have HS2 := hidMk (And.intro r1 (And.intro r2 bxy3))
      clear HI ow rat rok wi wok k3 wi2 NX F1 F2 e1 e2 e3 f1 f2 f3 s1 s2 bx3 r1 r2 bxy3 es hp hpc E5 HLD hub ow2 dc htj hr ptk
      go_upto_region 8 with fail
      refine wi8 (bx := wr.heap.size) (d := dd) (t := t) (pv := .slice ra dd rc) (v1 := v1) (sv1 := sv1) (u1 := u1) (v2 := v2) (sv2 := sv2) (u2 := u2) (w1 := x1) (w2 := x2) (w3 := x3) (y1 := y1) (y2 := y2) (y3 := y3) _ w2 _ rfl rfl rfl rfl rfl ht bx2d.rng SL.out HE1.out.1 HS1.out.1 HE1.out.2.1 HS1.out.2.1 HE1.out.2.2 HS1.out.2.2.rng HE2.out.1 HS2.out.1 HE2.out.2.1 HS2.out.2.1 HE2.out.2.2 HS2.out.2.2.rng ?_ ?_
      · intro a' w4 hw4 ha
        subst ha
        obtain rfl : x3 = w4 := hw4.symm
        simp only [Act.put, List.setIfInBounds_toArray, List.set_cons_zero, List.set_cons_succ]
        clear HE1 HE2 HS1 HS2 N2
        go_upto_region 9 with fail
        refine wi9 (d := dd) (pv := .slice pa (rn - dd) pc) _ x3 _ rfl rfl rfl (ES.out x3) ?_
        intro a' w4 hw4 ha
        subst ha
        obtain rfl : x3 = w4 := hw4.symm
        simp only [Act.put, List.setIfInBounds_toArray, List.set_cons_zero, List.set_cons_succ]
        clear ES SL
        go_wp2
        rw [show ((j : Int) + 1) = ((j + 1 : Nat) : Int) by omega]
        refine ⟨⟨j + 1, _, _, pa, rn - dd, pc, rfl, hj, rfl, N1⟩, ?_⟩
        show m - ((j + 1 : Nat) : Int).toNat < m - (j : Int).toNat
        omega
      · intro a' w4 hw4 ha
        subst ha
        obtain rfl : y3 = w4 := hw4.symm
        simp only [Act.put, List.setIfInBounds_toArray, List.set_cons_zero, List.set_cons_succ]
        clear HE1 HE2 HS1 HS2 N1
        go_upto_region 9 with fail
        refine wi9 (d := dd) (pv := .slice pa (rn - dd) pc) _ y3 _ rfl rfl rfl (ES.out y3) ?_
        intro a' w4 hw4 ha
        subst ha
        obtain rfl : y3 = w4 := hw4.symm
        simp only [Act.put, List.setIfInBounds_toArray, List.set_cons_zero, List.set_cons_succ]
        clear ES SL
        go_wp2
        rw [show ((j : Int) + 1) = ((j + 1 : Nat) : Int) by omega]
        refine ⟨⟨j + 1, _, _, pa, rn - dd, pc, rfl, hj, rfl, N2⟩, ?_⟩
        show m - ((j + 1 : Nat) : Int).toNat < m - (j : Int).toNat
        omega
    · obtain rfl : m = j := by omega
      obtain ⟨ow, bel, rat, hrn, hrc, rok, wi, wok, sz⟩ := HI.out
      rw [show T.drop m = [] from List.drop_of_length_le (by rw [HM.out]; omega)] at wi
      have wi2 : l ++ r = G := wi
      obtain ⟨u2, w3, e3, o3, g3, q3⟩ := RowT.run_app RN_is wr w.heap.size _ l ra r rc ow (rat.below bel) rok (by rw [hrn]; unfold maxLen; omega) (by rw [hrn]; show _ * 80 ≤ _; omega) bel.size
      rw [hrn] at e3
      rw [wi2] at o3
      have bel3 : Below w.heap.size w w3 := bel.grown g3 bel.size (fun k hk => (ow.cells hk).1)
      obtain ⟨la, lc, e5⟩ := ow.form
      obtain ⟨ln, hln⟩ : ∃ ln, l.length = ln := ⟨_, rfl⟩
      rw [hln] at e5
      rw [e5] at e3
      have E5 := hidMk e5
      have E3 := hidMk e3
      have FN : Hid (RN.Own w3 w.heap.size u2 G ∧ Below w.heap.size w w3) := ⟨o3, bel3⟩
      clear HI ow rat rok wi wok wi2 e3 o3 g3 q3 bel3 e5 hln
      have EX := E5.out
      subst EX
      go_wp2_with (first
        | (refine wpList_run rfl (exec_append (xv := .slice la ln lc) (yv := .slice ra rn rc) (v := u2) (w2 := w3) rfl rfl rfl E3.out) ?_)
        | fail)
      go_ret
      exact ⟨_, rfl, FN.out.1, FN.out.2⟩
end Go.Proofs.YtldlljobofnmmabDoor
