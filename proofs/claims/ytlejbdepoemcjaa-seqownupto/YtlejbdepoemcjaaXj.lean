import Derived.Test.YtlejbdepoemcjaaXh
namespace Go.Proofs.Ytlejbdepoemcjaa
open Go.RowKit Sq
set_option linter.unusedVariables false
set_option linter.unusedSimpArgs false

section
variable {w : World} {rb ro g cap i : Nat} {L : List Sp}
theorem wt_weight {c : Ctx} {t : T} (h : SqAt w rb ro g cap L) (z : Zip L c t) (hc : Cnt L t) : Calls Try.prog 99 #[.pointer (some ⟨rb, ro, none⟩), .int .i64 (t.ix : Int)] w fun e w' => e = .returned (.int .i64 (wt L t.ix : Int)) ∧ w' = w := by
  have := hc.small z false
  have := h.len
  exact weight_any h (ix_lt z.rep z.repc.pos) (by omega)
theorem wt_le {c : Ctx} {t : T} (h : SqAt w rb ro g cap L) (z : Zip L c t) (hc : Cnt L t) : wt L t.ix ≤ 1400000000000 := by
  have := h.len
  unfold wt
  have h1 : (gt L t.ix).ca < L.length := by have := hc.small z false; simpa [ct] using this
  omega
/-- What 'even' finds at a side that is too heavy. -/
structure Hv (L : List Sp) (c : Ctx) (i : Nat) (s : Bool) (p q : Nat) (P Q Z : T) : Prop where
  z : Zip L c (mk i s (mk p s P Q) Z)
  cP : Cnt L P
  cQ : Cnt L Q
  cZ : Cnt L Z
  q : Q.ix = q
  dp : dn (gt L i) s = p
  dP : dn (gt L p) s = P.ix
  dQ : dn (gt L p) (!s) = Q.ix
theorem hv_of {c : Ctx} {s : Bool} {B Z : T} (z : Zip L c (mk i s B Z)) (hc : Cnt L (mk i s B Z)) (hh : heavyAt L i s = true) : ∃ p q P Q, Hv L c i s p q P Q Z := by
  obtain ⟨h1, h2, h3, h4, h5, h6, h7⟩ := rep_mk.1 z.rep
  obtain ⟨_, cB, cZ⟩ := cnt_mk.1 hc
  have hB : B.ix ≠ 0 := fun e => by
    unfold heavyAt at hh
    rw [h4, h5, e, wt_nil z.z] at hh
    have := wt_pos L Z.ix
    simp at hh
    omega
  obtain ⟨P, Q, eB⟩ := as_mk s hB
  obtain ⟨p, hp⟩ : ∃ p, B.ix = p := ⟨_, rfl⟩
  rw [hp] at eB hB h4
  subst eB
  obtain ⟨b1, b2, b3, b4, b5, b6, b7⟩ := rep_mk.1 h6
  obtain ⟨_, cP, cQ⟩ := cnt_mk.1 cB
  exact ⟨p, Q.ix, P, Q, z, cP, cQ, cZ, rfl, h4, b4, b5⟩
theorem Hv.zQ {c : Ctx} {s : Bool} {p q : Nat} {P Q Z : T} (h : Hv L c i s p q P Q Z) : Zip L ((p, !s, P) :: (i, s, Z) :: c) Q := by
  have := h.z.into
  rw [mk_flip p] at this
  exact this.into
theorem Hv.zP {c : Ctx} {s : Bool} {p q : Nat} {P Q Z : T} (h : Hv L c i s p q P Q Z) : Zip L ((p, s, Q) :: (i, s, Z) :: c) P := h.z.into.into
theorem Hv.evenAt {c : Ctx} {s : Bool} {p q : Nat} {P Q Z : T} (h : Hv L c i s p q P Q Z) : Sq.evenAt L i s = if 2 * wt L P.ix ≤ wt L Q.ix then (lift (lift L q) q, q) else (lift L p, p) := by
  unfold Sq.evenAt
  simp only [h.dp, h.dP, h.dQ, h.q]
/-- The two turns. -/
theorem lift_two {c : Ctx} {s : Bool} {p q : Nat} {P Q Z : T} (h : SqAt w rb ro g cap L) (v : Hv L c i s p q P Q Z) (hin : 2 * wt L P.ix ≤ wt L Q.ix) : Calls Try.prog 100 #[.pointer (some ⟨rb, ro, none⟩), .int .i64 (q : Int)] w fun e w' => e = .returned (.tuple #[]) ∧ Did w rb ro g cap (lift L q) w' ∧
    Calls Try.prog 100 #[.pointer (some ⟨rb, ro, none⟩), .int .i64 (q : Int)] w' fun e w2 => e = .returned (.tuple #[]) ∧ Did w rb ro g cap (lift (lift L q) q) w2 := by
  have hQ : Q.ix ≠ 0 := fun e => by
    rw [e, wt_nil v.z.z] at hin
    have := wt_pos L P.ix
    omega
  obtain ⟨P', Q', eQ⟩ := as_mk (!s) hQ
  rw [v.q] at eQ
  have z := v.z
  have cQ := v.cQ
  rw [eQ] at z cQ
  obtain ⟨_, cP', cQ'⟩ := cnt_mk.1 cQ
  have zin : Zip L ((i, s, Z) :: c) (mk p (!s) (mk q (!s) P' Q') P) := by
    have := z.into
    rwa [mk_flip p] at this
  obtain ⟨z1, c1, k1, e1⟩ := lift_zip zin cP' cQ' v.cP
  have z1o := z1.out
  rw [mk_flip q (!s), Bool.not_not] at z1o c1
  obtain ⟨_, cX, cP1⟩ := cnt_mk.1 c1
  have nd := ((mk_perm i s _ Z).append_right (cids c)).nodup_iff.1 z.nd
  simp only [List.cons_append, List.nodup_cons, List.mem_append, not_or, List.nodup_append, mk_mem] at nd
  have nqZ : ∀ j ∈ Z.ids, j ≠ p ∧ j ≠ q := fun j hj => ⟨fun e => nd.2.1.2.2 p (.inl rfl) j hj e.symm, fun e => nd.2.1.2.2 q (.inr (.inr (.inl rfl))) j hj e.symm⟩
  have cZ1 : Cnt (lift L q) Z := v.cZ.same (fun j hj => ⟨k1.sh j, fun w => e1 j (nqZ j hj).1 (nqZ j hj).2 w⟩)
  refine (lift_any h zin cP' cQ' v.cP).mono ?_
  rintro e w1 ⟨rfl, d1⟩
  refine ⟨rfl, d1, ?_⟩
  refine (lift_any d1.at' z1o cX cP1 cZ1).mono ?_
  rintro e w2 ⟨rfl, d2⟩
  exact ⟨rfl, d1.trans d2⟩
set_option maxRecDepth 100000 in
set_option maxHeartbeats 4000000 in
theorem even_any {c : Ctx} {l r : T} (h : SqAt w rb ro g cap L) (z : Zip L c (.nd i l r)) (hc : Cnt L (.nd i l r)) :
    Calls Try.prog 91 #[.pointer (some ⟨rb, ro, none⟩), .int .i64 (i : Int)] w fun e w' => e = .returned (.int .i64 ((even L i).2 : Int)) ∧ Did w rb ro g cap (even L i).1 w' := by
  have hi : i < L.length := z.rep.2.1
  go_enter Try.func91, Try.ntmps91
  go_upto_region 1 with fail
  refine even1 _ _ _ rfl rfl rfl h hi ?_
  intro a' w1 hw ha
  subst ha
  obtain rfl : w1 = w := hw
  simp only [Act.put, List.setIfInBounds_toArray, List.set_cons_zero, List.set_cons_succ]
  go_wp2
  go_loopw [18] (fun v18 wr => ∃ k : Nat, v18 = .int .i64 (k : Int) ∧ k ≤ 2 ∧ (1 ≤ k → heavyAt L i false = false) ∧ (2 ≤ k → heavyAt L i true = false) ∧ Did w1 rb ro g cap L wr) (fun v18 _ => 2 - (match v18 with | .int _ i => i.toNat | _ => 0))
  case atStart => exact ⟨0, rfl, by omega, by omega, by omega, Did.refl h⟩
  case round =>
    obtain ⟨k, rfl, hk2, hf1, hf2, d⟩ := hrel
    by_cases hk : k < 2
    · have hk' : (k : Int) < 2 := by omega
      obtain ⟨s, hs⟩ : ∃ s, s = wh k := ⟨_, rfl⟩
      have hnb : (k : Int) = ((nb s : Nat) : Int) := by
        have : k = 0 ∨ k = 1 := by omega
        rw [hs]
        rcases this with rfl | rfl <;> rfl
      have hev : heavyAt L i s = true → even L i = evenAt L i s := fun hh => by
        have : k = 0 ∨ k = 1 := by omega
        rcases this with rfl | rfl
        · rw [show s = false from hs] at hh ⊢
          unfold even
          rw [if_pos hh]
        · rw [show s = true from hs] at hh ⊢
          unfold even
          rw [if_neg (by rw [hf1 (by omega)]; decide), if_pos hh]
      obtain ⟨B, Z, eT⟩ := as_mk s (t := .nd i l r) (show i ≠ 0 from z.rep.1)
      change T.nd i l r = mk i s B Z at eT
      have zB := z
      have cB := hc
      rw [eT] at zB cB
      obtain ⟨h1, h2, h3, h4, h5, h6, h7⟩ := rep_mk.1 zB.rep
      obtain ⟨_, cB1, cZ1⟩ := cnt_mk.1 cB
      have zB1 := zB.into
      have zZ1 : Zip L ((i, !s, B) :: c) Z := by have := zB; rw [mk_flip] at this; exact this.into
      have HWB := hidMk (fun (W : World) (hW : SqAt W rb ro g cap L) => wt_weight hW zB1 cB1)
      have HWZ := hidMk (fun (W : World) (hW : SqAt W rb ro g cap L) => wt_weight hW zZ1 cZ1)
      have bZ := wt_le d.at' zZ1 cZ1
      have hhe : heavyAt L i s = decide (3 * wt L Z.ix < wt L B.ix) := by unfold heavyAt; rw [h4, h5]
      have HX := hidMk (show heavyAt L i s = false → (1 ≤ k + 1 → heavyAt L i false = false) ∧ (2 ≤ k + 1 → heavyAt L i true = false) from fun hq => by
        have : k = 0 ∨ k = 1 := by omega
        rcases this with rfl | rfl
        · rw [show s = false from hs] at hq
          exact ⟨fun _ => hq, fun h => by omega⟩
        · rw [show s = true from hs] at hq
          exact ⟨fun _ => hf1 (by omega), fun _ => hq⟩)
      have HNB := hidMk hnb
      have HEV := hidMk hev
      clear hf1 hf2 zZ1 zB1 h6 h7 hs hev
      rw [hnb] at hk' ⊢
      clear hnb
      go_upto_region 3 with fail
      refine even3 (s := s) (i := i) _ _ _ rfl rfl rfl ?_
      intro a' w2 hw ha
      subst ha
      obtain rfl : w2 = wr := hw
      simp only [Act.put, List.setIfInBounds_toArray, List.set_cons_zero, List.set_cons_succ]
      go_upto_region 4 with fail
      refine even4 (s := s) _ _ _ rfl rfl ?_
      intro a' w3 hw ha
      subst ha
      obtain rfl : w3 = w2 := hw
      simp only [Act.put, List.setIfInBounds_toArray, List.set_cons_zero, List.set_cons_succ]
      go_upto_region 5 with fail
      refine even5 (L := L) (p := dn (gt L i) s) (o := !s) (x := wt L B.ix) (y := wt L Z.ix) (r := !(heavyAt L i s)) _ _ _ rfl rfl rfl rfl rfl d.at' hi h.len (by omega) ?_ ?_ ?_
      · rw [hhe, Bool.eq_iff_iff]
        simp
        omega
      · rw [h4, h5]
        refine (HWB.out _ d.at'.drew).mono ?_
        rintro e wa ⟨rfl, rfl⟩
        refine ⟨rfl, ⟨d.at'.drew, Qt.drew _⟩, ?_⟩
        refine (HWZ.out _ d.at'.drew).mono ?_
        rintro e wb ⟨rfl, rfl⟩
        exact ⟨rfl, d.at'.drew, Qt.drew _⟩
      intro a' w4 hw ha
      subst ha
      replace d := d.qt hw.2
      clear hw HWB HWZ hhe bZ
      simp only [Act.put, List.setIfInBounds_toArray, List.set_cons_zero, List.set_cons_succ]
      cases hh : heavyAt L i s with
      | false =>
        have H2 := hidMk (HX.out hh)
        clear hh HX HEV h1 h2 h3 h4 h5 zB cB cB1 cZ1 eT
        go_wp2
        rw [show (((nb s : Nat) : Int) + 1) = ((k + 1 : Nat) : Int) by have := HNB.out; omega]
        refine ⟨⟨k + 1, rfl, hk, H2.out.1, H2.out.2, d⟩, ?_⟩
        show 2 - ((k + 1 : Nat) : Int).toNat < 2 - ((nb s : Nat) : Int).toNat
        rw [← HNB.out]
        omega
      | true =>
        have HE := hidMk (HEV.out hh)
        obtain ⟨p, q, P, Q, v⟩ := hv_of zB cB hh
        have hpl : p < L.length := by
          have := (rep_mk.1 (rep_mk.1 v.z.rep).2.2.2.2.2.1).2.1
          exact this
        have HWQ := hidMk (fun (W : World) (hW : SqAt W rb ro g cap L) => wt_weight hW v.zQ v.cQ)
        have HWP := hidMk (fun (W : World) (hW : SqAt W rb ro g cap L) => wt_weight hW v.zP v.cP)
        have bP := wt_le d.at' v.zP v.cP
        have HVE := hidMk (v.evenAt)
        clear hh HX HEV h1 h2 h3 h4 h5 zB cB cB1 cZ1 eT HNB hk' hk hk2
        rw [v.dp]
        go_upto_region 6 with fail
        refine even6 (s := s) (o := !s) _ _ _ rfl rfl rfl rfl rfl d.at' hpl ?_
        rw [v.dP, v.dQ]
        intro a' w5 hw ha
        subst ha
        replace d := d.qt (show Qt w4 w5 by rw [hw]; exact Qt.drew _)
        clear hw
        simp only [Act.put, List.setIfInBounds_toArray, List.set_cons_zero, List.set_cons_succ]
        go_upto_region 7 with fail
        by_cases hin : 2 * wt L P.ix ≤ wt L Q.ix
        · refine even7 (p := Q.ix) (q := P.ix) (x := wt L Q.ix) (y := wt L P.ix) (r := true) (fun w' => Did w1 rb ro g cap L w') _ _ _ rfl rfl rfl rfl (by omega) (by simp; omega) ?_ ?_
          · refine (HWQ.out _ d.at').mono ?_
            rintro e wa ⟨rfl, rfl⟩
            refine ⟨rfl, ?_⟩
            refine (HWP.out _ d.at').mono ?_
            rintro e wb ⟨rfl, rfl⟩
            exact ⟨rfl, d⟩
          rw [v.q]
          intro a' w6 d6 ha
          subst ha
          simp only [Act.put, List.setIfInBounds_toArray, List.set_cons_zero, List.set_cons_succ]
          have H1 := hidMk (lift_two d6.at' v hin)
          have HF := hidMk (show even L i = (lift (lift L q) q, q) by rw [HE.out, HVE.out, if_pos hin])
          clear hin HWQ HWP HE HVE bP d
          go_upto_region 10 with (first
            | (go_at_call 100; refine H1.out.mono ?_; rintro e w7 ⟨rfl, d7, H2⟩; replace H2 := hidMk H2; clear H1)
            | fail)
          go_wp2_with (first
            | (go_at_call 100; refine H2.out.mono ?_; rintro e w8 ⟨rfl, d8⟩; clear H2)
            | fail)
          go_ret
          refine ⟨by rw [HF.out]; rfl, ?_⟩
          rw [HF.out]
          exact d6.trans d8
        · refine even7 (p := Q.ix) (q := P.ix) (x := wt L Q.ix) (y := wt L P.ix) (r := false) (fun w' => Did w1 rb ro g cap L w') _ _ _ rfl rfl rfl rfl (by omega) (by simp; omega) ?_ ?_
          · refine (HWQ.out _ d.at').mono ?_
            rintro e wa ⟨rfl, rfl⟩
            refine ⟨rfl, ?_⟩
            refine (HWP.out _ d.at').mono ?_
            rintro e wb ⟨rfl, rfl⟩
            exact ⟨rfl, d⟩
          intro a' w6 d6 ha
          subst ha
          simp only [Act.put, List.setIfInBounds_toArray, List.set_cons_zero, List.set_cons_succ]
          have H1 := hidMk (lift_any d6.at' v.z v.cP v.cQ v.cZ)
          have HF := hidMk (show even L i = (lift L p, p) by rw [HE.out, HVE.out, if_neg hin])
          clear hin HWQ HWP HE HVE bP d
          go_wp2_with (first
            | (go_at_call 100; refine H1.out.mono ?_; rintro e w8 ⟨rfl, d8⟩; clear H1)
            | fail)
          go_ret
          refine ⟨by rw [HF.out]; rfl, ?_⟩
          rw [HF.out]
          exact d6.trans d8
    · obtain rfl : k = 2 := by omega
      have HF := hidMk (show even L i = (L, i) by unfold even; rw [if_neg (by rw [hf1 (by omega)]; decide), if_neg (by rw [hf2 (by omega)]; decide)])
      clear hk hk2 hf1 hf2
      go_wp2
      go_ret
      refine ⟨by rw [HF.out]; rfl, ?_⟩
      rw [HF.out]
      exact d
end
end Go.Proofs.Ytlejbdepoemcjaa
