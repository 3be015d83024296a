import Derived.Test.YtpdepbakopdgpaaP1
set_option maxRecDepth 100000
set_option maxHeartbeats 4000000
namespace Go.Proofs.Ytpdepbakopdgpaa
open Go.RowKit Sq
set_option linter.unusedVariables false
set_option linter.unusedSimpArgs false
structure BO (w : World) (s : Sx) (E : List Elt) (Ls : List (Value × List IdK)) (bo : Nat) (o : OpV) (W : World) : Prop where
  bk : BK w s E Ls W
  box : OpBox W bo o
  no : bo ∉ s.bl
section
variable {w W : World} {s : Sx} {E : List Elt} {Ls : List (Value × List IdK)} {bo : Nat} {o : OpV}
theorem BO.below {W' : World} (h : BO w s E Ls bo o W) (b : Below W.heap.size W W') : BO w s E Ls bo o W' := ⟨h.bk.below b, h.box.keep (b.block bo h.box.lt), h.no⟩
theorem BO.drew (h : BO w s E Ls bo o W) : BO w s E Ls bo o W.drew := h.below ((Below.refl _ _).drew)
theorem BO.nxt {W' : World} {s' : Sx} {E' : List Elt} (h : BO w s E Ls bo o W) (nx : Nxt s W s' E' W') : BO w s' E' Ls bo o W' := by
  refine ⟨h.bk.nxt nx, h.box.keep (nx.tch.block bo h.box.lt h.no), fun q => ?_⟩
  rcases nx.bl bo q with r | r
  · exact h.no r
  · have := h.box.lt; omega
theorem BO.ids (h : BO w s E Ls bo o W) : Calls Try.prog 24 #[.pointer (some ⟨s.sb, 0, none⟩)] W fun e w' => ∃ v n c, e = .returned (.slice v n c) ∧ (n = (idsE E false).length ∧ n ≤ 1400000000000) ∧ BO w s E ((.slice v n c, idsE E false) :: Ls) bo o w' := by
  refine (ids_any h.bk.sq).mono ?_
  rintro e w' ⟨v, rfl, ow, b⟩
  have h2 := h.bk.add ow b
  obtain ⟨a, c, rfl, _, _⟩ := ow.open (h2.ls (v, idsE E false) (by simp)).2.1
  exact ⟨a, _, c, rfl, ⟨rfl, (h2.ls _ (List.mem_cons_self ..)).2.2.1⟩, h2, (h.below b).box, h.no⟩
end
def stepE (E : List Elt) (o : OpV) : List Elt := if o.kind = 0 then insR E o.id o.bh else if o.kind = 1 then takR E o.id else showE E o.id o.sh
theorem stepE_ok {E : List Elt} (ok : SeqOk E) {o : OpV} (ho : o.ok) : SeqOk (stepE E o) := by
  unfold stepE
  split
  · exact ok.ins ho.id ho.bh
  · split
    · exact ok.tak _
    · exact ok.show _ _
theorem stepE_len (E : List Elt) (o : OpV) : (stepE E o).length ≤ E.length + 1 := by
  unfold stepE
  split
  · exact insR_len _ _ _
  · split
    · exact Nat.le_succ_of_le (takR_len _ _)
    · rw [showE_len]; omega
theorem stepE_stays {E : List Elt} (ok : SeqOk E) (o : OpV) : Stays E (stepE E o) (fun x => o.kind = 1 ∧ x = o.id) := by
  unfold stepE
  split
  · exact stays_ins ok _ _ _
  · split
    · next h => exact ⟨(stays_tak E o.id).sub, fun x a b => ⟨h, (stays_tak E o.id).has x a b⟩⟩
    · exact stays_show _ _ _ _
theorem stays_get {E F : List Elt} {g : IdK → Prop} (h : Stays E F g) (ok : SeqOk F) {n : Nat} (hn : n = (idsE E false).length) {j k : Nat} (hj : j < k) (hk : k < n) (hx : 0 ≤ aheadE F false ((idsE E false).getD j zId)) (hy : 0 ≤ aheadE F false ((idsE E false).getD k zId)) : aheadE F false ((idsE E false).getD j zId) < aheadE F false ((idsE E false).getD k zId) := by
  have e1 : ∀ (L : List IdK) (q : Nat) (hq : q < L.length), L.getD q zId = L[q] := fun L q hq => by rw [List.getD_eq_getElem?_getD, List.getElem?_eq_getElem hq]; rfl
  have := (List.pairwise_iff_getElem.1 (h.pair ok)) j k (by omega) (by omega) hj
  rw [e1 _ j (by omega)] at hx ⊢
  rw [e1 _ k (by omega)] at hy ⊢
  exact this hx hy
theorem stays_lost {E F : List Elt} {g : IdK → Prop} (h : Stays E F g) {n : Nat} (hn : n = (idsE E false).length) {k : Nat} (hk : k < n) (hx : aheadE F false ((idsE E false).getD k zId) < 0) : g ((idsE E false).getD k zId) := by
  subst hn
  refine h.has _ ?_ ?_
  · rw [List.getD_eq_getElem?_getD, List.getElem?_eq_getElem hk, Option.getD_some]
    obtain ⟨e, he, q⟩ := List.mem_map.1 (List.getElem_mem hk)
    exact hasE_iff.2 ⟨e, (List.mem_filter.1 he).1, q⟩
  · cases q : hasE F ((idsE E false).getD k zId) with
    | false => rfl
    | true => have := rank_pos (c := false) q; omega
theorem BO.get {w W : World} {s : Sx} {F : List Elt} {L : List IdK} {Ls : List (Value × List IdK)} {bo : Nat} {o : OpV} {v : Option Addr} {n c k : Nat} (h : BO w s F ((.slice v n c, L) :: Ls) bo o W) (hn : n = L.length) (hk : k < n) : ∃ wb wo, v = some ⟨wb, wo, none⟩ ∧ (L.getD k zId).ok ∧ W.rangeAt wb (wo + 33 * k) (L.getD k zId).c := by
  obtain ⟨a1, a2, _, _⟩ := h.bk.ls _ (List.mem_cons_self ..)
  simp only at a1 a2
  obtain ⟨a, c', e, ia, _⟩ := a1.open a2
  cases e
  rw [List.getD_eq_getElem?_getD, List.getElem?_eq_getElem (by omega), Option.getD_some]
  rcases ia with q | ⟨b, off, e, _, hr⟩
  · have : L.length = 0 := by rw [q]; rfl
    omega
  · exact ⟨b, off, e, a2 _ (List.getElem_mem _), hr k _ (List.getElem?_eq_getElem (by omega))⟩
def rkD (E F : List Elt) (j : Nat) : Int := aheadE F false ((idsE E false).getD j zId)
set_option maxHeartbeats 8000000 in
theorem stays_all (a : Option Addr) (c : Nat) (l : List PutV) (a2 : Option Addr) (c2 : Nat) (M : List OpV) (w : World) (hP : PutsAt w a l) (ok : ∀ x ∈ l, x.ok) (hl : l.length ≤ 1048576) (hO : OpsAt w a2 M) (okM : ∀ x ∈ M, x.ok) (hM : M.length ≤ 1048576) : Calls Try.prog 5 #[.slice a l.length c, .slice a2 M.length c2] w fun e w' => e = .returned (.bool true) ∧ Below w.heap.size w w' := by
  obtain ⟨n, hn⟩ : ∃ n, l.length = n := ⟨_, rfl⟩
  obtain ⟨m, hm⟩ : ∃ m, M.length = m := ⟨_, rfl⟩
  have HLA : Hid (Calls Try.prog 22 #[.slice a n c] w fun e w' => ∃ s v m vc, e = .returned (.tuple #[.pointer (some ⟨s, 0, none⟩), .slice v m vc]) ∧ m = (couldP l).length ∧ ∃ q, q.sb = s ∧ BK w q (laidP l).1 [] w') := by
    rw [← hn]
    refine (laid_any a c l w hP ok hl).mono ?_
    rintro e w' ⟨s, v, rfl, ⟨q, e1, e2, e3, e4⟩, o, bb⟩
    obtain ⟨va, vc, rfl, _, _⟩ := o.open (laidP_ok l ok)
    exact ⟨s, va, _, vc, rfl, by rw [(could_laid l).1, List.length_map], q, e1, e2, e3, bb, fun p hp => by cases hp⟩
  have HCO : Hid (∀ W, Below w.heap.size w W → Calls Try.prog 23 #[.slice a n c] W fun e w' => e = .returned (.int .i64 ((couldP l).length : Int)) ∧ Below W.heap.size W w') := fun W bW => by
    rw [← hn]
    exact could_any a c l W (hP.below bW) ok hl
  have hlen := (laidP_len l).1
  have OKE := laid_seqok l ok
  obtain ⟨E0, hE⟩ : ∃ E, (laidP l).1 = E := ⟨_, rfl⟩
  rw [hE] at HLA hlen OKE
  rw [hn, hm]
  have HB := hidMk (show E0.length ≤ 1048576 by omega)
  have HMl := hidMk (And.intro hm hM)
  generalize (couldP l).length = m0 at *
  clear hE hlen hn hm hM hl
  go_enter Try.func5, Try.ntmps5
  go_wp2_with (first
    | (go_at_call 22; refine HLA.out.mono ?_; rintro e w1 ⟨sb, v, mm, vc, rfl, rfl, s, rfl, B1⟩; have C1 := hidMk B1; clear B1 HLA)
    | (go_at_call 23; refine (HCO.out _ C1.out.bel).mono ?_; rintro e w2 ⟨rfl, b2⟩; have C2 := hidMk (C1.out.below b2); clear b2 C1 HCO)
    | fail)
  have st0 : Hid (∃ (s2 : Sx) (E : List Elt), s2.sb = s.sb ∧ BK w s2 E [] w2 ∧ SeqOk E ∧ E.length ≤ 1048576 + 0) := ⟨s, E0, rfl, C2.out, OKE, HB.out⟩
  generalize s.sb = sb at *
  clear C2 OKE HB
  go_loopw [29] (fun v29 wr => ∃ (i : Nat), v29 = .int .i64 (i : Int) ∧ i ≤ m ∧ Hid (∃ (s2 : Sx) (E : List Elt), s2.sb = sb ∧ BK w s2 E [] wr ∧ SeqOk E ∧ E.length ≤ 1048576 + i)) (fun v29 wr => m - (match v29 with | .int _ i => i.toNat | _ => 0))
  case atStart => exact ⟨0, rfl, Nat.zero_le _, st0⟩
  case round =>
    clear st0
    obtain ⟨i, rfl, hin, hI⟩ := hrel
    obtain ⟨hLn, hbig⟩ := HMl.out
    by_cases hi : i < m
    · have hi' : i < M.length := by omega
      have hm : m ≤ 1400000000000 := by omega
      obtain ⟨pb, po, rfl, hb, hr⟩ := hO.get hi'
      have hpo := okM M[i] (List.getElem_mem hi')
      generalize M[i] = o at *
      obtain ⟨s, E, rfl, hB, OKE, hEl⟩ := hI.out
      have HB0 := hidMk hB
      obtain ⟨HW, hHW⟩ : ∃ HW : Nat, HW = 1048576 + i := ⟨_, rfl⟩
      have HHW := hidMk hHW
      have HEl := hidMk (show E.length ≤ 1048576 + i from hEl)
      have HI := hidMk (show i ≤ 1048576 by omega)
      clear hI hB hLn hbig hEl hHW HHW HW
      go_upto_region 6 with fail
      obtain ⟨w3, E1, hbox, b3⟩ := box_new (w := wr) hpo
      refine sty6 (o := o) _ _ _ rfl rfl rfl hpo hi hm (rangeAt_keep hr (HB0.out.bel.block pb hb)) E1 ?_
      intro a' w3' hw3 ha
      subst ha
      obtain rfl : w3' = w3 := hw3
      simp only [Act.put, List.setIfInBounds_toArray, List.set_cons_zero, List.set_cons_succ]
      have hno : wr.heap.size ∉ s.bl := fun q => by have := HB0.out.sq.lt _ q; omega
      have O3 : Hid (BO w s E [] wr.heap.size o w3') := ⟨HB0.out.below b3, hbox, hno⟩
      generalize wr.heap.size = bo at *
      clear HB0 hno hbox b3 E1
      go_upto_region 8 with (first
        | (go_at_call 24; refine O3.out.ids.mono ?_; rintro e w4 ⟨v4, n4, c4, rfl, hn4, B4⟩; have O4 := hidMk B4; have HN4 := hidMk hn4; clear B4 O3 hn4)
        | fail)
      refine sty8 (o := o) _ _ _ rfl rfl O4.out.box.range ?_
      intro a' w5 hw5 ha
      subst ha
      obtain rfl : w5 = w4 := hw5
      simp only [Act.put, List.setIfInBounds_toArray, List.set_cons_zero, List.set_cons_succ]
      obtain ⟨Ls, hLs⟩ : ∃ Ls, (Value.slice v4 n4 c4, idsE E false) :: [] = Ls := ⟨_, rfl⟩
      rw [hLs] at O4
      have HLS := hidMk hLs
      obtain ⟨F, hF⟩ : ∃ F, stepE E o = F := ⟨_, rfl⟩
      have HF := hidMk hF
      have OKF := stepE_ok OKE hpo
      have HST := hidMk (stepE_stays OKE o)
      have HFl : Hid (F.length ≤ 1048576 + (i + 1)) := by have := stepE_len E o; rw [hF] at this; have := HEl.out; show F.length ≤ _; omega
      rw [hF] at HST OKF
      clear hLs hF OKE
      have HRK := hidMk hpo
      by_cases k0 : o.kind = 0
      · have CI := insert_any (k := o.id) (b := o.bh) O4.out.bk.sq hpo.id hpo.bh (by have := HEl.out; have := HI.out; omega)
        rw [show insR E o.id o.bh = F by rw [← HF.out]; unfold stepE; rw [if_pos k0]] at CI
        have q0 : (o.kind == 0) = true := by simp [k0]
        have K0 := hidMk k0
        clear k0
        go_upto_region 11 with fail
        refine sty11 (o := o) (fun wz => ∃ s2 : Sx, s2.sb = s.sb ∧ BO w s2 F Ls bo o wz) _ _ _ rfl rfl rfl hpo O4.out.box.range (CI.mono fun e w' ⟨h1, s', nx⟩ => ⟨h1, s', nx.sb, O4.out.nxt nx⟩) ?_
        rintro a' w6 ⟨s2, hs2, B6⟩ ha
        subst ha
        simp only [Act.put, List.setIfInBounds_toArray, List.set_cons_zero, List.set_cons_succ]
        have O6 := hidMk B6
        have HS2 := hidMk hs2
        clear B6 hs2 CI O4 HEl
        go_wp2
        go_loopw [10, 11] (fun v10 v11 wr => ∃ (k : Nat) (z : Int), v10 = .int .i64 z ∧ v11 = .int .i64 (k : Int) ∧ k ≤ n4 ∧ Hid (BO w s2 F Ls bo o wr) ∧ Hid (∀ j, k ≤ j → j < n4 → 0 ≤ rkD E F j → z < rkD E F j)) (fun v10 v11 wr => n4 - (match v11 with | .int _ i => i.toNat | _ => 0))
        case atStart => exact ⟨0, -1, rfl, rfl, Nat.zero_le _, O6, fun j _ _ h => by omega⟩
        case round =>
          clear O6
          obtain ⟨k, z, rfl, rfl, hkn, hO7, hz⟩ := hrel
          have hnb := HN4.out.2
          by_cases hk : k < n4
          · obtain ⟨wb, wo, rfl, hx, hr4⟩ := BO.get (L := idsE E false) (Ls := []) (by rw [HLS.out]; exact hO7.out) HN4.out.1 hk
            have CR := rank_any hO7.out.bk.sq hx
            rw [HS2.out] at CR
            go_upto_region 18 with fail
            refine sty18 (x := (idsE E false).getD k zId) (r := rkD E F k) (fun wz => BO w s2 F Ls bo o wz ∧ wz.rangeAt wb (wo + 33 * k) ((idsE E false).getD k zId).c) _ _ _ rfl rfl rfl rfl hx hk hnb hr4 (CR.mono fun e w' ⟨h1, h2⟩ => ⟨h1, hO7.out.below h2, rangeAt_below hr4 h2 (rangeAt_lt hr4 (by rw [IdK.len hx]; omega))⟩) ?_
            rintro a' w8 ⟨B8, R8⟩ ha
            subst ha
            simp only [Act.put, List.setIfInBounds_toArray, List.set_cons_zero, List.set_cons_succ]
            have hlost : Hid (rkD E F k < 0 → o.kind = 1 ∧ (idsE E false).getD k zId = o.id) := fun q => stays_lost HST.out HN4.out.1 hk q
            have hmore : Hid (∀ j, k + 1 ≤ j → j < n4 → 0 ≤ rkD E F k → 0 ≤ rkD E F j → rkD E F k < rkD E F j) := fun j h1 h2 h3 h4 => stays_get HST.out OKF HN4.out.1 (by omega) h2 h3 h4
            have hzk : Hid (0 ≤ rkD E F k → z < rkD E F k) := fun q => hz.out k (Nat.le_refl _) hk q
            generalize (idsE E false).getD k zId = x at *
            generalize rkD E F k = r at *
            clear CR hr4
            go_upto_region 19 with fail
            by_cases hg : 0 ≤ r
            · refine sty19a (r := r) (z := z) _ _ _ rfl rfl rfl (decide_eq_true (by omega)) (decide_eq_false (by have := hzk.out hg; omega)) ?_
              intro a' w9 hw9 ha
              subst ha
              obtain rfl : w9 = w8 := hw9
              simp only [Act.put, List.setIfInBounds_toArray, List.set_cons_zero, List.set_cons_succ]
              go_upto_region 21 with fail
              refine sty21a (x := x) (r := r) _ _ _ rfl rfl rfl rfl rfl (decide_eq_false (by omega)) ?_
              intro a' w10 hw10 ha
              subst ha
              obtain rfl : w10 = w9.drew := hw10
              simp only [Act.put, List.setIfInBounds_toArray, List.set_cons_zero, List.set_cons_succ]
              have B10 := hidMk B8.drew
              generalize w9.drew = w10 at *
              go_upto_region 23 with fail
              refine sty23 (r := r) (g := true) _ _ _ rfl rfl (decide_eq_true (by omega)) ?_
              intro a' w11 hw11 ha
              subst ha
              obtain rfl : w11 = w10 := hw11
              simp only [Act.put, List.setIfInBounds_toArray, List.set_cons_zero, List.set_cons_succ]
              have HR := hidMk hg
              clear B8 R8 hlost hzk hz hO7 hg
              go_wp2
              have hq : ((k : Int) + 1) = ((k + 1 : Nat) : Int) := by omega
              rw [hq]
              refine ⟨⟨k + 1, r, rfl, rfl, hk, B10, fun j h1 h2 h3 => hmore.out j h1 h2 HR.out h3⟩, ?_⟩
              show n4 - ((k + 1 : Nat) : Int).toNat < n4 - (k : Int).toNat
              omega
            · refine sty19b (r := r) (z := z) _ _ _ rfl rfl rfl (decide_eq_false (by omega)) ?_
              intro a' w9 hw9 ha
              subst ha
              obtain rfl : w9 = w8 := hw9
              simp only [Act.put, List.setIfInBounds_toArray, List.set_cons_zero, List.set_cons_succ]
              go_upto_region 21 with fail
              refine sty21b (r := r) (x := x) (o := o) _ _ _ rfl rfl rfl rfl rfl hx hk hnb hpo (decide_eq_true (by omega)) (decide_eq_true (hlost.out (by omega)).1) (decide_eq_true (hlost.out (by omega)).2) R8 B8.drew.box.range ?_
              intro a' w10 hw10 ha
              subst ha
              obtain rfl : w10 = w9.drew := hw10
              simp only [Act.put, List.setIfInBounds_toArray, List.set_cons_zero, List.set_cons_succ]
              have B10 := hidMk B8.drew
              generalize w9.drew = w10 at *
              go_upto_region 23 with fail
              refine sty23 (r := r) (g := false) _ _ _ rfl rfl (decide_eq_false (by omega)) ?_
              intro a' w11 hw11 ha
              subst ha
              obtain rfl : w11 = w10 := hw11
              simp only [Act.put, List.setIfInBounds_toArray, List.set_cons_zero, List.set_cons_succ]
              clear B8 R8 hlost hzk hO7 hg hmore
              go_wp2
              have hq : ((k : Int) + 1) = ((k + 1 : Nat) : Int) := by omega
              rw [hq]
              refine ⟨⟨k + 1, z, rfl, rfl, hk, B10, fun j h1 h2 h3 => hz.out j (by omega) h2 h3⟩, ?_⟩
              show n4 - ((k + 1 : Nat) : Int).toNat < n4 - (k : Int).toNat
              omega
          · obtain rfl : k = n4 := by omega
            clear hkn hnb
            go_wp2
            have hq : ((i : Int) + 1) = ((i + 1 : Nat) : Int) := by omega
            rw [hq]
            refine ⟨⟨i + 1, rfl, hi, s2, F, HS2.out, hO7.out.bk.bare, OKF, HFl.out⟩, ?_⟩
            show m - ((i + 1 : Nat) : Int).toNat < m - (i : Int).toNat
            omega
      · by_cases k1 : o.kind = 1
        · have CI := take_any (k := o.id) O4.out.bk.sq hpo.id
          rw [show takR E o.id = F by rw [← HF.out]; unfold stepE; rw [if_neg k0, if_pos k1]] at CI
          have q0 : (o.kind == 0) = false := by simpa using k0
          have q1 : (o.kind == 1) = true := by simp [k1]
          have K0 := hidMk k0
          have K1 := hidMk k1
          clear k0 k1
          go_upto_region 13 with fail
          refine sty13 (o := o) (fun wz => ∃ s2 : Sx, s2.sb = s.sb ∧ BO w s2 F Ls bo o wz) _ _ _ rfl rfl rfl hpo O4.out.box.range (CI.mono fun e w' ⟨h1, s', nx⟩ => ⟨h1, s', nx.sb, O4.out.nxt nx⟩) ?_
          rintro a' w6 ⟨s2, hs2, B6⟩ ha
          subst ha
          simp only [Act.put, List.setIfInBounds_toArray, List.set_cons_zero, List.set_cons_succ]
          have O6 := hidMk B6
          have HS2 := hidMk hs2
          clear B6 hs2 CI O4 HEl
          go_wp2
          go_loopw [10, 11] (fun v10 v11 wr => ∃ (k : Nat) (z : Int), v10 = .int .i64 z ∧ v11 = .int .i64 (k : Int) ∧ k ≤ n4 ∧ Hid (BO w s2 F Ls bo o wr) ∧ Hid (∀ j, k ≤ j → j < n4 → 0 ≤ rkD E F j → z < rkD E F j)) (fun v10 v11 wr => n4 - (match v11 with | .int _ i => i.toNat | _ => 0))
          case atStart => exact ⟨0, -1, rfl, rfl, Nat.zero_le _, O6, fun j _ _ h => by omega⟩
          case round =>
            clear O6
            obtain ⟨k, z, rfl, rfl, hkn, hO7, hz⟩ := hrel
            have hnb := HN4.out.2
            by_cases hk : k < n4
            · obtain ⟨wb, wo, rfl, hx, hr4⟩ := BO.get (L := idsE E false) (Ls := []) (by rw [HLS.out]; exact hO7.out) HN4.out.1 hk
              have CR := rank_any hO7.out.bk.sq hx
              rw [HS2.out] at CR
              go_upto_region 18 with fail
              refine sty18 (x := (idsE E false).getD k zId) (r := rkD E F k) (fun wz => BO w s2 F Ls bo o wz ∧ wz.rangeAt wb (wo + 33 * k) ((idsE E false).getD k zId).c) _ _ _ rfl rfl rfl rfl hx hk hnb hr4 (CR.mono fun e w' ⟨h1, h2⟩ => ⟨h1, hO7.out.below h2, rangeAt_below hr4 h2 (rangeAt_lt hr4 (by rw [IdK.len hx]; omega))⟩) ?_
              rintro a' w8 ⟨B8, R8⟩ ha
              subst ha
              simp only [Act.put, List.setIfInBounds_toArray, List.set_cons_zero, List.set_cons_succ]
              have hlost : Hid (rkD E F k < 0 → o.kind = 1 ∧ (idsE E false).getD k zId = o.id) := fun q => stays_lost HST.out HN4.out.1 hk q
              have hmore : Hid (∀ j, k + 1 ≤ j → j < n4 → 0 ≤ rkD E F k → 0 ≤ rkD E F j → rkD E F k < rkD E F j) := fun j h1 h2 h3 h4 => stays_get HST.out OKF HN4.out.1 (by omega) h2 h3 h4
              have hzk : Hid (0 ≤ rkD E F k → z < rkD E F k) := fun q => hz.out k (Nat.le_refl _) hk q
              generalize (idsE E false).getD k zId = x at *
              generalize rkD E F k = r at *
              clear CR hr4
              go_upto_region 19 with fail
              by_cases hg : 0 ≤ r
              · refine sty19a (r := r) (z := z) _ _ _ rfl rfl rfl (decide_eq_true (by omega)) (decide_eq_false (by have := hzk.out hg; omega)) ?_
                intro a' w9 hw9 ha
                subst ha
                obtain rfl : w9 = w8 := hw9
                simp only [Act.put, List.setIfInBounds_toArray, List.set_cons_zero, List.set_cons_succ]
                go_upto_region 21 with fail
                refine sty21a (x := x) (r := r) _ _ _ rfl rfl rfl rfl rfl (decide_eq_false (by omega)) ?_
                intro a' w10 hw10 ha
                subst ha
                obtain rfl : w10 = w9.drew := hw10
                simp only [Act.put, List.setIfInBounds_toArray, List.set_cons_zero, List.set_cons_succ]
                have B10 := hidMk B8.drew
                generalize w9.drew = w10 at *
                go_upto_region 23 with fail
                refine sty23 (r := r) (g := true) _ _ _ rfl rfl (decide_eq_true (by omega)) ?_
                intro a' w11 hw11 ha
                subst ha
                obtain rfl : w11 = w10 := hw11
                simp only [Act.put, List.setIfInBounds_toArray, List.set_cons_zero, List.set_cons_succ]
                have HR := hidMk hg
                clear B8 R8 hlost hzk hz hO7 hg
                go_wp2
                have hq : ((k : Int) + 1) = ((k + 1 : Nat) : Int) := by omega
                rw [hq]
                refine ⟨⟨k + 1, r, rfl, rfl, hk, B10, fun j h1 h2 h3 => hmore.out j h1 h2 HR.out h3⟩, ?_⟩
                show n4 - ((k + 1 : Nat) : Int).toNat < n4 - (k : Int).toNat
                omega
              · refine sty19b (r := r) (z := z) _ _ _ rfl rfl rfl (decide_eq_false (by omega)) ?_
                intro a' w9 hw9 ha
                subst ha
                obtain rfl : w9 = w8 := hw9
                simp only [Act.put, List.setIfInBounds_toArray, List.set_cons_zero, List.set_cons_succ]
                go_upto_region 21 with fail
                refine sty21b (r := r) (x := x) (o := o) _ _ _ rfl rfl rfl rfl rfl hx hk hnb hpo (decide_eq_true (by omega)) (decide_eq_true (hlost.out (by omega)).1) (decide_eq_true (hlost.out (by omega)).2) R8 B8.drew.box.range ?_
                intro a' w10 hw10 ha
                subst ha
                obtain rfl : w10 = w9.drew := hw10
                simp only [Act.put, List.setIfInBounds_toArray, List.set_cons_zero, List.set_cons_succ]
                have B10 := hidMk B8.drew
                generalize w9.drew = w10 at *
                go_upto_region 23 with fail
                refine sty23 (r := r) (g := false) _ _ _ rfl rfl (decide_eq_false (by omega)) ?_
                intro a' w11 hw11 ha
                subst ha
                obtain rfl : w11 = w10 := hw11
                simp only [Act.put, List.setIfInBounds_toArray, List.set_cons_zero, List.set_cons_succ]
                clear B8 R8 hlost hzk hO7 hg hmore
                go_wp2
                have hq : ((k : Int) + 1) = ((k + 1 : Nat) : Int) := by omega
                rw [hq]
                refine ⟨⟨k + 1, z, rfl, rfl, hk, B10, fun j h1 h2 h3 => hz.out j (by omega) h2 h3⟩, ?_⟩
                show n4 - ((k + 1 : Nat) : Int).toNat < n4 - (k : Int).toNat
                omega
            · obtain rfl : k = n4 := by omega
              clear hkn hnb
              go_wp2
              have hq : ((i : Int) + 1) = ((i + 1 : Nat) : Int) := by omega
              rw [hq]
              refine ⟨⟨i + 1, rfl, hi, s2, F, HS2.out, hO7.out.bk.bare, OKF, HFl.out⟩, ?_⟩
              show m - ((i + 1 : Nat) : Int).toNat < m - (i : Int).toNat
              omega
        · have CI := show_any (k := o.id) O4.out.bk.sq hpo.id o.sh
          rw [show showE E o.id o.sh = F by rw [← HF.out]; unfold stepE; rw [if_neg k0, if_neg k1]] at CI
          have q0 : (o.kind == 0) = false := by simpa using k0
          have q1 : (o.kind == 1) = false := by simpa using k1
          have K0 := hidMk k0
          have K1 := hidMk k1
          clear k0 k1
          go_upto_region 9 with fail
          refine sty9 (o := o) (fun wz => ∃ s2 : Sx, s2.sb = s.sb ∧ BO w s2 F Ls bo o wz) _ _ _ rfl rfl rfl hpo O4.out.box.range (CI.mono fun e w' ⟨h1, s', nx⟩ => ⟨h1, s', nx.sb, O4.out.nxt nx⟩) ?_
          rintro a' w6 ⟨s2, hs2, B6⟩ ha
          subst ha
          simp only [Act.put, List.setIfInBounds_toArray, List.set_cons_zero, List.set_cons_succ]
          have O6 := hidMk B6
          have HS2 := hidMk hs2
          clear B6 hs2 CI O4 HEl
          go_wp2
          go_loopw [10, 11] (fun v10 v11 wr => ∃ (k : Nat) (z : Int), v10 = .int .i64 z ∧ v11 = .int .i64 (k : Int) ∧ k ≤ n4 ∧ Hid (BO w s2 F Ls bo o wr) ∧ Hid (∀ j, k ≤ j → j < n4 → 0 ≤ rkD E F j → z < rkD E F j)) (fun v10 v11 wr => n4 - (match v11 with | .int _ i => i.toNat | _ => 0))
          case atStart => exact ⟨0, -1, rfl, rfl, Nat.zero_le _, O6, fun j _ _ h => by omega⟩
          case round =>
            clear O6
            obtain ⟨k, z, rfl, rfl, hkn, hO7, hz⟩ := hrel
            have hnb := HN4.out.2
            by_cases hk : k < n4
            · obtain ⟨wb, wo, rfl, hx, hr4⟩ := BO.get (L := idsE E false) (Ls := []) (by rw [HLS.out]; exact hO7.out) HN4.out.1 hk
              have CR := rank_any hO7.out.bk.sq hx
              rw [HS2.out] at CR
              go_upto_region 18 with fail
              refine sty18 (x := (idsE E false).getD k zId) (r := rkD E F k) (fun wz => BO w s2 F Ls bo o wz ∧ wz.rangeAt wb (wo + 33 * k) ((idsE E false).getD k zId).c) _ _ _ rfl rfl rfl rfl hx hk hnb hr4 (CR.mono fun e w' ⟨h1, h2⟩ => ⟨h1, hO7.out.below h2, rangeAt_below hr4 h2 (rangeAt_lt hr4 (by rw [IdK.len hx]; omega))⟩) ?_
              rintro a' w8 ⟨B8, R8⟩ ha
              subst ha
              simp only [Act.put, List.setIfInBounds_toArray, List.set_cons_zero, List.set_cons_succ]
              have hlost : Hid (rkD E F k < 0 → o.kind = 1 ∧ (idsE E false).getD k zId = o.id) := fun q => stays_lost HST.out HN4.out.1 hk q
              have hmore : Hid (∀ j, k + 1 ≤ j → j < n4 → 0 ≤ rkD E F k → 0 ≤ rkD E F j → rkD E F k < rkD E F j) := fun j h1 h2 h3 h4 => stays_get HST.out OKF HN4.out.1 (by omega) h2 h3 h4
              have hzk : Hid (0 ≤ rkD E F k → z < rkD E F k) := fun q => hz.out k (Nat.le_refl _) hk q
              generalize (idsE E false).getD k zId = x at *
              generalize rkD E F k = r at *
              clear CR hr4
              go_upto_region 19 with fail
              by_cases hg : 0 ≤ r
              · refine sty19a (r := r) (z := z) _ _ _ rfl rfl rfl (decide_eq_true (by omega)) (decide_eq_false (by have := hzk.out hg; omega)) ?_
                intro a' w9 hw9 ha
                subst ha
                obtain rfl : w9 = w8 := hw9
                simp only [Act.put, List.setIfInBounds_toArray, List.set_cons_zero, List.set_cons_succ]
                go_upto_region 21 with fail
                refine sty21a (x := x) (r := r) _ _ _ rfl rfl rfl rfl rfl (decide_eq_false (by omega)) ?_
                intro a' w10 hw10 ha
                subst ha
                obtain rfl : w10 = w9.drew := hw10
                simp only [Act.put, List.setIfInBounds_toArray, List.set_cons_zero, List.set_cons_succ]
                have B10 := hidMk B8.drew
                generalize w9.drew = w10 at *
                go_upto_region 23 with fail
                refine sty23 (r := r) (g := true) _ _ _ rfl rfl (decide_eq_true (by omega)) ?_
                intro a' w11 hw11 ha
                subst ha
                obtain rfl : w11 = w10 := hw11
                simp only [Act.put, List.setIfInBounds_toArray, List.set_cons_zero, List.set_cons_succ]
                have HR := hidMk hg
                clear B8 R8 hlost hzk hz hO7 hg
                go_wp2
                have hq : ((k : Int) + 1) = ((k + 1 : Nat) : Int) := by omega
                rw [hq]
                refine ⟨⟨k + 1, r, rfl, rfl, hk, B10, fun j h1 h2 h3 => hmore.out j h1 h2 HR.out h3⟩, ?_⟩
                show n4 - ((k + 1 : Nat) : Int).toNat < n4 - (k : Int).toNat
                omega
              · refine sty19b (r := r) (z := z) _ _ _ rfl rfl rfl (decide_eq_false (by omega)) ?_
                intro a' w9 hw9 ha
                subst ha
                obtain rfl : w9 = w8 := hw9
                simp only [Act.put, List.setIfInBounds_toArray, List.set_cons_zero, List.set_cons_succ]
                go_upto_region 21 with fail
                refine sty21b (r := r) (x := x) (o := o) _ _ _ rfl rfl rfl rfl rfl hx hk hnb hpo (decide_eq_true (by omega)) (decide_eq_true (hlost.out (by omega)).1) (decide_eq_true (hlost.out (by omega)).2) R8 B8.drew.box.range ?_
                intro a' w10 hw10 ha
                subst ha
                obtain rfl : w10 = w9.drew := hw10
                simp only [Act.put, List.setIfInBounds_toArray, List.set_cons_zero, List.set_cons_succ]
                have B10 := hidMk B8.drew
                generalize w9.drew = w10 at *
                go_upto_region 23 with fail
                refine sty23 (r := r) (g := false) _ _ _ rfl rfl (decide_eq_false (by omega)) ?_
                intro a' w11 hw11 ha
                subst ha
                obtain rfl : w11 = w10 := hw11
                simp only [Act.put, List.setIfInBounds_toArray, List.set_cons_zero, List.set_cons_succ]
                clear B8 R8 hlost hzk hO7 hg hmore
                go_wp2
                have hq : ((k : Int) + 1) = ((k + 1 : Nat) : Int) := by omega
                rw [hq]
                refine ⟨⟨k + 1, z, rfl, rfl, hk, B10, fun j h1 h2 h3 => hz.out j (by omega) h2 h3⟩, ?_⟩
                show n4 - ((k + 1 : Nat) : Int).toNat < n4 - (k : Int).toNat
                omega
            · obtain rfl : k = n4 := by omega
              clear hkn hnb
              go_wp2
              have hq : ((i : Int) + 1) = ((i + 1 : Nat) : Int) := by omega
              rw [hq]
              refine ⟨⟨i + 1, rfl, hi, s2, F, HS2.out, hO7.out.bk.bare, OKF, HFl.out⟩, ?_⟩
              show m - ((i + 1 : Nat) : Int).toNat < m - (i : Int).toNat
              omega
    · obtain rfl : i = m := by omega
      obtain ⟨s, E, rfl, hB, _⟩ := hI.out
      have HB0 := hidMk hB
      clear hLn hbig hin hI hB
      go_wp2
      go_ret
      exact ⟨rfl, HB0.out.bel⟩
end Go.Proofs.Ytpdepbakopdgpaa
