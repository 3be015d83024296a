import Derived.Test.YtpdepbakopdgpaaP1
set_option maxRecDepth 100000
set_option maxHeartbeats 4000000
namespace Go.Proofs.Ytpdepbakopdgpaa
open Go.RowKit Sq
set_option linter.unusedVariables false
set_option linter.unusedSimpArgs false
theorem IdsAt.get {w : World} {a : Option Addr} {L : List IdK} (h : IdsAt w a L) {k : Nat} (hk : k < L.length) : ∃ b o, a = some ⟨b, o, none⟩ ∧ b < w.heap.size ∧ w.rangeAt b (o + 33 * k) L[k].c := by
  rcases h with q | ⟨b, off, e, hl, hr⟩
  · subst q; cases hk
  · exact ⟨b, off, e, hl, hr k _ (List.getElem?_eq_getElem hk)⟩
theorem BK.getI {w W : World} {s : Sx} {F : List Elt} {L : List IdK} {Ls : List (Value × List IdK)} {v : Option Addr} {n c k : Nat} (h : BK w s F ((.slice v n c, L) :: Ls) W) (hk : k < L.length) : ∃ wb wo, v = some ⟨wb, wo, none⟩ ∧ wb < W.heap.size ∧ L[k].ok ∧ W.rangeAt wb (wo + 33 * k) L[k].c := by
  obtain ⟨a1, a2, _, _⟩ := h.ls _ (List.mem_cons_self ..)
  simp only at a1 a2
  obtain ⟨a, c', e, ia, _⟩ := a1.open a2
  cases e
  obtain ⟨b, o, e, hl, hr⟩ := ia.get hk
  exact ⟨b, o, e, hl, a2 _ (List.getElem_mem hk), hr⟩
theorem mem_take_succ {L : List IdK} {k : Nat} (hk : k < L.length) (x : IdK) : decide (x ∈ L.take (k + 1)) = (decide (x ∈ L.take k) || decide (L[k] = x)) := by
  have e : L.take (k + 1) = L.take k ++ [L[k]] := by rw [List.take_add_one, List.getElem?_eq_getElem hk]; rfl
  rw [e, Bool.eq_iff_iff]
  simp only [List.mem_append, List.mem_singleton, decide_eq_true_eq, Bool.or_eq_true]
  exact ⟨fun h => h.imp id Eq.symm, fun h => h.imp id Eq.symm⟩
theorem boxed {w W : World} {s : Sx} {F : List Elt} {Ls : List (Value × List IdK)} {x : IdK} (h : BK w s F Ls W) (hx : x.ok) : ∃ bb, bb = W.heap.size ∧ ∃ w2, (Instr.storeAt 32 (.pointer (some ⟨bb, 0, none⟩)) x.v).run Try.prog (W.alloc (.cells zId.c.toArray 32)) = .ok () w2 ∧ BK w s F Ls w2 ∧ IdAt w2 bb x ∧ Below W.heap.size W w2 := by
  obtain ⟨w2, e, hb, b2⟩ := idbox_new (w := W) hx
  exact ⟨_, rfl, w2, e, h.below b2, hb, b2⟩
set_option maxHeartbeats 8000000 in
theorem finds_all (a : Option Addr) (c : Nat) (l : List PutV) (a2 : Option Addr) (c2 : Nat) (M : List IdK) (w : World) (hP : PutsAt w a l) (ok : ∀ x ∈ l, x.ok) (hl : l.length ≤ 1048576) (hO : IdsAt w a2 M) (okM : ∀ x ∈ M, x.ok) (hM : M.length ≤ 1048576) : Calls Try.prog 8 #[.slice a l.length c, .slice a2 M.length c2] w fun e w' => e = .returned (.bool true) ∧ Below w.heap.size w w' := by
  obtain ⟨n, hn⟩ : ∃ n, l.length = n := ⟨_, rfl⟩
  obtain ⟨m, hm⟩ : ∃ m, M.length = m := ⟨_, rfl⟩
  have HLA : Hid (Calls Try.prog 22 #[.slice a n c] w fun e w' => ∃ s v m vc, e = .returned (.tuple #[.pointer (some ⟨s, 0, none⟩), .slice v m vc]) ∧ m = (couldP l).length ∧ ∃ q, q.sb = s ∧ BK w q (laidP l).1 [] w') := by
    rw [← hn]
    refine (laid_any a c l w hP ok hl).mono ?_
    rintro e w' ⟨s, v, rfl, ⟨q, e1, e2, e3, e4⟩, o, bb⟩
    obtain ⟨va, vc, rfl, _, _⟩ := o.open (laidP_ok l ok)
    exact ⟨s, va, _, vc, rfl, by rw [(could_laid l).1, List.length_map], q, e1, e2, e3, bb, fun p hp => by cases hp⟩
  have HCO : Hid (∀ W, Below w.heap.size w W → Calls Try.prog 23 #[.slice a n c] W fun e w' => e = .returned (.int .i64 ((couldP l).length : Int)) ∧ Below W.heap.size W w') := fun W bW => by
    rw [← hn]
    exact could_any a c l W (hP.below bW) ok hl
  have hlen := (laidP_len l).1
  have OKE := laid_seqok l ok
  have HLE := hidMk (laid_len_eq l)
  have HSH := hidMk (laid_shown l)
  obtain ⟨E0, hE⟩ : ∃ E, (laidP l).1 = E := ⟨_, rfl⟩
  rw [hE] at HLA hlen OKE HLE HSH
  rw [hn, hm]
  have HB := hidMk (show E0.length ≤ 1048576 by omega)
  have HMl := hidMk (And.intro hm hM)
  obtain ⟨m0, hm0⟩ : ∃ m0, (couldP l).length = m0 := ⟨_, rfl⟩
  rw [hm0] at HLA HCO HLE
  clear hm0 hE hlen hn hm hM hl
  go_enter Try.func8, Try.ntmps8
  go_wp2_with (first
    | (go_at_call 22; refine HLA.out.mono ?_; rintro e w1 ⟨sb, v, mm, vc, rfl, rfl, s, rfl, B1⟩; have C1 := hidMk B1; clear B1 HLA)
    | (go_at_call 23; refine (HCO.out _ C1.out.bel).mono ?_; rintro e w2 ⟨rfl, b2⟩; have C2 := hidMk (C1.out.below b2); clear b2 C1 HCO)
    | fail)
  have st0 : Hid (∃ s2 : Sx, s2.sb = s.sb ∧ BK w s2 (hideE E0 (M.take 0)) [] w2) := ⟨s, rfl, C2.out⟩
  generalize s.sb = sb at *
  clear C2
  go_loopw [7] (fun v7 wr => ∃ (i : Nat), v7 = .int .i64 (i : Int) ∧ i ≤ m ∧ Hid (∃ s2 : Sx, s2.sb = sb ∧ BK w s2 (hideE E0 (M.take i)) [] wr)) (fun v7 wr => m - (match v7 with | .int _ i => i.toNat | _ => 0))
  case atStart => exact ⟨0, rfl, Nat.zero_le _, st0⟩
  case round =>
    clear st0
    obtain ⟨i, rfl, hin, hI⟩ := hrel
    obtain ⟨hLn, hbig⟩ := HMl.out
    by_cases hi : i < m
    · have hi' : i < M.length := by omega
      have hm : m ≤ 1400000000000 := by omega
      obtain ⟨pb, po, rfl, hb, hr⟩ := hO.get hi'
      have hpo := okM M[i] (List.getElem_mem hi')
      have HT := hidMk (show M.take (i + 1) = M.take i ++ [M[i]] by rw [List.take_add_one, List.getElem?_eq_getElem hi']; rfl)
      generalize M[i] = x at *
      obtain ⟨s, rfl, hB⟩ := hI.out
      have CS := show_any (k := x) hB.sq hpo false
      have HB0 := hidMk hB
      clear hI hB hLn hbig
      go_upto_region 7 with fail
      refine fnd7 (x := x) (fun wz => ∃ s2 : Sx, s2.sb = s.sb ∧ BK w s2 (hideE E0 (M.take (i + 1))) [] wz) _ _ _ rfl rfl rfl rfl hpo hi hm (rangeAt_keep hr (HB0.out.bel.block pb hb)) (CS.mono fun e w' ⟨h1, s', nx⟩ => ⟨h1, s', nx.sb, by rw [HT.out, hideE_snoc]; exact HB0.out.nxt nx⟩) ?_
      intro a' w3 hw3 ha
      subst ha
      simp only [Act.put, List.setIfInBounds_toArray, List.set_cons_zero, List.set_cons_succ]
      have HI3 := hidMk hw3
      clear hw3 CS HB0 hr
      go_wp2
      have hq : ((i : Int) + 1) = ((i + 1 : Nat) : Int) := by omega
      rw [hq]
      refine ⟨⟨i + 1, rfl, hi, HI3⟩, ?_⟩
      show m - ((i + 1 : Nat) : Int).toNat < m - (i : Int).toNat
      omega
    · obtain rfl : m = i := by omega
      rw [List.take_of_length_le (by omega)] at hI
      obtain ⟨s, rfl, hB⟩ := hI.out
      have OKF := OKE.hide M
      have HFS : Hid (∀ (i : Nat) (hi : i < (hideE E0 M).length), (hideE E0 M)[i].sh = !decide ((hideE E0 M)[i].id ∈ M)) := fun i hi => hideE_sh HSH.out M hi
      have HFL := hidMk (hideE_len E0 M)
      obtain ⟨F, hF⟩ : ∃ F, hideE E0 M = F := ⟨_, rfl⟩
      rw [hF] at OKF HFS HFL hB
      have HB0 := hidMk hB
      clear hF hLn hbig hin hI hB
      generalize wr = wx at *
      go_wp2_with (first
        | (go_at_call 24; refine HB0.out.ids.mono ?_; rintro e w3 ⟨v3, n3, c3, rfl, hn3, B3⟩; have C3 := hidMk B3; have HN3 := hidMk hn3; clear B3 HB0 hn3)
        | fail)
      have HN : Hid (n3 = F.length ∧ n3 ≤ 1048576) := by
        have h1 := HN3.out.1
        have h2 : (idsE F false).length = F.length := by simp only [idsE, visE_all, List.length_map]
        have := HFL.out
        have := HB.out
        exact ⟨by omega, by omega⟩
      have HID : Hid (∀ (k : Nat) (hk : k < F.length) (hk2 : k < (idsE F false).length), (idsE F false)[k] = F[k].id) := fun k hk hk2 => by
        have e : idsE F false = F.map (·.id) := by simp only [idsE, visE_all]
        simp only [e, List.getElem_map]
      have HIL : Hid ((idsE F false).length = F.length) := by show _ = _; simp only [idsE, visE_all, List.length_map]
      clear HN3
      go_loopw [9, 10] (fun v9 v10 wr => ∃ (k : Nat), v9 = .int .i64 (((F.take k).countP (cE true) : Nat) : Int) ∧ v10 = .int .i64 (k : Int) ∧ k ≤ n3 ∧ Hid (BK w s F [(.slice v3 n3 c3, idsE F false)] wr)) (fun v9 v10 wr => n3 - (match v10 with | .int _ i => i.toNat | _ => 0))
      case atStart => exact ⟨0, rfl, rfl, Nat.zero_le _, C3⟩
      case round =>
        clear C3
        obtain ⟨k, rfl, rfl, hkn, hB⟩ := hrel
        have hnb := HN.out.2
        by_cases hk : k < n3
        · have hkF : k < F.length := by rw [← HN.out.1]; exact hk
          obtain ⟨wb, wo, rfl, hwb, hx, hr4⟩ := hB.out.getI (k := k) (by rw [HIL.out]; exact hkF)
          have HCT := hidMk (cnt_take true hkF)
          have HNG := hidMk (nth_get hkF)
          have HVG := hidMk (vis_get hkF)
          have HSX := HFS.out k hkF
          have HRK := hidMk (rank_get OKF hkF)
          have HXK := hidMk (ahead_get OKF true hkF)
          rw [HID.out k hkF] at hx hr4
          obtain ⟨q, hq⟩ : ∃ q, (F.take k).countP (cE true) = q := ⟨_, rfl⟩
          have HQL : Hid (q ≤ 1048576) := by
            have h1 := List.countP_le_length (p := cE true) (l := F.take k)
            rw [List.length_take] at h1
            show q ≤ 1048576
            omega
          rw [hq] at HCT HVG HXK ⊢
          have hcE : cE true F[k] = F[k].sh := rfl
          rw [hcE] at HCT
          have HSQ := hidMk HSX
          clear HSX hcE hq
          generalize F[k].id = x at *
          generalize F[k].sh = sh at *
          have hkz : -9223372036854775808 ≤ (k : Int) ∧ (k : Int) ≤ 9223372036854775807 := by omega
          have CA := at_any hB.out.sq (k : Int) hkz
          rw [HNG.out] at CA
          obtain ⟨Ls, hLs⟩ : ∃ Ls, (Value.slice (some ⟨wb, wo, none⟩) n3 c3, idsE F false) :: [] = Ls := ⟨_, rfl⟩
          rw [hLs] at hB
          have HLS := hidMk hLs
          have hnb2 : n3 ≤ 1400000000000 := by omega
          have HCR : Hid (∀ X, BK w s F Ls X → Calls Try.prog 27 #[.pointer (some ⟨s.sb, 0, none⟩), x.v] X fun e w' => e = .returned (.int .i64 (k : Int)) ∧ Below X.heap.size X w') := fun X h => by
            have := rank_any h.sq hx
            rw [HRK.out] at this
            exact this
          have HCX : Hid (∀ X, BK w s F Ls X → Calls Try.prog 32 #[.pointer (some ⟨s.sb, 0, none⟩), x.v] X fun e w' => e = .returned (.int .i64 (q : Int)) ∧ Below X.heap.size X w') := fun X h => by
            have := index_any h.sq hx
            rw [HXK.out] at this
            exact this
          have HXL := hidMk (show 0 < x.c.length by rw [IdK.len hx]; omega)
          clear hLs HNG hkz HRK HXK
          go_upto_region 13 with fail
          refine fnd13 (x := x) (g := true) (fun bb wz => BK w s F Ls wz ∧ IdAt wz bb x ∧ wz.rangeAt wb (wo + 33 * k) x.c) _ _ _ rfl rfl rfl (CA.mono fun e w' ⟨h1, h2⟩ => by
            obtain ⟨bb, e1, w2, e2, e3, e4, e5⟩ := boxed (hB.out.below h2) hx
            exact ⟨h1, bb, e1, w2, e2, e3, e4, rangeAt_below (rangeAt_below hr4 h2 hwb) e5 (Nat.lt_of_lt_of_le hwb h2.size)⟩) ?_
          rintro bb a' w4 ⟨B4, X4, R4⟩ ha
          subst ha
          simp only [Act.put, List.setIfInBounds_toArray, List.set_cons_zero, List.set_cons_succ]
          clear CA hB hr4
          go_upto_region 14 with fail
          refine fnd14 (x := x) (q := (q : Int)) (fun wz => BK w s F Ls wz ∧ IdAt wz bb x ∧ wz.rangeAt wb (wo + 33 * k) x.c) _ _ _ rfl rfl rfl rfl rfl rfl rfl hx hk hnb2 ⟨B4.drew, X4, R4⟩ (fun X h => h.2.2) (fun X h => h.2.1)
            (fun X h => (HCR.out X h.1).mono fun e w' ⟨h1, h2⟩ => ⟨h1, h.1.below h2, h.2.1.below h2, rangeAt_below h.2.2 h2 (rangeAt_lt h.2.2 HXL.out)⟩)
            (fun X h => (HCX.out X h.1).mono fun e w' ⟨h1, h2⟩ => ⟨h1, h.1.below h2, h.2.1.below h2, rangeAt_below h.2.2 h2 (rangeAt_lt h.2.2 HXL.out)⟩) ?_
          rintro a' w5 ⟨B5, X5, R5⟩ ha
          subst ha
          simp only [Act.put, List.setIfInBounds_toArray, List.set_cons_zero, List.set_cons_succ]
          have C5 := hidMk (And.intro B5 X5)
          clear B4 X4 R4 B5 X5 R5 HCR HCX
          generalize wr = wy at *
          go_wp2
          go_loopw [13, 14] (fun v13 v14 wr => ∃ (j : Nat), v13 = .bool (decide (x ∈ M.take j)) ∧ v14 = .int .i64 (j : Int) ∧ j ≤ m ∧ Hid (BK w s F Ls wr ∧ IdAt wr bb x)) (fun v13 v14 wr => m - (match v14 with | .int _ i => i.toNat | _ => 0))
          case atStart => exact ⟨0, by simp, rfl, Nat.zero_le _, C5⟩
          case round =>
            clear C5
            obtain ⟨j, rfl, rfl, hjm, hC⟩ := hrel
            obtain ⟨hLn, hbig⟩ := HMl.out
            by_cases hj : j < m
            · have hj' : j < M.length := by omega
              have hm : m ≤ 1400000000000 := by omega
              obtain ⟨pb, po, rfl, hb, hr⟩ := hO.get hj'
              have hy := okM M[j] (List.getElem_mem hj')
              have HMT := hidMk (mem_take_succ hj' x)
              generalize M[j] = y at *
              have hR := rangeAt_keep hr (hC.out.1.bel.block pb hb)
              have HD : Hid (decide (x ∈ M.take (j + 1)) = (decide (x ∈ M.take j) || decide (y = x))) := HMT.out
              cases hd : decide (x ∈ M.take j) with
              | true =>
                rw [hd] at HD
                clear hd HMT hLn hbig
                go_upto_region 20 with fail
                refine fnd20a (x := x) _ _ _ rfl rfl rfl rfl rfl ?_
                intro a' w6 hw6 ha
                subst ha
                obtain rfl : w6 = wr.drew := hw6
                simp only [Act.put, List.setIfInBounds_toArray, List.set_cons_zero, List.set_cons_succ]
                have C6 := hidMk (And.intro hC.out.1.drew (show IdAt wr.drew bb x from hC.out.2))
                clear hC hR hr
                generalize wr.drew = w6 at *
                go_wp2
                have hq : ((j : Int) + 1) = ((j + 1 : Nat) : Int) := by omega
                rw [hq]
                refine ⟨⟨j + 1, by rw [HD.out]; rfl, rfl, hj, C6⟩, ?_⟩
                show m - ((j + 1 : Nat) : Int).toNat < m - (j : Int).toNat
                omega
              | false =>
                rw [hd] at HD
                clear hd HMT hLn hbig
                go_upto_region 20 with fail
                refine fnd20b (x := x) (y := y) (g := decide (y = x)) _ _ _ rfl rfl rfl rfl rfl hx hj hm hy hR hC.out.2 rfl ?_
                intro a' w6 hw6 ha
                subst ha
                obtain rfl : w6 = wr.drew := hw6
                simp only [Act.put, List.setIfInBounds_toArray, List.set_cons_zero, List.set_cons_succ]
                have C6 := hidMk (And.intro hC.out.1.drew (show IdAt wr.drew bb x from hC.out.2))
                clear hC hR hr
                generalize wr.drew = w6 at *
                generalize decide (y = x) = g at *
                go_wp2
                have hq : ((j : Int) + 1) = ((j + 1 : Nat) : Int) := by omega
                rw [hq]
                refine ⟨⟨j + 1, by rw [HD.out]; rfl, rfl, hj, C6⟩, ?_⟩
                show m - ((j + 1 : Nat) : Int).toNat < m - (j : Int).toNat
                omega
            · obtain rfl : m = j := by omega
              rw [List.take_of_length_le (by omega)]
              have HE := HSQ.out
              cases hd : decide (x ∈ M) with
              | true =>
                rw [hd] at HE
                have HSF := hidMk HE
                clear hd HE hLn hbig hjm
                go_wp2
                have hq2 : ((k : Int) + 1) = ((k + 1 : Nat) : Int) := by omega
                rw [hq2]
                refine ⟨⟨k + 1, by rw [HCT.out, HSF.out]; rfl, rfl, hk, by rw [HLS.out]; exact hC.out.1⟩, ?_⟩
                show n3 - ((k + 1 : Nat) : Int).toNat < n3 - (k : Int).toNat
                omega
              | false =>
                rw [hd] at HE
                have HSF := hidMk HE
                have hqz : -9223372036854775808 ≤ (q : Int) ∧ (q : Int) ≤ 9223372036854775807 := by have := HQL.out; omega
                have CN := nth_any hC.out.1.sq (q : Int) hqz
                rw [HVG.out HSF.out] at CN
                clear hd HE hLn hbig hjm hqz
                go_upto_region 22 with fail
                refine fnd22 (x := x) (g := true) (fun b2 wz => BK w s F Ls wz ∧ IdAt wz bb x ∧ IdAt wz b2 x) _ _ _ rfl rfl rfl (CN.mono fun e w' ⟨h1, h2⟩ => by
                  obtain ⟨b2, e1, w2, e2, e3, e4, e5⟩ := boxed (hC.out.1.below h2) hx
                  exact ⟨h1, b2, e1, w2, e2, e3, (hC.out.2.below h2).below e5, e4⟩) ?_
                rintro b2 a' w6 ⟨B6, X6, Y6⟩ ha
                subst ha
                simp only [Act.put, List.setIfInBounds_toArray, List.set_cons_zero, List.set_cons_succ]
                clear CN hC
                go_upto_region 23 with fail
                refine fnd23 (x := x) (y := x) _ _ _ rfl rfl rfl rfl hx hx rfl X6 Y6 ?_
                intro a' w7 hw7 ha
                subst ha
                obtain rfl : w7 = w6 := hw7
                simp only [Act.put, List.setIfInBounds_toArray, List.set_cons_zero, List.set_cons_succ]
                have C7 := hidMk B6
                have hql := HQL.out
                clear B6 X6 Y6
                go_wp2
                have hq2 : ((k : Int) + 1) = ((k + 1 : Nat) : Int) := by omega
                have hq3 : ((q : Int) + 1) = ((q + 1 : Nat) : Int) := by omega
                rw [hq2, hq3]
                refine ⟨⟨k + 1, by rw [HCT.out, HSF.out]; rfl, rfl, hk, by rw [HLS.out]; exact C7.out⟩, ?_⟩
                show n3 - ((k + 1 : Nat) : Int).toNat < n3 - (k : Int).toNat
                omega
        · obtain rfl : k = n3 := by omega
          have hF1 : F.take k = F := List.take_of_length_le (by have := HN.out.1; omega)
          have hv1 : (visE F false).length = k := by rw [visE_all]; exact HN.out.1.symm
          have hv2 : F.countP (cE true) = (visE F true).length := by unfold visE; rw [List.countP_eq_length_filter]
          rw [hF1, hv2]
          have HP1 := hidMk (nth_past F false hv1)
          have HP2 := hidMk (nth_past F true (rfl : (visE F true).length = (visE F true).length))
          have HSW : Hid (∀ X, BK w s F [] X → Calls Try.prog 34 #[.pointer (some ⟨s.sb, 0, none⟩)] X fun e w' => e = .returned (.int .i64 ((visE F true).length : Int)) ∧ Below X.heap.size X w') := fun X h => shown_any h.sq
          have hql : (visE F true).length ≤ 1048576 := by
            have h1 := List.length_filter_le (cE true) F
            have := HN.out
            show (List.filter (cE true) F).length ≤ 1048576
            omega
          have HMM : k = mm := by rw [HN.out.1, HFL.out]; exact HLE.out
          have CA := at_any hB.out.sq (k : Int) (by omega)
          rw [HP1.out] at CA
          have HNT : Hid (∀ X, BK w s F [] X → Calls Try.prog 33 #[.pointer (some ⟨s.sb, 0, none⟩), .int .i64 ((visE F true).length : Int)] X fun e w' => e = .returned (.tuple #[zId.v, .bool false]) ∧ Below X.heap.size X w') := fun X h => by
            have := nth_any h.sq ((visE F true).length : Int) (by omega)
            rw [HP2.out] at this
            exact this
          have C0 := hidMk hB.out.bare
          generalize (visE F true).length = q at *
          clear hF1 hv1 hv2 HP1 HP2 hkn hB
          subst HMM
          go_upto_region 26 with fail
          refine fnd26 (x := zId) (g := false) (fun bb wz => BK w s F [] wz) _ _ _ rfl rfl rfl (CA.mono fun e w' ⟨h1, h2⟩ => by
            obtain ⟨bb, e1, w2, e2, e3, e4, e5⟩ := boxed (C0.out.below h2) zId_ok
            exact ⟨h1, bb, e1, w2, e2, e3⟩) ?_
          rintro bb a' w4 B4 ha
          subst ha
          simp only [Act.put, List.setIfInBounds_toArray, List.set_cons_zero, List.set_cons_succ]
          clear CA C0
          go_upto_region 27 with fail
          refine fnd27 (x := zId) (g := false) (fun bb wz => BK w s F [] wz) _ _ _ rfl rfl rfl ((HNT.out w4 B4).mono fun e w' ⟨h1, h2⟩ => by
            obtain ⟨bb, e1, w2, e2, e3, e4, e5⟩ := boxed (B4.below h2) zId_ok
            exact ⟨h1, bb, e1, w2, e2, e3⟩) ?_
          rintro bb2 a' w5 B5 ha
          subst ha
          simp only [Act.put, List.setIfInBounds_toArray, List.set_cons_zero, List.set_cons_succ]
          have C5 := hidMk B5
          clear B4 B5 HNT
          go_wp2_with (first
            | (go_at_call 34; refine (HSW.out _ C5.out).mono ?_; rintro e w6 ⟨rfl, b6⟩; have C6 := hidMk (C5.out.below b6); clear b6 C5)
            | fail)
          go_ret
          exact ⟨by simp, C6.out.bel⟩
end Go.Proofs.Ytpdepbakopdgpaa
