import Derived.Test.YtlejbdepoemcjaaXu
namespace Go.Proofs.Ytlejbdepoemcjaa
open Go.RowKit Sq
set_option linter.unusedVariables false
set_option linter.unusedSimpArgs false

/-- The spot that counts and has so many ahead of it. -/
def nth (l : List Nat) (k : Int) : Nat := if 0 ≤ k ∧ k < (l.length : Int) then l.getD k.toNat 0 else 0
theorem nth_left {A B : List Nat} {i : Nat} {x : Bool} {k : Int} (h : k < (A.length : Int)) : nth (A ++ ((if x then [i] else []) ++ B)) k = nth A k := by
  obtain ⟨M, hM⟩ : ∃ M : List Nat, M = if x then [i] else [] := ⟨_, rfl⟩
  rw [← hM]
  unfold nth
  by_cases h0 : 0 ≤ k
  · rw [if_pos ⟨h0, by simp only [List.length_append]; omega⟩, if_pos ⟨h0, h⟩, List.getD_eq_getElem?_getD, List.getD_eq_getElem?_getD, List.getElem?_append_left (by omega)]
  · rw [if_neg (fun q => h0 q.1), if_neg (fun q => h0 q.1)]
theorem nth_mid {A B : List Nat} {i : Nat} {x : Bool} {k : Int} (h1 : ¬ k < (A.length : Int)) (h2 : k < ((A.length + if x = true then 1 else 0 : Nat) : Int)) : nth (A ++ ((if x then [i] else []) ++ B)) k = i := by
  cases x with
  | false => simp at h2; omega
  | true =>
    simp only [if_true] at h2 ⊢
    have hk : k = (A.length : Int) := by omega
    subst hk
    unfold nth
    rw [if_pos ⟨by omega, by simp only [List.length_append, List.length_cons, List.length_nil]; omega⟩, List.getD_eq_getElem?_getD, Int.toNat_natCast, List.getElem?_append_right (Nat.le_refl _)]
    simp
theorem nth_right {A B : List Nat} {i : Nat} {x : Bool} {k : Int} (h2 : ¬ k < ((A.length + if x = true then 1 else 0 : Nat) : Int)) : nth (A ++ ((if x then [i] else []) ++ B)) k = nth B (k - ((A.length + if x = true then 1 else 0 : Nat) : Int)) := by
  obtain ⟨M, hM⟩ : ∃ M : List Nat, M = if x then [i] else [] := ⟨_, rfl⟩
  have hl : M.length = if x = true then 1 else 0 := by rw [hM]; cases x <;> rfl
  rw [← hl] at h2 ⊢
  rw [← hM]
  clear hl hM
  unfold nth
  by_cases h : k - ((A.length + M.length : Nat) : Int) < (B.length : Int)
  · rw [if_pos ⟨by omega, by simp only [List.length_append]; omega⟩, if_pos ⟨by omega, h⟩, List.getD_eq_getElem?_getD, List.getD_eq_getElem?_getD, ← List.append_assoc, List.getElem?_append_right (by simp only [List.length_append]; omega)]
    congr 2
    simp only [List.length_append]
    omega
  · rw [if_neg (fun q => h (by have := q.2; simp only [List.length_append] at this; omega)), if_neg (fun q => h q.2)]
def vis (L : List Sp) (c : Bool) (t : T) : List Nat := t.ids.filter (cq L c)
theorem vis_nd (L : List Sp) (c : Bool) (i : Nat) (l r : T) : vis L c (.nd i l r) = vis L c l ++ ((if cq L c i then [i] else []) ++ vis L c r) := by
  unfold vis
  rw [T.ids, List.filter_append, List.filter_cons]
  cases cq L c i <;> simp
theorem vis_len (L : List Sp) (c : Bool) (t : T) : (vis L c t).length = cnt L c t := by
  unfold vis
  rw [cnt_cq, List.countP_eq_length_filter]
section
variable {w : World} {rb ro g cap i n : Nat} {L : List Sp}
set_option maxRecDepth 100000 in
set_option maxHeartbeats 2000000 in
theorem rfind_any {t : T} (c : Bool) (k : Int) (hk : -9223372036854775808 ≤ k ∧ k ≤ 9223372036854775807) (h : SqAt w rb ro g cap L) (hg : Good L t) :
    Calls Try.prog 87 #[.pointer (some ⟨rb, ro, none⟩), .int .i64 k, .int .i64 (nb c : Int)] w fun e w' => e = .returned (.int .i64 (nth (vis L c t) k : Int)) ∧ Qt w w' := by
  have hl := h.len
  have HRT := hidMk (root_any h hg)
  obtain ⟨res, hres⟩ : ∃ res, nth (vis L c t) k = res := ⟨_, rfl⟩
  rw [hres]
  have HRES := hidMk hres
  have HK := hidMk hk
  clear hres hk
  go_enter Try.func87, Try.ntmps87
  go_wp2_with (first
    | (go_at_call 94; refine HRT.out.mono ?_; rintro e w1 ⟨rfl, hw⟩; obtain rfl := hw; clear HRT)
    | fail)
  go_loopw [1, 7] (fun v1 v7 wr => ∃ (t1 : T) (p a : Nat) (k1 : Int), v1 = .int .i64 k1 ∧ v7 = .int .i64 (a : Int) ∧ a = t1.ix ∧ Rep L p t1 ∧ Cnt L t1 ∧ t1.ids.length ≤ L.length ∧ nth (vis L c t1) k1 = res ∧ (-9223372036854775808 ≤ k1 ∧ k1 ≤ 9223372036854775807) ∧ Qt w1 wr) (fun _ v7 _ => (gt L (intOf v7).toNat).ca)
  case atStart => exact ⟨t, 0, t.ix, k, rfl, rfl, rfl, hg.zip.rep, hg.cnt, by have := ids_le hg.zip; omega, HRES.out, HK.out, Qt.refl _⟩
  case round =>
    clear HRES HK
    obtain ⟨t1, p, a, k1, rfl, rfl, ha, hr, hc, hle, hn, hkb, q⟩ := hrel
    have HN := hidMk hn
    have HKB := hidMk hkb
    clear hn hkb
    have hx := h.qt q
    cases t1 with
    | nil =>
      obtain rfl : a = 0 := ha
      have HZ := hidMk (show res = 0 by rw [← HN.out]; simp [nth, vis, T.ids])
      clear HN hr hc hle
      go_wp2
      go_ret
      exact ⟨by rw [HZ.out]; rfl, q⟩
    | nd j l r =>
      obtain rfl : a = j := ha
      obtain ⟨r1, r2, r3, r4, r5, r6, r7⟩ := hr
      have ha0 : ¬ (a : Int) = 0 := by omega
      have hdl : dn (gt L a) false = l.ix := r4
      have hdr : dn (gt L a) true = r.ix := r5
      have lids : l.ids.length + r.ids.length + 1 ≤ L.length := by simp [T.ids] at hle; omega
      have eu : under L a false c = (vis L c l).length := by rw [vis_len, cnt_cq]; exact under_nd ⟨r1, r2, r3, r4, r5, r6, r7⟩ hc.2.1 hg.zip.z c
      have vle : (vis L c l).length ≤ l.ids.length := List.length_filter_le _ _
      have HU := hidMk (under_any (b := false) (c := c) hx r2 (show dn (gt L a) false < L.length by rw [hdl]; exact ix_lt r6 hg.pos))
      have HT := hidMk (fun (W : World) (qW : Qt w1 W) => upTo_any (c := c) (h.qt qW) r2 (show (gt L a).l < L.length by rw [r4]; exact ix_lt r6 hg.pos) (by rw [eu]; omega))
      have et : upTo L a c = (vis L c l).length + if cq L c a = true then 1 else 0 := by unfold upTo; rw [eu, own_cq]
      rw [eu] at HU
      rw [et] at HT
      have HV := hidMk (vis_nd L c a l r)
      have HCA := hidMk (show (gt L a).ca = (T.nd a l r).ids.length by
        have := hc.1 false
        simp only [ct, Bool.false_eq_true, if_false] at this
        rw [this]
        simp [cnt])
      have hcl : (gt L l.ix).ca = l.ids.length := by
        have := hc.2.1.at hg.zip.z false
        simp only [ct, Bool.false_eq_true, if_false] at this
        rw [this]
        simp [cnt]
      have hcr : (gt L r.ix).ca = r.ids.length := by
        have := hc.2.2.at hg.zip.z false
        simp only [ct, Bool.false_eq_true, if_false] at this
        rw [this]
        simp [cnt]
      have HCL := hidMk hcl
      have HCR := hidMk hcr
      obtain ⟨x, hx1⟩ : ∃ x, (vis L c l).length + (if cq L c a = true then 1 else 0) = x := ⟨_, rfl⟩
      have hxb : x ≤ 1400000000001 := by rw [← hx1]; split <;> omega
      rw [hx1] at HT
      have HX := hidMk hx1
      obtain ⟨u, hu1⟩ : ∃ u, (vis L c l).length = u := ⟨_, rfl⟩
      rw [hu1] at HU
      have HUU := hidMk hu1
      clear et eu hx1 hu1 hcl hcr vle
      go_upto_region 3 with fail
      refine find3 (c := c) (u := u) (x := x) (fun w' => Qt w1 w') _ _ _ rfl rfl rfl rfl ?_ ?_
      · refine HU.out.mono ?_
        rintro e wa ⟨rfl, qa⟩
        refine ⟨rfl, ?_⟩
        refine (HT.out _ (q.trans qa)).mono ?_
        rintro e wb ⟨rfl, qb⟩
        exact ⟨rfl, (q.trans qa).trans qb⟩
      intro a' w2 q2 ha
      subst ha
      have h2 := h.qt q2
      simp only [Act.put, List.setIfInBounds_toArray, List.set_cons_zero, List.set_cons_succ, Nat.add_zero]
      clear HU HT
      go_upto_region 6 with fail
      refine find6 (k := k1) (u := u) (r := decide (k1 < (u : Int))) _ _ _ rfl rfl rfl rfl ?_
      intro a' w3 hw ha
      subst ha
      obtain rfl : w3 = w2 := hw
      simp only [Act.put, List.setIfInBounds_toArray, List.set_cons_zero, List.set_cons_succ, Nat.add_zero]
      by_cases hku : k1 < (u : Int)
      · rw [show decide (k1 < (u : Int)) = true from decide_eq_true hku]
        have HN2 := hidMk (show nth (vis L c l) k1 = res by rw [← HN.out, HV.out, nth_left (by rw [HUU.out]; exact hku)])
        clear hku
        go_upto_region 7 with fail
        refine find7 (i := a) _ _ _ rfl rfl rfl h2 r2 ?_
        rw [hdl]
        intro a' w4 hw ha
        subst ha
        obtain rfl : w4 = w3 := hw
        simp only [Act.put, List.setIfInBounds_toArray, List.set_cons_zero, List.set_cons_succ, Nat.add_zero]
        clear hdl hdr
        go_wp2
        refine ⟨⟨l, a, l.ix, k1, rfl, rfl, rfl, r6, hc.2.1, by omega, HN2.out, HKB.out, q2⟩, ?_⟩
        show (gt L (l.ix : Int).toNat).ca < (gt L (a : Int).toNat).ca
        rw [Int.toNat_natCast, Int.toNat_natCast, HCL.out, HCA.out]
        simp only [T.ids, List.length_append, List.length_cons]
        omega
      · rw [show decide (k1 < (u : Int)) = false from decide_eq_false hku]
        go_upto_region 8 with fail
        refine find8 (k := k1) (x := x) (r := decide (k1 < (x : Int))) _ _ _ rfl rfl rfl rfl ?_
        intro a' w4 hw ha
        subst ha
        obtain rfl : w4 = w3 := hw
        simp only [Act.put, List.setIfInBounds_toArray, List.set_cons_zero, List.set_cons_succ, Nat.add_zero]
        by_cases hkx : k1 < (x : Int)
        · rw [show decide (k1 < (x : Int)) = true from decide_eq_true hkx]
          have HN2 := hidMk (show res = a by rw [← HN.out, HV.out, nth_mid (by rw [HUU.out]; exact hku) (by rw [HX.out]; exact hkx)])
          clear hku hkx
          go_wp2
          go_ret
          exact ⟨by rw [HN2.out]; rfl, q2⟩
        · rw [show decide (k1 < (x : Int)) = false from decide_eq_false hkx]
          have HN2 := hidMk (show nth (vis L c r) (k1 - (x : Int)) = res by
            rw [← HN.out, HV.out, nth_right (by rw [HX.out]; exact hkx), HX.out])
          have hkb := HKB.out
          have HK2 := hidMk (show -9223372036854775808 ≤ k1 - (x : Int) ∧ k1 - (x : Int) ≤ 9223372036854775807 by omega)
          clear hku hkx hkb
          go_upto_region 4 with fail
          refine find4 (k := k1) (x := x) _ _ _ rfl rfl rfl HK2.out ?_
          intro a' w5 hw ha
          subst ha
          obtain rfl : w5 = w4 := hw
          simp only [Act.put, List.setIfInBounds_toArray, List.set_cons_zero, List.set_cons_succ, Nat.add_zero]
          obtain ⟨k2, hk2⟩ : ∃ k2, k1 - (x : Int) = k2 := ⟨_, rfl⟩
          rw [hk2] at HN2 HK2 ⊢
          clear hk2
          go_upto_region 5 with fail
          refine find5 (i := a) _ _ _ rfl rfl rfl h2 r2 ?_
          rw [hdr]
          intro a' w6 hw ha
          subst ha
          obtain rfl : w6 = w5 := hw
          simp only [Act.put, List.setIfInBounds_toArray, List.set_cons_zero, List.set_cons_succ, Nat.add_zero]
          clear hdl hdr
          go_wp2
          refine ⟨⟨r, a, r.ix, k2, rfl, rfl, rfl, r7, hc.2.2, by omega, HN2.out, HK2.out, q2⟩, ?_⟩
          show (gt L (r.ix : Int).toNat).ca < (gt L (a : Int).toNat).ca
          rw [Int.toNat_natCast, Int.toNat_natCast, HCR.out, HCA.out]
          simp only [T.ids, List.length_append, List.length_cons]
          omega
end
end Go.Proofs.Ytlejbdepoemcjaa
