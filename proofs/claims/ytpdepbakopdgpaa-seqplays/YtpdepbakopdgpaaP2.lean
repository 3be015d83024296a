import Derived.Test.YtpdepbakopdgpaaP1
import Derived.Test.YtpdepbakopdgpaaP0
import Derived.Test.YtpdepbakopdgpaaZr
import Derived.Test.YtpdepbakopdgpaaXi
set_option maxRecDepth 100000
set_option maxHeartbeats 4000000
namespace Go.Proofs.Ytpdepbakopdgpaa
open Go.RowKit Sq
set_option linter.unusedVariables false
set_option linter.unusedSimpArgs false
theorem own_putC {w : World} {base g n cap r e sz : Nat} {F : List Value} (h : w.ownsRow base e sz (.slice (some ⟨g, 0, none⟩) n cap) n F) (x : Value) (hr : r < F.length) : (w.setCell ⟨g, r, none⟩ x).ownsRow base e sz (.slice (some ⟨g, 0, none⟩) n cap) n (F.set r x) := by
  refine ⟨by rw [List.length_set]; exact h.1, ?_⟩
  rcases h.2 with ⟨e1, _⟩ | ⟨g2, cap2, cur, e1, hb, hg, hnc, hcm, hcs, ht⟩
  · cases e1
  · cases e1
    refine .inr ⟨g, cap, cur.setIfInBounds r x, rfl, hb, Go.heap_setCell_same _ _ r _ _ _ hg, hnc, hcm, by rw [Array.size_setIfInBounds]; exact hcs, ?_⟩
    rw [Array.toList_setIfInBounds, List.take_set, ht]
theorem RowT.flat_set {κ : Type} {R : RowT κ} (I : R.Is) {L : List κ} (ok : ∀ x ∈ L, R.ok x) {i : Nat} (hi : i < L.length) {j : Nat} (hj : j < R.k) {x : κ} {u : Value} (hx : R.c x = (R.c L[i]).set j u) : (R.flat L).set (R.k * i + j) u = R.flat (L.set i x) := by
  have e : L = L.take i ++ L[i] :: L.drop (i + 1) := by rw [List.getElem_cons_drop]; exact (List.take_append_drop i L).symm
  have hl : (L.take i).length = i := by rw [List.length_take]; omega
  have oky := ok L[i] (List.getElem_mem hi)
  have okA : ∀ x ∈ L.take i, R.ok x := fun x hx => ok x (List.mem_of_mem_take hx)
  generalize L[i] = y at *
  have e2 : L.set i x = L.take i ++ x :: L.drop (i + 1) := by
    conv => lhs; rw [e]
    rw [List.set_append_right _ _ (by omega), hl]; simp
  have lA := RowT.flat_len I okA
  rw [hl] at lA
  have ly := I.len y oky
  rw [e2]
  conv => lhs; rw [e]
  rw [RowT.flat_app, RowT.flat_app, RowT.flat_cons, RowT.flat_cons, hx, List.set_append_right _ _ (by omega), lA, show R.k * i + j - R.k * i = j by omega, List.set_append_left _ _ (by omega)]
theorem RowT.own_setCell {κ : Type} {R : RowT κ} (I : R.Is) {w : World} {base : Nat} {g cap n : Nat} {L : List κ} (own : R.Own w base (.slice (some ⟨g, 0, none⟩) n cap) L) (hn : n = L.length) (ok : ∀ x ∈ L, R.ok x) {i : Nat} (hi : i < L.length) {j : Nat} (hj : j < R.k) {x : κ} {u : Value} (hx : R.c x = (R.c L[i]).set j u) : R.Own (w.setCell ⟨g, R.k * i + j, none⟩ u) base (.slice (some ⟨g, 0, none⟩) n cap) (L.set i x) := by
  subst hn
  unfold RowT.Own
  rw [List.length_set, ← RowT.flat_set I ok hi hj hx]
  refine own_putC own u ?_
  rw [RowT.flat_len I ok]
  have := Nat.mul_le_mul_left R.k (show i + 1 ≤ L.length from hi)
  rw [Nat.mul_succ] at this
  omega
structure RNxt (w : World) (base d : Nat) (v : Value) (R' : List Elt) (v' : Value) (w' : World) : Prop where
  at' : RefAt w' base d v' R'
  tch : Tch (fun j => j = d ∨ v.ownBlock = some j) w w'
  own : ∀ k, v'.ownBlock = some k → v.ownBlock = some k ∨ w.heap.size ≤ k
theorem RNxt.same {w w' : World} {base d : Nat} {v : Value} {R : List Elt} (h : RefAt w base d v R) (b : Below w.heap.size w w') : RNxt w base d v R v w' := ⟨h.below b, tch_below b _, fun k hk => .inl hk⟩
theorem Elt.setSh (e : Elt) (s : Bool) (h : e.wf) : Elt.c { e with sh := s } = (Elt.c e).set 66 (.bool s) := by
  have l1 := IdK.len h.1
  have l2 := IdK.len h.2
  unfold Elt.c
  simp only
  rw [List.set_append_right _ _ (by omega), l1, List.set_append_right _ _ (by omega), l2]
  rfl
section
variable {w : World} {base d : Nat} {v : Value} {R : List Elt}
theorem insert_at (h : RefAt w base d v R) {k b : IdK} (hk : k.ok) (hb : b.ok) (hl : R.length + 1 ≤ 1400000000000) (hbase : base ≤ w.heap.size) : Calls Try.prog 13 #[.pointer (some ⟨d, 0, none⟩), k.v, b.v] w fun e w' => e = .returned (.int .i64 (insC R k b : Int)) ∧ ∃ v', RNxt w base d v (insD R k b) v' w' := by
  obtain ⟨hx, hy, bx, zx⟩ := two_boxes w k b
  have HFK : Hid (∀ W, RefAt W base d v R → Calls Try.prog 38 #[.pointer (some ⟨d, 0, none⟩), k.v] W fun e w' => e = .returned (.int .i64 (aheadE R false k)) ∧ Below W.heap.size W w') := fun W hW => find_at hW hk
  have HFB : Hid (∀ W, RefAt W base d v R → Calls Try.prog 38 #[.pointer (some ⟨d, 0, none⟩), b.v] W fun e w' => e = .returned (.int .i64 (aheadE R false b)) ∧ Below W.heap.size W w') := fun W hW => find_at hW hb
  have gK : decide (aheadE R false k ≥ 0) = hasE R k := by
    cases q : hasE R k with
    | true => exact decide_eq_true (rank_pos q)
    | false => exact decide_eq_false (by rw [rank_neg q]; omega)
  have gB : decide (aheadE R false b < 0) = !hasE R b := by
    cases q : hasE R b with
    | true => exact decide_eq_false (by have := rank_pos (c := false) q; omega)
    | false => exact decide_eq_true (by rw [rank_neg q]; omega)
  have HC : Hid (insC R k b = if k.n < 1 then 2 else if hasE R k = true then 5 else if b ≠ zId ∧ hasE R b = false then 4 else 0) := rfl
  have HD : Hid (insD R k b = if insC R k b = 0 then R ++ [⟨k, b, true⟩] else R) := rfl
  have HOK := hidMk (h.ok.ins hk hb)
  generalize insD R k b = R' at *
  generalize insC R k b = cc at *
  show Calls Try.prog 13 #[.pointer (some ⟨d, 0, none⟩), .agg k.c.toArray, .agg b.c.toArray] w _
  go_enter Try.func13, Try.ntmps13
  go_upto_region 3 with fail
  generalize (w.alloc (.cells k.c.toArray 32)).alloc (.cells b.c.toArray 32) = wx at *
  have hR1 := h.below bx
  have HZX := hidMk zx
  clear zx
  by_cases hn : k.n < 1
  · have e1 : cc = 2 := by rw [HC.out, if_pos hn]
    have e2 : R' = R := by rw [HD.out, if_neg (by rw [e1]; decide)]
    refine dins3 (k := k) (g := true) _ _ _ rfl rfl hk hx (decide_eq_true hn) ?_
    intro a' w1 hw ha
    subst ha
    obtain rfl : w1 = wx := hw
    simp only [Act.put, List.setIfInBounds_toArray, List.set_cons_zero, List.set_cons_succ]
    have E12 := hidMk (And.intro e1 e2)
    clear e1 e2 HC HD HFK HFB gK gB hn
    go_wp2
    go_ret
    exact ⟨by rw [E12.out.1]; rfl, v, by rw [E12.out.2]; exact RNxt.same h bx⟩
  · refine dins3 (k := k) (g := false) _ _ _ rfl rfl hk hx (decide_eq_false hn) ?_
    intro a' w1 hw ha
    subst ha
    obtain rfl : w1 = wx := hw
    simp only [Act.put, List.setIfInBounds_toArray, List.set_cons_zero, List.set_cons_succ]
    go_upto_region 5 with fail
    refine dins5 (k := k) (r := aheadE R false k) (g := hasE R k) (fun w' => Below w1.heap.size w1 w') _ _ _ rfl rfl rfl hk hx gK (HFK.out _ hR1) ?_
    intro a' w2 hw ha
    subst ha
    simp only [Act.put, List.setIfInBounds_toArray, List.set_cons_zero, List.set_cons_succ]
    have hR2 := hR1.below hw
    have hx2 := hx.below hw
    have hy2 := hy.below hw
    have b2 := bx.trans (hw.mono bx.size)
    have HN := hidMk hn
    clear HFK gK hw hn
    cases hq : hasE R k with
    | true =>
      have e1 : cc = 5 := by rw [HC.out, if_neg HN.out, if_pos hq]
      have e2 : R' = R := by rw [HD.out, if_neg (by rw [e1]; decide)]
      have E12 := hidMk (And.intro e1 e2)
      clear e1 e2 HC HD HFB gB hq
      go_wp2
      go_ret
      exact ⟨by rw [E12.out.1]; rfl, v, by rw [E12.out.2]; exact RNxt.same h b2⟩
    | false =>
      have HQ := hidMk hq
      clear hq
      have PUT : Hid (cc = 0 → ∀ w3, RefAt w3 base d v R → IdAt w3 w.heap.size k → IdAt w3 (w.heap.size + 1) b → Below w.heap.size w w3 → ∃ sv w4 va vn vc w5 w6, (Instr.buildSlice 71 1 #[(0, .agg (Elt.c ⟨k, b, true⟩).toArray)]).run Try.prog w3.drew = .ok sv w4 ∧ (Builtin.append_ #[71, 71] 71 #[v, sv]).run Try.prog w4 = .ok (.slice va vn vc) w5 ∧ (Instr.storeAt 71 (.pointer (some ⟨d, 0 + 0, none⟩)) (.slice va vn vc)).run Try.prog w5 = .ok () w6 ∧
          (w4.heap[d]? = some (.cells #[v] 73 (0, 0)) ∧ IdAt w4 w.heap.size k ∧ IdAt w4 (w.heap.size + 1) b) ∧ (w5.heap[d]? = some (.cells #[v] 73 (0, 0)) ∧ IdAt w5 w.heap.size k ∧ IdAt w5 (w.heap.size + 1) b) ∧ RNxt w base d v R' (.slice va vn vc) w6) := fun hc w3 hR3 hk3 hb3 b3 => by
        have hR4 := hR3.below ((Below.refl w3.heap.size w3).drew)
        obtain ⟨sv, w4, v2, w5, e1, e2, o, b1, z1, g, q⟩ := RowT.run_push RE_is w3.drew base v R ⟨k, b, true⟩ hR4.own ⟨hk, hb⟩ (by unfold maxLen; omega) (by show _ * 88 ≤ _; omega) (Nat.le_trans hbase b3.size)
        have hR' : R' = R ++ [⟨k, b, true⟩] := by rw [HD.out, if_pos hc]
        have okR : ∀ e ∈ R ++ [(⟨k, b, true⟩ : Elt)], RE.ok e := fun e he => by
          rcases List.mem_append.1 he with q | q
          · exact h.wf e q
          · rw [List.mem_singleton.1 q]; exact ⟨hk, hb⟩
        obtain ⟨va, vc, rfl, _⟩ := o.open RE_is okR
        have hd4 : w4.heap[d]? = some (.cells #[v] 73 (0, 0)) := (b1.block d hR4.lt).trans hR4.c0
        have hlt4 : d < w4.heap.size := (Array.getElem?_eq_some_iff.1 hd4).1
        have hd5 : w5.heap[d]? = some (.cells #[v] 73 (0, 0)) := (g.block d hlt4 (fun e => h.ne e.symm)).trans hd4
        have hb1 : ∀ j (kk : IdK), w.heap.size ≤ j → IdAt w3 j kk → IdAt w4 j kk ∧ IdAt w5 j kk := fun j kk hj hi => by
          have i4 : IdAt w4 j kk := (b1.block j hi.lt).trans hi
          refine ⟨i4, (g.block j i4.lt (fun e => ?_)).trans i4⟩
          have := h.own.lt e.symm
          omega
        obtain ⟨s1, s2⟩ := st_all (a := va) (n := (R ++ [(⟨k, b, true⟩ : Elt)]).length) (c := vc) hd5
        have tg : Tch (fun j => j = d ∨ v.ownBlock = some j) w w5 := by
          refine ((tch_below b3 _).drew).trans' (Tch.mono (O := fun j => v.ownBlock = some j) ?_ (fun j _ e => .inr e)) (fun j _ e => e)
          have t1 : Tch (fun j => v.ownBlock = some j) w3.drew w4 := tch_below b1 _
          exact t1.trans ⟨g.os, g.tape, g.output, g.size, fun j hj hn => g.block j hj (fun e => hn e.symm)⟩
        have hown6 : RE.Own (w5.setCell ⟨d, 0, none⟩ (.slice va (R ++ [(⟨k, b, true⟩ : Elt)]).length vc)) base (.slice va (R ++ [(⟨k, b, true⟩ : Elt)]).length vc) (R ++ [⟨k, b, true⟩]) := by
          refine o.keep (fun j hj => ?_)
          refine Below.heap_setCell _ _ _ _ (fun e => ?_)
          obtain ⟨_, c, q2⟩ := o.cells hj
          rw [show j = d from e] at q2
          rw [hd5] at q2
          simp [RE] at q2
        refine ⟨sv, w4, va, _, vc, w5, _, e1, e2, s1, ⟨hd4, (hb1 _ _ (Nat.le_refl _) hk3).1, (hb1 _ _ (by omega) hb3).1⟩, ⟨hd5, (hb1 _ _ (Nat.le_refl _) hk3).2, (hb1 _ _ (by omega) hb3).2⟩, ⟨s2, by rw [hR']; exact hown6, HOK.out, h.hd, by rw [hR', List.length_append]; exact hl⟩, tg.trans' (set_tch w5 d 0 _) (fun j _ e => .inl e), fun j hj => ?_⟩
        rcases q with e | e
        · exact .inl (e ▸ hj)
        · rw [e] at hj
          simp only [Option.some.injEq] at hj
          have := b1.size
          have := b3.size
          exact .inr (by have hd : w3.drew.heap.size = w3.heap.size := rfl; omega)
      obtain ⟨a0, c0, hv0, _⟩ := h.open
      have HV0 := hidMk hv0
      clear hv0
      by_cases hz : b = zId
      · have e1 : cc = 0 := by rw [HC.out, if_neg HN.out, if_neg (by rw [HQ.out]; decide), if_neg (fun q => q.1 hz)]
        obtain ⟨sv, w4, va, vn, vc, w5, w6, p1, p2, p3, p4, p5, p6⟩ := PUT.out e1 w2 hR2 hx2 hy2 b2
        rw [HV0.out] at p2 p4 p5
        have hc2 := hR2.c0
        rw [HV0.out] at hc2
        have E1 := hidMk e1
        have HP := hidMk p6
        clear PUT HC HD HFB gB e1 p6
        go_upto_region 7 with fail
        refine dins7a (b := b) _ _ _ rfl rfl rfl hb hz hy2 ?_
        intro a' w3 hw ha
        subst ha
        obtain rfl : w3 = w2 := hw
        simp only [Act.put, List.setIfInBounds_toArray, List.set_cons_zero, List.set_cons_succ]
        go_upto_region 9 with fail
        refine dins9 (k := k) (b := b) _ _ _ rfl rfl rfl rfl hk hb ⟨hc2, hx2, hy2⟩ p4 p5 p1 p2 p3 ?_
        intro a' w7 hw ha
        subst ha
        obtain rfl : w7 = w6 := hw
        simp only [Act.put, List.setIfInBounds_toArray, List.set_cons_zero, List.set_cons_succ]
        clear p1 p2 p3 p4 p5 hz
        go_wp2
        go_ret
        exact ⟨by rw [E1.out]; rfl, _, HP.out⟩
      · cases hqb : hasE R b with
        | false =>
          have e1 : cc = 4 := by rw [HC.out, if_neg HN.out, if_neg (by rw [HQ.out]; decide), if_pos ⟨hz, hqb⟩]
          have e2 : R' = R := by rw [HD.out, if_neg (by rw [e1]; decide)]
          have E12 := hidMk (And.intro e1 e2)
          rw [hqb] at gB
          clear e1 e2 HC HD PUT
          go_upto_region 7 with fail
          refine dins7b (b := b) (r := aheadE R false b) (g := true) (fun w' => Below w2.heap.size w2 w') _ _ _ rfl rfl rfl hb hz hy2 gB (HFB.out _ hR2) ?_
          intro a' w3 hw ha
          subst ha
          simp only [Act.put, List.setIfInBounds_toArray, List.set_cons_zero, List.set_cons_succ]
          have b3 := b2.trans (hw.mono b2.size)
          clear hz hqb HFB gB
          go_wp2
          go_ret
          exact ⟨by rw [E12.out.1]; rfl, v, by rw [E12.out.2]; exact RNxt.same h b3⟩
        | true =>
          have e1 : cc = 0 := by rw [HC.out, if_neg HN.out, if_neg (by rw [HQ.out]; decide), if_neg (fun q => by rw [hqb] at q; cases q.2)]
          rw [hqb] at gB
          have E1 := hidMk e1
          clear HC HD e1
          go_upto_region 7 with fail
          refine dins7b (b := b) (r := aheadE R false b) (g := false) (fun w' => Below w2.heap.size w2 w') _ _ _ rfl rfl rfl hb hz hy2 gB (HFB.out _ hR2) ?_
          intro a' w3 hw ha
          subst ha
          simp only [Act.put, List.setIfInBounds_toArray, List.set_cons_zero, List.set_cons_succ]
          have b3 := b2.trans (hw.mono b2.size)
          have hR3 := hR2.below hw
          have hx3 := hx2.below hw
          have hy3 := hy2.below hw
          obtain ⟨sv, w4, va, vn, vc, w5, w6, p1, p2, p3, p4, p5, p6⟩ := PUT.out E1.out w3 hR3 hx3 hy3 b3
          rw [HV0.out] at p2 p4 p5
          have hc2 := hR3.c0
          rw [HV0.out] at hc2
          have HP := hidMk p6
          clear PUT HFB gB p6 hz hqb
          go_upto_region 9 with fail
          refine dins9 (k := k) (b := b) _ _ _ rfl rfl rfl rfl hk hb ⟨hc2, hx3, hy3⟩ p4 p5 p1 p2 p3 ?_
          intro a' w7 hw ha
          subst ha
          obtain rfl : w7 = w6 := hw
          simp only [Act.put, List.setIfInBounds_toArray, List.set_cons_zero, List.set_cons_succ]
          clear p1 p2 p3 p4 p5
          go_wp2
          go_ret
          exact ⟨by rw [E1.out]; rfl, _, HP.out⟩
end
theorem set_own_keep {w : World} {base d : Nat} {v : Value} {lv : Value} {L : List Elt} (h0 : w.heap[d]? = some (.cells #[v] 73 (0, 0))) (o : RE.Own w base lv L) (u : Value) : RE.Own (w.setCell ⟨d, 0, none⟩ u) base lv L := by
  refine o.keep (fun j hj => ?_)
  refine Below.heap_setCell _ _ _ _ (fun e => ?_)
  obtain ⟨_, c, q2⟩ := o.cells hj
  rw [show j = d from e, h0] at q2
  simp [RE] at q2
section
variable {w : World} {base d : Nat} {v : Value} {R : List Elt}
theorem rtake_at (h : RefAt w base d v R) {k : IdK} (hk : k.ok) (hbase : base ≤ w.heap.size) : Calls Try.prog 15 #[.pointer (some ⟨d, 0, none⟩), k.v] w fun e w' => e = .returned (.int .i64 (takC R k : Int)) ∧ ∃ v', RNxt w base d v (takR R k) v' w' := by
  have bx : Below w.heap.size w (w.alloc (.cells k.c.toArray 32)) := (Below.refl _ _).alloc (Nat.le_refl _) _
  have hx := id_new w k
  have HFK := hidMk (find_at (h.below bx) hk)
  have gK : decide (aheadE R false k < 0) = !hasE R k := by
    cases q : hasE R k with
    | true => exact decide_eq_false (by have := rank_pos (c := false) q; omega)
    | false => exact decide_eq_true (by rw [rank_neg q]; omega)
  have HC : Hid (takC R k = if hasE R k = false then 4 else if 0 < folE R k then 90 else 0) := rfl
  have HD : Hid (takR R k = if takC R k = 0 then remE R k else R) := rfl
  have HOK := hidMk (h.ok.tak k)
  have HLN := hidMk (Nat.le_trans (takR_len R k) h.len)
  generalize takR R k = R' at *
  generalize takC R k = cc at *
  show Calls Try.prog 15 #[.pointer (some ⟨d, 0, none⟩), .agg k.c.toArray] w _
  go_enter Try.func15, Try.ntmps15
  go_upto_region 3 with fail
  generalize w.alloc (.cells k.c.toArray 32) = wx at *
  cases hq : hasE R k with
  | false =>
    have e1 : cc = 4 := by rw [HC.out, if_pos hq]
    have e2 : R' = R := by rw [HD.out, if_neg (by rw [e1]; decide)]
    have E12 := hidMk (And.intro e1 e2)
    rw [hq] at gK
    refine dtak3 (k := k) (r := aheadE R false k) (g := true) (fun w' => Below wx.heap.size wx w') _ _ _ rfl rfl rfl hk hx gK HFK.out ?_
    intro a' w2 hw ha
    subst ha
    simp only [Act.put, List.setIfInBounds_toArray, List.set_cons_zero, List.set_cons_succ]
    have b2 := bx.trans (hw.mono bx.size)
    clear e1 e2 HC HD HFK gK hq
    go_wp2
    go_ret
    exact ⟨by rw [E12.out.1]; rfl, v, by rw [E12.out.2]; exact RNxt.same h b2⟩
  | true =>
    rw [hq] at gK
    have HQ := hidMk hq
    refine dtak3 (k := k) (r := aheadE R false k) (g := false) (fun w' => Below wx.heap.size wx w') _ _ _ rfl rfl rfl hk hx gK HFK.out ?_
    intro a' w2 hw ha
    subst ha
    simp only [Act.put, List.setIfInBounds_toArray, List.set_cons_zero, List.set_cons_succ]
    have b2 := bx.trans (hw.mono bx.size)
    have hx2 := hx.below hw
    have hR2 := h.below b2
    clear HFK gK hq hw
    obtain ⟨n, hn⟩ : ∃ n, R.length = n := ⟨_, rfl⟩
    have hN := h.len
    rw [hn] at hN
    have HN := hidMk hn
    have HR2 := hidMk hR2
    obtain ⟨ea, ec, ev, _⟩ := hR2.open
    rw [hn] at ev
    have HEV := hidMk ev
    have st0 : Hid (RwI w2 (remE (R.take 0) k) (.slice none 0 0) w2 ∧ ∀ e ∈ R.take 0, e.bh ≠ k) := ⟨⟨RowT.own_nil RE _ _, Below.refl _ _⟩, fun e he => by simp at he⟩
    have HX2 := hidMk hx2
    have HB2 := hidMk b2
    clear hn ev hR2 hx2 b2 hx bx
    go_wp2
    go_loopw [5, 6] (fun v5 v6 wr => ∃ (i : Nat) (lv : Value), lv = v5 ∧ v6 = .int .i64 (i : Int) ∧ i ≤ n ∧ Hid (RwI w2 (remE (R.take i) k) lv wr ∧ ∀ e ∈ R.take i, e.bh ≠ k)) (fun v5 v6 wr => n - (match v6 with | .int _ i => i.toNat | _ => 0))
    case atStart => exact ⟨0, _, rfl, rfl, Nat.zero_le _, st0⟩
    case round =>
      clear st0
      obtain ⟨i, lv, rfl, rfl, hin, hI⟩ := hrel
      have href : RefAt wr base d v R := HR2.out.below hI.out.1.bel
      have hxr : IdAt wr w.heap.size k := HX2.out.below hI.out.1.bel
      have hc0 := href.c0
      by_cases hi : i < n
      · have hi' : i < R.length := by rw [HN.out]; exact hi
        obtain ⟨eb, eo, ec2, e1, hl, hwf, hra⟩ := href.get hi'
        rw [HN.out] at e1
        rw [e1] at hc0
        have hTk : R.take (i + 1) = R.take i ++ [R[i]] := by rw [List.take_add_one, List.getElem?_eq_getElem hi']; rfl
        have HXM : Hid (R[i] ∈ R) := List.getElem_mem hi'
        have HRM : Hid (∀ x, x = R[i] → R.take (i + 1) = R.take i ++ [x]) := fun x e => by rw [e]; exact hTk
        have HXE : Hid (∃ x, x = R[i]) := ⟨_, rfl⟩
        obtain ⟨x, hxe⟩ := HXE.out
        rw [← hxe] at hwf hra HXM
        have HTX := hidMk (HRM.out x hxe)
        clear hTk HRM HXE hxe e1
        go_upto_region 7 with fail
        refine dtak7 (g := true) _ _ _ rfl rfl rfl hc0 (decide_eq_true (by omega)) ?_
        intro a' w3 hw ha
        subst ha
        obtain rfl : w3 = wr := hw
        simp only [Act.put, List.setIfInBounds_toArray, List.set_cons_zero, List.set_cons_succ]
        go_upto_region 9 with fail
        refine dtak9 (x := x) (k := k) (g := decide (x.bh = k)) _ _ _ rfl rfl rfl rfl hwf hi (by omega) hk rfl hc0 hra hxr ?_
        intro a' w4 hw ha
        subst ha
        obtain rfl : w4 = w3.drew := hw
        simp only [Act.put, List.setIfInBounds_toArray, List.set_cons_zero, List.set_cons_succ]
        cases hd : decide (x.bh = k) with
        | true =>
          have hf : 0 < folE R k := List.countP_pos_iff.2 ⟨x, HXM.out, hd⟩
          have e2 : cc = 90 := by rw [HC.out, if_neg (by rw [HQ.out]; decide), if_pos hf]
          have e3 : R' = R := by rw [HD.out, if_neg (by rw [e2]; decide)]
          have E12 := hidMk (And.intro e2 e3)
          have b4 : Below w.heap.size w w3.drew := (HB2.out.trans (hI.out.1.bel.mono HB2.out.size)).drew
          generalize w3.drew = w4 at *
          clear hd hf e2 e3 HC HD hra hc0 hl hI href hxr
          go_wp2
          go_ret
          exact ⟨by rw [E12.out.1]; rfl, v, by rw [E12.out.2]; exact RNxt.same h b4⟩
        | false =>
          have HBH := hidMk (of_decide_eq_false hd)
          clear hd
          have hI4 : RwI w2 (remE (R.take i) k) lv w3.drew := hI.out.1.drew
          have hra4 : w3.drew.rangeAt eb (eo + 67 * i) x.c := hra
          have hc4 : w3.drew.heap[d]? = some (.cells #[.slice (some ⟨eb, eo, none⟩) n ec2] 73 (0, 0)) := hc0
          have hx4 : IdAt w3.drew w.heap.size k := hxr
          have HNB : Hid (∀ e ∈ R.take (i + 1), e.bh ≠ k) := fun e he => by
            rw [HTX.out] at he
            rcases List.mem_append.1 he with q | q
            · exact hI.out.2 e q
            · rw [List.mem_singleton.1 q]; exact HBH.out
          generalize w3.drew = w4 at *
          clear hI href hxr hra hc0
          go_upto_region 11 with fail
          refine dtak11 (x := x) (k := k) (g := !decide (x.id = k)) _ _ _ rfl rfl rfl rfl hwf hi (by omega) hk rfl hc4 hra4 hx4 ?_
          intro a' w5 hw ha
          subst ha
          obtain rfl : w5 = w4.drew := hw
          simp only [Act.put, List.setIfInBounds_toArray, List.set_cons_zero, List.set_cons_succ]
          have hI5 : RwI w2 (remE (R.take i) k) lv w4.drew := hI4.drew
          have hra5 : w4.drew.rangeAt eb (eo + 67 * i) x.c := hra4
          have hc5 : w4.drew.heap[d]? = some (.cells #[.slice (some ⟨eb, eo, none⟩) n ec2] 73 (0, 0)) := hc4
          generalize w4.drew = w5 at *
          clear hI4 hra4 hc4 hx4
          cases hd : decide (x.id = k) with
          | true =>
            have HP : Hid (RwI w2 (remE (R.take (i + 1)) k) lv w5 ∧ ∀ e ∈ R.take (i + 1), e.bh ≠ k) := ⟨by
              have : remE (R.take (i + 1)) k = remE (R.take i) k := by
                rw [HTX.out]; unfold remE
                rw [List.filter_append, List.filter_cons, if_neg (by rw [hd]; decide)]; simp
              rw [this]; exact hI5, HNB.out⟩
            clear hd hI5 hra5 hc5 HNB
            go_wp2
            have hq : ((i : Int) + 1) = ((i + 1 : Nat) : Int) := by omega
            rw [hq]
            refine ⟨⟨i + 1, _, rfl, rfl, hi, HP⟩, ?_⟩
            show n - ((i + 1 : Nat) : Int).toNat < n - (i : Int).toNat
            omega
          | false =>
            obtain ⟨sv, w6, v2, w7, e1, e2, P7⟩ := hI5.push hwf (by
              have h1 : (remE (R.take i) k).length ≤ (R.take i).length := List.length_filter_le _ _
              rw [List.length_take] at h1
              omega)
            have HP : Hid (RwI w2 (remE (R.take (i + 1)) k) v2 w7 ∧ ∀ e ∈ R.take (i + 1), e.bh ≠ k) := ⟨by
              have : remE (R.take (i + 1)) k = remE (R.take i) k ++ [x] := by
                rw [HTX.out]; unfold remE
                rw [List.filter_append, List.filter_cons, if_pos (by rw [hd]; decide)]; simp
              rw [this]; exact P7, HNB.out⟩
            clear hd P7 HNB
            go_upto_region 12 with fail
            refine dtak12 (x := x) (lv := lv) _ _ _ rfl rfl rfl rfl hwf hi (by omega) hc5 hra5 e1 e2 ?_
            intro a' w8 hw ha
            subst ha
            obtain rfl : w8 = w7 := hw
            simp only [Act.put, List.setIfInBounds_toArray, List.set_cons_zero, List.set_cons_succ]
            clear hI5 hra5 hc5 e1 e2
            go_wp2
            have hq : ((i : Int) + 1) = ((i + 1 : Nat) : Int) := by omega
            rw [hq]
            refine ⟨⟨i + 1, _, rfl, rfl, hi, HP⟩, ?_⟩
            show n - ((i + 1 : Nat) : Int).toNat < n - (i : Int).toNat
            omega
      · obtain rfl : n = i := by omega
        rw [List.take_of_length_le (by rw [HN.out]; exact Nat.le_refl _)] at hI
        have hf : folE R k = 0 := by
          unfold folE
          rw [List.countP_eq_zero]
          intro e he q
          exact hI.out.2 e he (of_decide_eq_true q)
        have e2 : cc = 0 := by rw [HC.out, if_neg (by rw [HQ.out]; decide), if_neg (by omega)]
        have e3 : R' = remE R k := by rw [HD.out, if_pos e2]
        have HE2 := hidMk e2
        have okL : ∀ e ∈ remE R k, RE.ok e := fun e he => h.wf e (List.mem_filter.1 he).1
        obtain ⟨va, vc, e4⟩ := hI.out.1.slice okL
        obtain ⟨s1, s2⟩ := st_all (a := va) (n := (remE R k).length) (c := vc) hc0
        have HP : Hid (RNxt w base d v R' lv (wr.setCell ⟨d, 0, none⟩ (.slice va (remE R k).length vc))) := by
          have b4 : Below w.heap.size w wr := HB2.out.trans (hI.out.1.bel.mono HB2.out.size)
          refine ⟨⟨by rw [e4]; exact s2, ?_, HOK.out, h.hd, HLN.out⟩, (tch_below b4 _).trans' (set_tch wr d 0 _) (fun j _ e => .inl e), fun j hj => .inr ?_⟩
          · rw [e3]
            exact (set_own_keep hc0 hI.out.1.own _).mono (Nat.le_trans hbase HB2.out.size)
          · exact Nat.le_trans HB2.out.size (hI.out.1.own.cells hj).1
        have hc6 := hc0
        rw [HEV.out] at hc6
        obtain ⟨rn, hrn⟩ : ∃ rn, (remE R k).length = rn := ⟨_, rfl⟩
        rw [hrn] at s1 HP e4
        subst e4
        clear hf e2 e3 HC HD okL s2 hI href hxr hc0 hrn
        go_upto_region 7 with fail
        refine dtak7 (g := false) _ _ _ rfl rfl rfl hc6 (decide_eq_false (by omega)) ?_
        intro a' w3 hw ha
        subst ha
        obtain rfl : w3 = wr := hw
        simp only [Act.put, List.setIfInBounds_toArray, List.set_cons_zero, List.set_cons_succ]
        go_upto_region 13 with fail
        refine dtak13 _ _ _ rfl rfl rfl s1 ?_
        intro a' w4 hw ha
        subst ha
        obtain rfl : w4 = _ := hw
        simp only [Act.put, List.setIfInBounds_toArray, List.set_cons_zero, List.set_cons_succ]
        generalize w3.setCell ⟨d, 0, none⟩ (.slice va rn vc) = w4 at *
        clear s1 hc6
        go_wp2
        go_ret
        exact ⟨by rw [HE2.out]; rfl, _, HP.out⟩
theorem rshow_at (h : RefAt w base d v R) {k : IdK} (hk : k.ok) (s : Bool) : Calls Try.prog 17 #[.pointer (some ⟨d, 0, none⟩), k.v, .bool s] w fun e w' => e = .returned (.int .i64 (showC R k : Int)) ∧ ∃ v', RNxt w base d v (showE R k s) v' w' := by
  have bx : Below w.heap.size w (w.alloc (.cells k.c.toArray 32)) := (Below.refl _ _).alloc (Nat.le_refl _) _
  have hx := id_new w k
  have HFK := hidMk (find_at (h.below bx) hk)
  show Calls Try.prog 17 #[.pointer (some ⟨d, 0, none⟩), .agg k.c.toArray, .bool s] w _
  cases hq : hasE R k with
  | false =>
    have e1 : aheadE R false k = -1 := rank_neg hq _
    rw [e1] at HFK
    have HE := hidMk (showE_none (b := s) hq)
    have HC : Hid (showC R k = 4) := by show showC R k = 4; unfold showC; rw [hq]; rfl
    clear hq e1
    go_enter Try.func17, Try.ntmps17
    go_upto_region 3 with fail
    generalize w.alloc (.cells k.c.toArray 32) = wx at *
    refine dsho3 (k := k) (r := -1) (fun w' => Below wx.heap.size wx w') _ _ _ rfl rfl rfl hk hx HFK.out ?_
    intro a' w2 hw ha
    subst ha
    simp only [Act.put, List.setIfInBounds_toArray, List.set_cons_zero, List.set_cons_succ]
    have b2 := bx.trans (hw.mono bx.size)
    clear HFK
    go_wp2
    go_ret
    exact ⟨by rw [HC.out]; rfl, v, by rw [HE.out]; exact RNxt.same h b2⟩
  | true =>
    obtain ⟨e, he, hid⟩ := hasE_iff.1 hq
    obtain ⟨i, hi, rfl⟩ := List.getElem_of_mem he
    have e1 : aheadE R false k = (i : Int) := by rw [← hid]; exact rank_get h.ok.seq hi
    rw [e1] at HFK
    have HC : Hid (showC R k = 0) := by show showC R k = 0; unfold showC; rw [hq]; rfl
    have HSE : Hid (R.set i { R[i] with sh := s } = showE R k s) := by
      have := show_set h.ok.nd hi s
      rw [hid] at this
      exact this
    have hneg : ¬ ((i : Int) < 0) := by omega
    have HOK := hidMk (h.ok.show k s)
    have hIX : ∃ g cap, v = .slice (some ⟨g, 0, none⟩) R.length cap := by
      obtain ⟨g, cap, e, _⟩ := h.own.zero RE_is h.wf hi
      exact ⟨g, cap, e⟩
    obtain ⟨g, cap, hv⟩ := hIX
    have HV := hidMk hv
    clear hv
    clear e1 hq he
    go_enter Try.func17, Try.ntmps17
    go_upto_region 3 with fail
    generalize w.alloc (.cells k.c.toArray 32) = wx at *
    refine dsho3 (k := k) (r := (i : Int)) (fun w' => Below wx.heap.size wx w') _ _ _ rfl rfl rfl hk hx HFK.out ?_
    intro a' w2 hw ha
    subst ha
    simp only [Act.put, List.setIfInBounds_toArray, List.set_cons_zero, List.set_cons_succ]
    have b2 := bx.trans (hw.mono bx.size)
    have hR2 := h.below b2
    have hc2 := hR2.c0
    rw [HV.out] at hc2
    have hx0 := h.wf _ (List.getElem_mem hi)
    have hrow : ∃ cs, w2.heap[g]? = some (.cells cs 78 (0, 0)) := (hR2.own.cells (k := g) (by rw [HV.out]; rfl)).2
    obtain ⟨cs, hrow⟩ := hrow
    have hcell : w2.cell? ⟨g, 67 * i + 66, none⟩ = some (.bool R[i].sh) := by
      obtain ⟨g2, cap2, e2, hr2⟩ := hR2.own.zero RE_is h.wf hi
      rw [HV.out] at e2
      cases e2
      refine hr2 66 _ ?_
      show (Elt.c R[i])[66]? = _
      have l1 := IdK.len hx0.1
      have l2 := IdK.len hx0.2
      unfold Elt.c
      rw [List.getElem?_append_right (by omega), l1, List.getElem?_append_right (by omega), l2]
      rfl
    have hst : (Instr.storeAt 4 (.pointer (some ⟨g, 0 + 67 * i + 66, none⟩)) (.bool s)).run Try.prog w2 = .ok () (w2.setCell ⟨g, 67 * i + 66, none⟩ (.bool s)) := by
      rw [Nat.zero_add]
      have hf := frozen_of_row w2 g (67 * i + 66) _ _ hrow
      go_simp
    have hown : RE.Own (w2.setCell ⟨g, 67 * i + 66, none⟩ (.bool s)) base v (showE R k s) := by
      have ho := hR2.own
      rw [HV.out] at ho
      rw [HV.out, ← HSE.out]
      exact RowT.own_setCell RE_is ho rfl h.wf hi (j := 66) (by decide) (Elt.setSh _ s hx0)
    have HP : Hid (RNxt w base d v (showE R k s) v (w2.setCell ⟨g, 67 * i + 66, none⟩ (.bool s))) := by
      refine ⟨⟨?_, hown, HOK.out, h.hd, by rw [showE_len]; exact h.len⟩, (tch_below b2 _).trans' (set_tch w2 g _ _) (fun j _ e => .inr (by rw [e, HV.out]; rfl)), fun j hj => .inl hj⟩
      refine ((set_tch w2 g (67 * i + 66) (.bool s)).block d hR2.lt (fun e => ?_)).trans hR2.c0
      exact h.ne (by rw [HV.out, e]; rfl)
    obtain ⟨n, hn⟩ : ∃ n, R.length = n := ⟨_, rfl⟩
    have hln := h.len
    rw [hn] at hc2 hi hln
    clear hown hcell hrow HFK hn
    generalize w2.setCell ⟨g, 67 * i + 66, none⟩ (.bool s) = w3 at *
    go_upto_region 6 with fail
    refine dsho6 (s := s) _ _ _ rfl rfl rfl rfl hi (by omega) hc2 hst ?_
    intro a' w4 hw ha
    subst ha
    obtain rfl : w4 = w3 := hw
    simp only [Act.put, List.setIfInBounds_toArray, List.set_cons_zero, List.set_cons_succ]
    clear hst hc2
    go_wp2
    go_ret
    exact ⟨by rw [HC.out]; rfl, _, HP.out⟩
end
theorem new_ref (w : World) : Calls Try.prog 10 #[] w fun e w' => e = .returned (.pointer (some ⟨w.heap.size, 0, none⟩)) ∧ RefAt w' w.heap.size w.heap.size (.slice none 0 0) [] ∧ Below w.heap.size w w' := by
  have hb : ∀ W : World, (Instr.build 73 #[]).run Try.prog W = .ok (.agg #[.slice none 0 0]) W := fun W => by kernel_rfl
  have b1 : Below w.heap.size w (w.alloc (.cells #[.slice none 0 0] 73)) := (Below.refl _ _).alloc (Nat.le_refl _) _
  have hR : RefAt (w.alloc (.cells #[.slice none 0 0] 73)) w.heap.size w.heap.size (.slice none 0 0) [] := ⟨heap_alloc_new _ _, RowT.own_nil RE _ _, RefOk.nil, Nat.le_refl _, by simp⟩
  go_enter Try.func10, Try.ntmps10
  go_wp2_with (first
    | (refine wbuild0 rfl (hb _) rfl ?_)
    | fail)
  go_ret
  exact ⟨rfl, hR, b1⟩
section
variable {w : World} {base d : Nat} {v : Value} {R : List Elt}
theorem fork_at (h : RefAt w base d v R) : Calls Try.prog 19 #[.pointer (some ⟨d, 0, none⟩)] w fun e w' => ∃ f v', e = .returned (.pointer (some ⟨f, 0, none⟩)) ∧ RefAt w' w.heap.size f v' R ∧ Below w.heap.size w w' := by
  have HNW := hidMk (new_ref w)
  obtain ⟨a, c, hv, ha⟩ := h.open
  have HV := hidMk hv
  clear hv
  go_enter Try.func19, Try.ntmps19
  go_upto_region 4 with (first
    | (go_at_call 10; refine HNW.out.mono ?_; rintro e w1 ⟨rfl, hN, b1⟩)
    | fail)
  have h1 := h.below b1
  obtain ⟨v2, w2, e2, o2, g2, q2⟩ := RowT.run_app RE_is w1.drew w.heap.size (.slice none 0 0) [] a R c (RowT.own_nil RE _ _) ((ha.below b1).below ((Below.refl _ _).drew)) h.wf (by unfold maxLen; have := h.len; simp; omega) (by have := h.len; simp only [List.length_nil, Nat.zero_add]; show _ * 88 ≤ _; omega) b1.size
  have b2 : Below w1.heap.size w1 w2 := (Below.refl w1.heap.size w1).drew.trans (grown_below g2)
  rw [List.nil_append] at o2
  obtain ⟨va, vc, e3, _⟩ := o2.open RE_is h.wf
  subst e3
  have hN2 := hN.below b2
  have h2 := h1.below b2
  obtain ⟨s1, s2⟩ := st_all (a := va) (n := R.length) (c := vc) hN2.c0
  have hd1 := h1.c0
  have hd2 := h2.c0
  rw [HV.out] at hd1 hd2
  have HP : Hid (RefAt (w2.setCell ⟨w.heap.size, 0, none⟩ (.slice va R.length vc)) w.heap.size w.heap.size (.slice va R.length vc) R ∧ Below w.heap.size w (w2.setCell ⟨w.heap.size, 0, none⟩ (.slice va R.length vc))) :=
    ⟨⟨s2, set_own_keep hN2.c0 o2 _, h.ok, Nat.le_refl _, h.len⟩, (b1.trans (b2.mono b1.size)).setCell (p := ⟨w.heap.size, 0, none⟩) (Nat.le_refl _) _⟩
  refine dfrk4 (d := d) (f := w.heap.size) _ _ _ rfl rfl rfl ⟨hd1, hN.c0⟩ ⟨hd2, hN2.c0⟩ e2 s1 ?_
  intro a' w4 hw ha2
  subst ha2
  obtain rfl : w4 = _ := hw
  simp only [Act.put, List.setIfInBounds_toArray, List.set_cons_zero, List.set_cons_succ]
  generalize w2.setCell ⟨w.heap.size, 0, none⟩ (.slice va R.length vc) = w3 at *
  clear HNW s1 s2 e2 hd1 hd2 o2 h1 h2 hN hN2 q2
  go_wp2
  go_ret
  exact ⟨_, _, rfl, HP.out.1, HP.out.2⟩
end
theorem rnil_insert (w : World) (k b : IdK) : Calls Try.prog 13 #[.pointer none, k.v, b.v] w fun e w' => e = .returned (.int .i64 1) ∧ Below w.heap.size w w' := by
  obtain ⟨_, _, bx, _⟩ := two_boxes w k b
  show Calls Try.prog 13 #[.pointer none, .agg k.c.toArray, .agg b.c.toArray] w _
  go_enter Try.func13, Try.ntmps13
  go_wp2
  go_ret
  exact ⟨rfl, bx⟩
theorem rnil_take (w : World) (k : IdK) : Calls Try.prog 15 #[.pointer none, k.v] w fun e w' => e = .returned (.int .i64 1) ∧ Below w.heap.size w w' := by
  have bx : Below w.heap.size w (w.alloc (.cells k.c.toArray 32)) := (Below.refl _ _).alloc (Nat.le_refl _) _
  show Calls Try.prog 15 #[.pointer none, .agg k.c.toArray] w _
  go_enter Try.func15, Try.ntmps15
  go_wp2
  go_ret
  exact ⟨rfl, bx⟩
theorem rnil_show (w : World) (k : IdK) (s : Bool) : Calls Try.prog 17 #[.pointer none, k.v, .bool s] w fun e w' => e = .returned (.int .i64 1) ∧ Below w.heap.size w w' := by
  have bx : Below w.heap.size w (w.alloc (.cells k.c.toArray 32)) := (Below.refl _ _).alloc (Nat.le_refl _) _
  show Calls Try.prog 17 #[.pointer none, .agg k.c.toArray, .bool s] w _
  go_enter Try.func17, Try.ntmps17
  go_wp2
  go_ret
  exact ⟨rfl, bx⟩
theorem rnil_fork (w : World) : Calls Try.prog 19 #[.pointer none] w fun e w' => e = .returned (.pointer none) ∧ Below w.heap.size w w' := by
  go_enter Try.func19, Try.ntmps19
  go_wp2
  go_ret
  exact ⟨rfl, Below.refl _ _⟩
def PV (w : World) (pv : Value) (E : List Elt) : Prop := (pv = .pointer none ∧ E = []) ∨ ∃ s : Sx, pv = .pointer (some ⟨s.sb, 0, none⟩) ∧ SeqAt w s E
theorem PV.below {w w' : World} {pv : Value} {E : List Elt} (h : PV w pv E) (b : Below w.heap.size w w') : PV w' pv E := by
  rcases h with h | ⟨s, e, h⟩
  · exact .inl h
  · exact .inr ⟨s, e, h.below b⟩
section
variable {w : World} {pv : Value} {E : List Elt}
theorem pv_len (h : PV w pv E) : Calls Try.prog 29 #[pv] w fun e w' => e = .returned (.int .i64 ((visE E false).length : Int)) ∧ Below w.heap.size w w' := by
  rcases h with ⟨rfl, rfl⟩ | ⟨s, rfl, h⟩
  · exact pnil_len w
  · exact len_any h
theorem pv_shown (h : PV w pv E) : Calls Try.prog 34 #[pv] w fun e w' => e = .returned (.int .i64 ((visE E true).length : Int)) ∧ Below w.heap.size w w' := by
  rcases h with ⟨rfl, rfl⟩ | ⟨s, rfl, h⟩
  · exact pnil_shown w
  · exact shown_any h
theorem pv_has (h : PV w pv E) {k : IdK} (hk : k.ok) : Calls Try.prog 28 #[pv, k.v] w fun e w' => e = .returned (.bool (hasE E k)) ∧ Below w.heap.size w w' := by
  rcases h with ⟨rfl, rfl⟩ | ⟨s, rfl, h⟩
  · exact pnil_has w k
  · exact has_any h hk
theorem pv_behind (h : PV w pv E) {k : IdK} (hk : k.ok) : Calls Try.prog 48 #[pv, k.v] w fun e w' => e = .returned (.tuple #[(behE E k).v, .bool (hasE E k)]) ∧ Below w.heap.size w w' := by
  rcases h with ⟨rfl, rfl⟩ | ⟨s, rfl, h⟩
  · exact pnil_behind w hk
  · exact behind_any h hk
theorem pv_rank (h : PV w pv E) {k : IdK} (hk : k.ok) : Calls Try.prog 27 #[pv, k.v] w fun e w' => e = .returned (.int .i64 (aheadE E false k)) ∧ Below w.heap.size w w' := by
  rcases h with ⟨rfl, rfl⟩ | ⟨s, rfl, h⟩
  · exact pnil_rank w hk
  · exact rank_any h hk
theorem pv_index (h : PV w pv E) {k : IdK} (hk : k.ok) : Calls Try.prog 32 #[pv, k.v] w fun e w' => e = .returned (.int .i64 (aheadE E true k)) ∧ Below w.heap.size w w' := by
  rcases h with ⟨rfl, rfl⟩ | ⟨s, rfl, h⟩
  · exact pnil_index w hk
  · exact index_any h hk
theorem nthE_nil (c : Bool) (z : Int) : nthE [] c z = (zId, false) := by
  unfold nthE
  rw [if_neg (fun h => by simp [visE] at h; omega)]
theorem pv_at (h : PV w pv E) (z : Int) (hz : -9223372036854775808 ≤ z ∧ z ≤ 9223372036854775807) : Calls Try.prog 31 #[pv, .int .i64 z] w fun e w' => e = .returned (.tuple #[(nthE E false z).1.v, .bool (nthE E false z).2]) ∧ Below w.heap.size w w' := by
  rcases h with ⟨rfl, rfl⟩ | ⟨s, rfl, h⟩
  · rw [nthE_nil]; exact pnil_at w z
  · exact at_any h z hz
theorem pv_nth (h : PV w pv E) (z : Int) (hz : -9223372036854775808 ≤ z ∧ z ≤ 9223372036854775807) : Calls Try.prog 33 #[pv, .int .i64 z] w fun e w' => e = .returned (.tuple #[(nthE E true z).1.v, .bool (nthE E true z).2]) ∧ Below w.heap.size w w' := by
  rcases h with ⟨rfl, rfl⟩ | ⟨s, rfl, h⟩
  · rw [nthE_nil]; exact pnil_nth w z
  · exact nth_any h z hz
theorem ownI_nil (w : World) (base : Nat) : OwnI w base (.slice none 0 0) [] := ⟨rfl, .inl ⟨rfl, rfl⟩⟩
theorem pv_list (h : PV w pv E) (ok : ∀ e ∈ E, RE.ok e) : (Calls Try.prog 24 #[pv] w fun e w' => ∃ a c, e = .returned (.slice a (idsE E false).length c) ∧ OwnI w' w.heap.size (.slice a (idsE E false).length c) (idsE E false) ∧ Below w.heap.size w w') ∧ (Calls Try.prog 25 #[pv] w fun e w' => ∃ a c, e = .returned (.slice a (idsE E true).length c) ∧ OwnI w' w.heap.size (.slice a (idsE E true).length c) (idsE E true) ∧ Below w.heap.size w w') := by
  rcases h with ⟨rfl, rfl⟩ | ⟨s, rfl, h⟩
  · refine ⟨(pnil_ids w).mono ?_, (pnil_live w).mono ?_⟩
    · rintro e w' ⟨rfl, b⟩; exact ⟨none, 0, rfl, ownI_nil _ _, b⟩
    · rintro e w' ⟨rfl, b⟩; exact ⟨none, 0, rfl, ownI_nil _ _, b⟩
  · refine ⟨(ids_any h).mono ?_, (live_any h).mono ?_⟩
    · rintro e w' ⟨v, rfl, o, b⟩
      obtain ⟨a, c, rfl, _⟩ := OwnI.open (L := idsE E false) o (idsE_ok ok false)
      exact ⟨a, c, rfl, o, b⟩
    · rintro e w' ⟨v, rfl, o, b⟩
      obtain ⟨a, c, rfl, _⟩ := OwnI.open (L := idsE E true) o (idsE_ok ok true)
      exact ⟨a, c, rfl, o, b⟩
end
structure Two (w : World) (base : Nat) (pv rv : Value) (E R : List Elt) : Prop where
  pr : PV w pv E
  rf : RefV w base rv R
  eq : E = rowR R
section
variable {w : World} {base : Nat} {pv rv : Value} {E R : List Elt}
theorem Two.below {w' : World} (h : Two w base pv rv E R) (b : Below w.heap.size w w') : Two w' base pv rv E R := ⟨h.pr.below b, h.rf.below b, h.eq⟩
theorem Two.ok (h : Two w base pv rv E R) : ∀ e ∈ E, RE.ok e := by rw [h.eq]; exact row_wf h.rf.ok.1
theorem Two.len (h : Two w base pv rv E R) (c : Bool) : (idsE E c).length ≤ 1400000000000 := by
  have h1 := ids_len E c
  rw [h.eq, row_len] at h1
  have := h.rf.ok.2
  rw [h.eq]
  omega
theorem lists_any (h : Two w base pv rv E R) : Calls Try.prog 20 #[pv, rv] w fun e w' => e = .returned (.bool true) ∧ Below w.heap.size w w' := by
  have P1 : Hid (∀ W, Two W base pv rv E R → Calls Try.prog 29 #[pv] W fun e w' => e = .returned (.int .i64 ((visE E false).length : Int)) ∧ Below W.heap.size W w') := fun W hW => pv_len hW.pr
  have P2 : Hid (∀ W, Two W base pv rv E R → Calls Try.prog 44 #[rv] W fun e w' => e = .returned (.int .i64 ((visE E false).length : Int)) ∧ Below W.heap.size W w') := fun W hW => by rw [hW.eq]; exact len_ref hW.rf
  have P3 : Hid (∀ W, Two W base pv rv E R → Calls Try.prog 34 #[pv] W fun e w' => e = .returned (.int .i64 ((visE E true).length : Int)) ∧ Below W.heap.size W w') := fun W hW => pv_shown hW.pr
  have P4 : Hid (∀ W, Two W base pv rv E R → Calls Try.prog 45 #[rv] W fun e w' => e = .returned (.int .i64 ((visE E true).length : Int)) ∧ Below W.heap.size W w') := fun W hW => by rw [hW.eq]; exact shown_ref hW.rf
  have P5 : Hid (∀ W, Two W base pv rv E R → Calls Try.prog 24 #[pv] W fun e w' => ∃ a c, e = .returned (.slice a (idsE E false).length c) ∧ IdsAt w' a (idsE E false) ∧ Below W.heap.size W w') := fun W hW => (pv_list hW.pr hW.ok).1.mono fun e w' ⟨a, c, e1, o, b⟩ => by
    obtain ⟨a2, c2, e2, hi, _⟩ := o.open (idsE_ok hW.ok false)
    cases e2
    exact ⟨a, c, e1, hi, b⟩
  have P6 : Hid (∀ W, Two W base pv rv E R → Calls Try.prog 46 #[rv] W fun e w' => ∃ a c, e = .returned (.slice a (idsE E false).length c) ∧ IdsAt w' a (idsE E false) ∧ Below W.heap.size W w') := fun W hW => by
    have := ids_ref hW.rf
    rw [← hW.eq] at this
    exact this.mono fun e w' ⟨a, c, e1, o, b⟩ => by
      obtain ⟨a2, c2, e2, hi, _⟩ := o.open (idsE_ok hW.ok false)
      cases e2
      exact ⟨a, c, e1, hi, b⟩
  have P7 : Hid (∀ W, Two W base pv rv E R → Calls Try.prog 25 #[pv] W fun e w' => ∃ a c, e = .returned (.slice a (idsE E true).length c) ∧ IdsAt w' a (idsE E true) ∧ Below W.heap.size W w') := fun W hW => (pv_list hW.pr hW.ok).2.mono fun e w' ⟨a, c, e1, o, b⟩ => by
    obtain ⟨a2, c2, e2, hi, _⟩ := o.open (idsE_ok hW.ok true)
    cases e2
    exact ⟨a, c, e1, hi, b⟩
  have P8 : Hid (∀ W, Two W base pv rv E R → Calls Try.prog 47 #[rv] W fun e w' => ∃ a c, e = .returned (.slice a (idsE E true).length c) ∧ IdsAt w' a (idsE E true) ∧ Below W.heap.size W w') := fun W hW => by
    have := live_ref hW.rf
    rw [← hW.eq] at this
    exact this.mono fun e w' ⟨a, c, e1, o, b⟩ => by
      obtain ⟨a2, c2, e2, hi, _⟩ := o.open (idsE_ok hW.ok true)
      cases e2
      exact ⟨a, c, e1, hi, b⟩
  have S1 : Hid (∀ (W : World) (L : List IdK) (a b : Option Addr) (ca cb : Nat), (∀ x ∈ L, x.ok) → L.length ≤ 1400000000000 → IdsAt W a L → IdsAt W b L → Calls Try.prog 26 #[.slice a L.length ca, .slice b L.length cb] W fun e w' => e = .returned (.bool true) ∧ Below W.heap.size W w') := fun W L a b ca cb ok hl ha hb => by
    have := same_ids a b ca cb L L W ha hb ok ok (by omega)
    rw [decide_eq_true rfl] at this
    exact this
  have K1 := hidMk (And.intro (idsE_ok h.ok false) (h.len false))
  have K2 := hidMk (And.intro (idsE_ok h.ok true) (h.len true))
  have H0 := hidMk h
  generalize (visE E false).length = n1 at *
  generalize (visE E true).length = n2 at *
  obtain ⟨L1, e1⟩ : ∃ L, idsE E false = L := ⟨_, rfl⟩
  obtain ⟨L2, e2⟩ : ∃ L, idsE E true = L := ⟨_, rfl⟩
  rw [e1] at P5 P6 K1
  rw [e2] at P7 P8 K2
  clear h e1 e2
  go_enter Try.func20, Try.ntmps20
  go_wp2_with (first
    | (go_at_call 29; refine (P1.out _ H0.out).mono ?_; rintro e w1 ⟨rfl, b1⟩; have B1 := hidMk b1; have H1 := hidMk (H0.out.below b1); clear b1 P1)
    | (go_at_call 44; refine (P2.out _ H1.out).mono ?_; rintro e w2 ⟨rfl, b2⟩; have B2 := hidMk (B1.out.trans (b2.mono B1.out.size)); have H2 := hidMk (H1.out.below b2); clear b2 P2 B1 H1)
    | (go_at_call 34; refine (P3.out _ H2.out).mono ?_; rintro e w3 ⟨rfl, b3⟩; have B3 := hidMk (B2.out.trans (b3.mono B2.out.size)); have H3 := hidMk (H2.out.below b3); clear b3 P3 B2 H2)
    | (go_at_call 45; refine (P4.out _ H3.out).mono ?_; rintro e w4 ⟨rfl, b4⟩; have B4 := hidMk (B3.out.trans (b4.mono B3.out.size)); have H4 := hidMk (H3.out.below b4); clear b4 P4 B3 H3)
    | (go_at_call 24; refine (P5.out _ H4.out).mono ?_; rintro e w5 ⟨a5, c5, rfl, i5, b5⟩; have I5 := hidMk i5; have B5 := hidMk (B4.out.trans (b5.mono B4.out.size)); have H5 := hidMk (H4.out.below b5); clear b5 P5 i5 B4 H4)
    | (go_at_call 46; refine (P6.out _ H5.out).mono ?_; rintro e w6 ⟨a6, c6, rfl, i6, b6⟩; have I6 := hidMk (And.intro (I5.out.below b6) i6); have B6 := hidMk (B5.out.trans (b6.mono B5.out.size)); have H6 := hidMk (H5.out.below b6); clear b6 P6 i6 I5 B5 H5)
    | (go_at_call 26; refine (S1.out _ L1 a5 a6 c5 c6 K1.out.1 K1.out.2 I6.out.1 I6.out.2).mono ?_; rintro e w7 ⟨rfl, b7⟩; have B7 := hidMk (B6.out.trans (b7.mono B6.out.size)); have H7 := hidMk (H6.out.below b7); clear b7 I6 B6 H6)
    | (go_at_call 25; refine (P7.out _ H7.out).mono ?_; rintro e w8 ⟨a8, c8, rfl, i8, b8⟩; have I8 := hidMk i8; have B8 := hidMk (B7.out.trans (b8.mono B7.out.size)); have H8 := hidMk (H7.out.below b8); clear b8 P7 i8 B7 H7)
    | (go_at_call 47; refine (P8.out _ H8.out).mono ?_; rintro e w9 ⟨a9, c9, rfl, i9, b9⟩; have I9 := hidMk (And.intro (I8.out.below b9) i9); have B9 := hidMk (B8.out.trans (b9.mono B8.out.size)); have H9 := hidMk (H8.out.below b9); clear b9 P8 i9 I8 B8 H8)
    | (go_at_call 26; refine (S1.out _ L2 a8 a9 c8 c9 K2.out.1 K2.out.2 I9.out.1 I9.out.2).mono ?_; rintro e w10 ⟨rfl, b10⟩; have B10 := hidMk (B9.out.trans (b10.mono B9.out.size)); clear b10 I9 B9 H9)
    | fail)
  go_ret
  exact ⟨rfl, B10.out⟩
end
theorem id_zeroA {w : World} {bb : Nat} (h : bb = w.heap.size) : (Instr.alloc 32 true (.tuple #[])).run Try.prog w = .ok (.pointer (some ⟨bb, 0, none⟩)) (w.alloc (.cells zId.c.toArray 32)) := by subst h; exact id_zero w
theorem ex_eqlB {w : World} {a : Act} {o : Oper} {x y : Operand} {g : Bool} (ho : o.op = .binOp .eql 4 x y 4) (hx : a.eval x = .bool g) (hy : a.eval y = .bool g) : (execOp a.eval o).run Try.prog w = .ok (.value (.bool true)) w := by
  refine exec_binOp ho hx hy ?_ ?_
  · kernel_rfl
  · cases g <;> go_simp
def ask1_o0 : Oper := ⟨some 22, .move (.tmp 0), 23, "law.go:36", #[], none⟩
def ask1_o1 : Oper := ⟨some 23, .load 32 (.tmp 6), 32, "law.go:36", #[], none⟩
def ask1_o2 : Oper := ⟨some 24, .call { callee := Callee.value (Operand.func 48), args := #[.tmp 22, .tmp 23], argTypes := #[23, 32] }, 59, "law.go:36", #[⟨0, .data⟩, ⟨1, .data⟩], none⟩
def ask1_o3 : Oper := ⟨some 21, .move (.tmp 24), 59, "law.go:36", #[⟨2, .data⟩], none⟩
def ask1_o4 : Oper := ⟨some 25, .extract (.tmp 21) 0, 32, "law.go:36", #[⟨3, .data⟩], none⟩
def ask1_o5 : Oper := ⟨some 26, .extract (.tmp 21) 1, 4, "law.go:36", #[⟨3, .data⟩, { on := 7, ground := Ground.gcOnly Departure.lateStores }], none⟩
def ask1_o6 : Oper := ⟨some 9, .alloc 32, 0, "law.go:36", #[], none⟩
def ask1_o7 : Oper := ⟨none, .store 32 (.tmp 9) (.tmp 25), 0, "law.go:36", #[⟨6, .data⟩, ⟨4, .data⟩, ⟨2, .chain⟩, ⟨0, .phase⟩, ⟨1, .phase⟩, ⟨2, .phase⟩, ⟨3, .phase⟩, ⟨4, .phase⟩, { on := 5, ground := Ground.textOnly Departure.lateStores }, ⟨6, .phase⟩], none⟩
def ask1_o8 : Oper := ⟨some 10, .assign (.tmp 26), 4, "law.go:36", #[⟨5, .data⟩, ⟨7, .chain⟩, ⟨0, .phase⟩, ⟨1, .phase⟩, ⟨2, .phase⟩, ⟨3, .phase⟩, ⟨4, .phase⟩, ⟨5, .phase⟩, ⟨6, .phase⟩, ⟨7, .phase⟩], none⟩
def ask1_ops : Array Oper := #[ask1_o0, ask1_o1, ask1_o2, ask1_o3, ask1_o4, ask1_o5, ask1_o6, ask1_o7, ask1_o8]
theorem ask1 {pv : Value} {kb : Nat} {k : IdK} {x : IdK} {g : Bool} (Fin : Nat → World → Prop) (a : Act) (w : World) (Q : Exit → Act → World → Prop) (zz : a.tmps.size = 112)
    (t0 : a.tmps.getD 0 undef = pv)
    (t6 : a.tmps.getD 6 undef = .pointer (some ⟨kb, 0, none⟩))
    (hk : k.ok) (h0 : IdAt w kb k) (CA : Calls Try.prog 48 #[pv, k.v] w fun e w' => e = .returned (.tuple #[x.v, .bool g]) ∧ ∃ bb, bb = w'.heap.size ∧ ∃ w2, (Instr.storeAt 32 (.pointer (some ⟨bb, 0, none⟩)) x.v).run Try.prog (w'.alloc (.cells zId.c.toArray 32)) = .ok () w2 ∧ Fin bb w2)
    (h : ∀ (bb : Nat) (a' : Act) (w' : World), Fin bb w' → a' = ((((((((a).put (some 22) (pv)).put (some 23) (k.v)).put (some 24) (.tuple #[x.v, .bool g])).put (some 21) (.tuple #[x.v, .bool g])).put (some 25) (x.v)).put (some 26) (.bool g)).put (some 9) (.pointer (some ⟨bb, 0, none⟩))).put (some 10) (.bool g) → Q .normal a' w') :
    (Code.region 1 ask1_ops false).wp Try.prog Q a w := by
  refine z0 rfl ?_
  refine zv rfl (exec_move rfl (zi t0 rfl)) ?_
  refine zv rfl (exec_load rfl (zi t6 rfl) (load_id hk (h0))) ?_
  refine zc rfl (exec_c2 rfl (zg zz rfl) (zg zz rfl)) (CA) (fun e x2 hx => ?_)
  obtain ⟨rfl, bb, hbb, w2, E1, HF⟩ := hx
  replace h := h bb
  refine ⟨_, rfl, ?_⟩
  refine zv rfl (exec_move rfl (zg zz rfl)) ?_
  refine zv rfl (exec_extract rfl (zg zz rfl) rfl) ?_
  refine zv rfl (exec_extract rfl (zg zz rfl) rfl) ?_
  refine zv (v := .pointer (some ⟨bb, 0, none⟩)) rfl (exec_alloc rfl (id_zeroA hbb)) ?_
  refine zs rfl (exec_store rfl (zg zz rfl) (zg zz rfl) E1) ?_
  refine zv rfl (exec_assign rfl (zg zz rfl)) ?_
  exact ze rfl (h _ _ (HF) rfl)
def ask2_o0 : Oper := ⟨some 28, .move (.tmp 1), 26, "law.go:37", #[], none⟩
def ask2_o1 : Oper := ⟨some 29, .load 32 (.tmp 6), 32, "law.go:37", #[], none⟩
def ask2_o2 : Oper := ⟨some 30, .call { callee := Callee.value (Operand.func 49), args := #[.tmp 28, .tmp 29], argTypes := #[26, 32] }, 59, "law.go:37", #[⟨0, .data⟩, ⟨1, .data⟩], none⟩
def ask2_o3 : Oper := ⟨some 27, .move (.tmp 30), 59, "law.go:37", #[⟨2, .data⟩], none⟩
def ask2_o4 : Oper := ⟨some 31, .extract (.tmp 27) 0, 32, "law.go:37", #[⟨3, .data⟩], none⟩
def ask2_o5 : Oper := ⟨some 32, .extract (.tmp 27) 1, 4, "law.go:37", #[⟨3, .data⟩, { on := 7, ground := Ground.gcOnly Departure.lateStores }], none⟩
def ask2_o6 : Oper := ⟨some 11, .alloc 32, 0, "law.go:37", #[], none⟩
def ask2_o7 : Oper := ⟨none, .store 32 (.tmp 11) (.tmp 31), 0, "law.go:37", #[⟨6, .data⟩, ⟨4, .data⟩, ⟨2, .chain⟩, ⟨0, .phase⟩, ⟨1, .phase⟩, ⟨2, .phase⟩, ⟨3, .phase⟩, ⟨4, .phase⟩, { on := 5, ground := Ground.textOnly Departure.lateStores }, ⟨6, .phase⟩], none⟩
def ask2_o8 : Oper := ⟨some 12, .assign (.tmp 32), 4, "law.go:37", #[⟨5, .data⟩, ⟨7, .chain⟩, ⟨0, .phase⟩, ⟨1, .phase⟩, ⟨2, .phase⟩, ⟨3, .phase⟩, ⟨4, .phase⟩, ⟨5, .phase⟩, ⟨6, .phase⟩, ⟨7, .phase⟩], none⟩
def ask2_ops : Array Oper := #[ask2_o0, ask2_o1, ask2_o2, ask2_o3, ask2_o4, ask2_o5, ask2_o6, ask2_o7, ask2_o8]
theorem ask2 {pv : Value} {kb : Nat} {k : IdK} {x : IdK} {g : Bool} (Fin : Nat → World → Prop) (a : Act) (w : World) (Q : Exit → Act → World → Prop) (zz : a.tmps.size = 112)
    (t1 : a.tmps.getD 1 undef = pv)
    (t6 : a.tmps.getD 6 undef = .pointer (some ⟨kb, 0, none⟩))
    (hk : k.ok) (h0 : IdAt w kb k) (CA : Calls Try.prog 49 #[pv, k.v] w fun e w' => e = .returned (.tuple #[x.v, .bool g]) ∧ ∃ bb, bb = w'.heap.size ∧ ∃ w2, (Instr.storeAt 32 (.pointer (some ⟨bb, 0, none⟩)) x.v).run Try.prog (w'.alloc (.cells zId.c.toArray 32)) = .ok () w2 ∧ Fin bb w2)
    (h : ∀ (bb : Nat) (a' : Act) (w' : World), Fin bb w' → a' = ((((((((a).put (some 28) (pv)).put (some 29) (k.v)).put (some 30) (.tuple #[x.v, .bool g])).put (some 27) (.tuple #[x.v, .bool g])).put (some 31) (x.v)).put (some 32) (.bool g)).put (some 11) (.pointer (some ⟨bb, 0, none⟩))).put (some 12) (.bool g) → Q .normal a' w') :
    (Code.region 2 ask2_ops false).wp Try.prog Q a w := by
  refine z0 rfl ?_
  refine zv rfl (exec_move rfl (zi t1 rfl)) ?_
  refine zv rfl (exec_load rfl (zi t6 rfl) (load_id hk (h0))) ?_
  refine zc rfl (exec_c2 rfl (zg zz rfl) (zg zz rfl)) (CA) (fun e x2 hx => ?_)
  obtain ⟨rfl, bb, hbb, w2, E1, HF⟩ := hx
  replace h := h bb
  refine ⟨_, rfl, ?_⟩
  refine zv rfl (exec_move rfl (zg zz rfl)) ?_
  refine zv rfl (exec_extract rfl (zg zz rfl) rfl) ?_
  refine zv rfl (exec_extract rfl (zg zz rfl) rfl) ?_
  refine zv (v := .pointer (some ⟨bb, 0, none⟩)) rfl (exec_alloc rfl (id_zeroA hbb)) ?_
  refine zs rfl (exec_store rfl (zg zz rfl) (zg zz rfl) E1) ?_
  refine zv rfl (exec_assign rfl (zg zz rfl)) ?_
  exact ze rfl (h _ _ (HF) rfl)
def ask3_o0 : Oper := ⟨some 34, .move (.tmp 0), 23, "law.go:38", #[], none⟩
def ask3_o1 : Oper := ⟨some 35, .move (.tmp 3), 3, "law.go:38", #[], none⟩
def ask3_o2 : Oper := ⟨some 36, .call { callee := Callee.value (Operand.func 31), args := #[.tmp 34, .tmp 35], argTypes := #[23, 3] }, 59, "law.go:38", #[⟨0, .data⟩, ⟨1, .data⟩], none⟩
def ask3_o3 : Oper := ⟨some 33, .move (.tmp 36), 59, "law.go:38", #[⟨2, .data⟩], none⟩
def ask3_o4 : Oper := ⟨some 37, .extract (.tmp 33) 0, 32, "law.go:38", #[⟨3, .data⟩], none⟩
def ask3_o5 : Oper := ⟨some 38, .extract (.tmp 33) 1, 4, "law.go:38", #[⟨3, .data⟩, { on := 7, ground := Ground.gcOnly Departure.lateStores }], none⟩
def ask3_o6 : Oper := ⟨some 13, .alloc 32, 0, "law.go:38", #[], none⟩
def ask3_o7 : Oper := ⟨none, .store 32 (.tmp 13) (.tmp 37), 0, "law.go:38", #[⟨6, .data⟩, ⟨4, .data⟩, ⟨2, .chain⟩, ⟨0, .phase⟩, ⟨1, .phase⟩, ⟨2, .phase⟩, ⟨3, .phase⟩, ⟨4, .phase⟩, { on := 5, ground := Ground.textOnly Departure.lateStores }, ⟨6, .phase⟩], none⟩
def ask3_o8 : Oper := ⟨some 14, .assign (.tmp 38), 4, "law.go:38", #[⟨5, .data⟩, ⟨7, .chain⟩, ⟨0, .phase⟩, ⟨1, .phase⟩, ⟨2, .phase⟩, ⟨3, .phase⟩, ⟨4, .phase⟩, ⟨5, .phase⟩, ⟨6, .phase⟩, ⟨7, .phase⟩], none⟩
def ask3_ops : Array Oper := #[ask3_o0, ask3_o1, ask3_o2, ask3_o3, ask3_o4, ask3_o5, ask3_o6, ask3_o7, ask3_o8]
theorem ask3 {pv : Value} {z : Int} {x : IdK} {g : Bool} (Fin : Nat → World → Prop) (a : Act) (w : World) (Q : Exit → Act → World → Prop) (zz : a.tmps.size = 112)
    (t0 : a.tmps.getD 0 undef = pv)
    (t3 : a.tmps.getD 3 undef = .int .i64 z)
    (CA : Calls Try.prog 31 #[pv, .int .i64 z] w fun e w' => e = .returned (.tuple #[x.v, .bool g]) ∧ ∃ bb, bb = w'.heap.size ∧ ∃ w2, (Instr.storeAt 32 (.pointer (some ⟨bb, 0, none⟩)) x.v).run Try.prog (w'.alloc (.cells zId.c.toArray 32)) = .ok () w2 ∧ Fin bb w2)
    (h : ∀ (bb : Nat) (a' : Act) (w' : World), Fin bb w' → a' = ((((((((a).put (some 34) (pv)).put (some 35) (.int .i64 z)).put (some 36) (.tuple #[x.v, .bool g])).put (some 33) (.tuple #[x.v, .bool g])).put (some 37) (x.v)).put (some 38) (.bool g)).put (some 13) (.pointer (some ⟨bb, 0, none⟩))).put (some 14) (.bool g) → Q .normal a' w') :
    (Code.region 3 ask3_ops false).wp Try.prog Q a w := by
  refine z0 rfl ?_
  refine zv rfl (exec_move rfl (zi t0 rfl)) ?_
  refine zv rfl (exec_move rfl (zi t3 rfl)) ?_
  refine zc rfl (exec_c2 rfl (zg zz rfl) (zg zz rfl)) (CA) (fun e x2 hx => ?_)
  obtain ⟨rfl, bb, hbb, w2, E1, HF⟩ := hx
  replace h := h bb
  refine ⟨_, rfl, ?_⟩
  refine zv rfl (exec_move rfl (zg zz rfl)) ?_
  refine zv rfl (exec_extract rfl (zg zz rfl) rfl) ?_
  refine zv rfl (exec_extract rfl (zg zz rfl) rfl) ?_
  refine zv (v := .pointer (some ⟨bb, 0, none⟩)) rfl (exec_alloc rfl (id_zeroA hbb)) ?_
  refine zs rfl (exec_store rfl (zg zz rfl) (zg zz rfl) E1) ?_
  refine zv rfl (exec_assign rfl (zg zz rfl)) ?_
  exact ze rfl (h _ _ (HF) rfl)
def ask4_o0 : Oper := ⟨some 40, .move (.tmp 1), 26, "law.go:39", #[], none⟩
def ask4_o1 : Oper := ⟨some 41, .move (.tmp 3), 3, "law.go:39", #[], none⟩
def ask4_o2 : Oper := ⟨some 42, .call { callee := Callee.value (Operand.func 50), args := #[.tmp 40, .tmp 41], argTypes := #[26, 3] }, 59, "law.go:39", #[⟨0, .data⟩, ⟨1, .data⟩], none⟩
def ask4_o3 : Oper := ⟨some 39, .move (.tmp 42), 59, "law.go:39", #[⟨2, .data⟩], none⟩
def ask4_o4 : Oper := ⟨some 43, .extract (.tmp 39) 0, 32, "law.go:39", #[⟨3, .data⟩], none⟩
def ask4_o5 : Oper := ⟨some 44, .extract (.tmp 39) 1, 4, "law.go:39", #[⟨3, .data⟩, { on := 7, ground := Ground.gcOnly Departure.lateStores }], none⟩
def ask4_o6 : Oper := ⟨some 15, .alloc 32, 0, "law.go:39", #[], none⟩
def ask4_o7 : Oper := ⟨none, .store 32 (.tmp 15) (.tmp 43), 0, "law.go:39", #[⟨6, .data⟩, ⟨4, .data⟩, ⟨2, .chain⟩, ⟨0, .phase⟩, ⟨1, .phase⟩, ⟨2, .phase⟩, ⟨3, .phase⟩, ⟨4, .phase⟩, { on := 5, ground := Ground.textOnly Departure.lateStores }, ⟨6, .phase⟩], none⟩
def ask4_o8 : Oper := ⟨some 16, .assign (.tmp 44), 4, "law.go:39", #[⟨5, .data⟩, ⟨7, .chain⟩, ⟨0, .phase⟩, ⟨1, .phase⟩, ⟨2, .phase⟩, ⟨3, .phase⟩, ⟨4, .phase⟩, ⟨5, .phase⟩, ⟨6, .phase⟩, ⟨7, .phase⟩], none⟩
def ask4_ops : Array Oper := #[ask4_o0, ask4_o1, ask4_o2, ask4_o3, ask4_o4, ask4_o5, ask4_o6, ask4_o7, ask4_o8]
theorem ask4 {pv : Value} {z : Int} {x : IdK} {g : Bool} (Fin : Nat → World → Prop) (a : Act) (w : World) (Q : Exit → Act → World → Prop) (zz : a.tmps.size = 112)
    (t1 : a.tmps.getD 1 undef = pv)
    (t3 : a.tmps.getD 3 undef = .int .i64 z)
    (CA : Calls Try.prog 50 #[pv, .int .i64 z] w fun e w' => e = .returned (.tuple #[x.v, .bool g]) ∧ ∃ bb, bb = w'.heap.size ∧ ∃ w2, (Instr.storeAt 32 (.pointer (some ⟨bb, 0, none⟩)) x.v).run Try.prog (w'.alloc (.cells zId.c.toArray 32)) = .ok () w2 ∧ Fin bb w2)
    (h : ∀ (bb : Nat) (a' : Act) (w' : World), Fin bb w' → a' = ((((((((a).put (some 40) (pv)).put (some 41) (.int .i64 z)).put (some 42) (.tuple #[x.v, .bool g])).put (some 39) (.tuple #[x.v, .bool g])).put (some 43) (x.v)).put (some 44) (.bool g)).put (some 15) (.pointer (some ⟨bb, 0, none⟩))).put (some 16) (.bool g) → Q .normal a' w') :
    (Code.region 4 ask4_ops false).wp Try.prog Q a w := by
  refine z0 rfl ?_
  refine zv rfl (exec_move rfl (zi t1 rfl)) ?_
  refine zv rfl (exec_move rfl (zi t3 rfl)) ?_
  refine zc rfl (exec_c2 rfl (zg zz rfl) (zg zz rfl)) (CA) (fun e x2 hx => ?_)
  obtain ⟨rfl, bb, hbb, w2, E1, HF⟩ := hx
  replace h := h bb
  refine ⟨_, rfl, ?_⟩
  refine zv rfl (exec_move rfl (zg zz rfl)) ?_
  refine zv rfl (exec_extract rfl (zg zz rfl) rfl) ?_
  refine zv rfl (exec_extract rfl (zg zz rfl) rfl) ?_
  refine zv (v := .pointer (some ⟨bb, 0, none⟩)) rfl (exec_alloc rfl (id_zeroA hbb)) ?_
  refine zs rfl (exec_store rfl (zg zz rfl) (zg zz rfl) E1) ?_
  refine zv rfl (exec_assign rfl (zg zz rfl)) ?_
  exact ze rfl (h _ _ (HF) rfl)
def ask5_o0 : Oper := ⟨some 46, .move (.tmp 0), 23, "law.go:40", #[], none⟩
def ask5_o1 : Oper := ⟨some 47, .move (.tmp 3), 3, "law.go:40", #[], none⟩
def ask5_o2 : Oper := ⟨some 48, .call { callee := Callee.value (Operand.func 33), args := #[.tmp 46, .tmp 47], argTypes := #[23, 3] }, 59, "law.go:40", #[⟨0, .data⟩, ⟨1, .data⟩], none⟩
def ask5_o3 : Oper := ⟨some 45, .move (.tmp 48), 59, "law.go:40", #[⟨2, .data⟩], none⟩
def ask5_o4 : Oper := ⟨some 49, .extract (.tmp 45) 0, 32, "law.go:40", #[⟨3, .data⟩], none⟩
def ask5_o5 : Oper := ⟨some 50, .extract (.tmp 45) 1, 4, "law.go:40", #[⟨3, .data⟩, { on := 7, ground := Ground.gcOnly Departure.lateStores }], none⟩
def ask5_o6 : Oper := ⟨some 17, .alloc 32, 0, "law.go:40", #[], none⟩
def ask5_o7 : Oper := ⟨none, .store 32 (.tmp 17) (.tmp 49), 0, "law.go:40", #[⟨6, .data⟩, ⟨4, .data⟩, ⟨2, .chain⟩, ⟨0, .phase⟩, ⟨1, .phase⟩, ⟨2, .phase⟩, ⟨3, .phase⟩, ⟨4, .phase⟩, { on := 5, ground := Ground.textOnly Departure.lateStores }, ⟨6, .phase⟩], none⟩
def ask5_o8 : Oper := ⟨some 18, .assign (.tmp 50), 4, "law.go:40", #[⟨5, .data⟩, ⟨7, .chain⟩, ⟨0, .phase⟩, ⟨1, .phase⟩, ⟨2, .phase⟩, ⟨3, .phase⟩, ⟨4, .phase⟩, ⟨5, .phase⟩, ⟨6, .phase⟩, ⟨7, .phase⟩], none⟩
def ask5_ops : Array Oper := #[ask5_o0, ask5_o1, ask5_o2, ask5_o3, ask5_o4, ask5_o5, ask5_o6, ask5_o7, ask5_o8]
theorem ask5 {pv : Value} {z : Int} {x : IdK} {g : Bool} (Fin : Nat → World → Prop) (a : Act) (w : World) (Q : Exit → Act → World → Prop) (zz : a.tmps.size = 112)
    (t0 : a.tmps.getD 0 undef = pv)
    (t3 : a.tmps.getD 3 undef = .int .i64 z)
    (CA : Calls Try.prog 33 #[pv, .int .i64 z] w fun e w' => e = .returned (.tuple #[x.v, .bool g]) ∧ ∃ bb, bb = w'.heap.size ∧ ∃ w2, (Instr.storeAt 32 (.pointer (some ⟨bb, 0, none⟩)) x.v).run Try.prog (w'.alloc (.cells zId.c.toArray 32)) = .ok () w2 ∧ Fin bb w2)
    (h : ∀ (bb : Nat) (a' : Act) (w' : World), Fin bb w' → a' = ((((((((a).put (some 46) (pv)).put (some 47) (.int .i64 z)).put (some 48) (.tuple #[x.v, .bool g])).put (some 45) (.tuple #[x.v, .bool g])).put (some 49) (x.v)).put (some 50) (.bool g)).put (some 17) (.pointer (some ⟨bb, 0, none⟩))).put (some 18) (.bool g) → Q .normal a' w') :
    (Code.region 5 ask5_ops false).wp Try.prog Q a w := by
  refine z0 rfl ?_
  refine zv rfl (exec_move rfl (zi t0 rfl)) ?_
  refine zv rfl (exec_move rfl (zi t3 rfl)) ?_
  refine zc rfl (exec_c2 rfl (zg zz rfl) (zg zz rfl)) (CA) (fun e x2 hx => ?_)
  obtain ⟨rfl, bb, hbb, w2, E1, HF⟩ := hx
  replace h := h bb
  refine ⟨_, rfl, ?_⟩
  refine zv rfl (exec_move rfl (zg zz rfl)) ?_
  refine zv rfl (exec_extract rfl (zg zz rfl) rfl) ?_
  refine zv rfl (exec_extract rfl (zg zz rfl) rfl) ?_
  refine zv (v := .pointer (some ⟨bb, 0, none⟩)) rfl (exec_alloc rfl (id_zeroA hbb)) ?_
  refine zs rfl (exec_store rfl (zg zz rfl) (zg zz rfl) E1) ?_
  refine zv rfl (exec_assign rfl (zg zz rfl)) ?_
  exact ze rfl (h _ _ (HF) rfl)
def ask6_o0 : Oper := ⟨some 52, .move (.tmp 1), 26, "law.go:41", #[], none⟩
def ask6_o1 : Oper := ⟨some 53, .move (.tmp 3), 3, "law.go:41", #[], none⟩
def ask6_o2 : Oper := ⟨some 54, .call { callee := Callee.value (Operand.func 51), args := #[.tmp 52, .tmp 53], argTypes := #[26, 3] }, 59, "law.go:41", #[⟨0, .data⟩, ⟨1, .data⟩], none⟩
def ask6_o3 : Oper := ⟨some 51, .move (.tmp 54), 59, "law.go:41", #[⟨2, .data⟩], none⟩
def ask6_o4 : Oper := ⟨some 55, .extract (.tmp 51) 0, 32, "law.go:41", #[⟨3, .data⟩], none⟩
def ask6_o5 : Oper := ⟨some 56, .extract (.tmp 51) 1, 4, "law.go:41", #[⟨3, .data⟩, { on := 7, ground := Ground.gcOnly Departure.lateStores }], none⟩
def ask6_o6 : Oper := ⟨some 19, .alloc 32, 0, "law.go:41", #[], none⟩
def ask6_o7 : Oper := ⟨none, .store 32 (.tmp 19) (.tmp 55), 0, "law.go:41", #[⟨6, .data⟩, ⟨4, .data⟩, ⟨2, .chain⟩, ⟨0, .phase⟩, ⟨1, .phase⟩, ⟨2, .phase⟩, ⟨3, .phase⟩, ⟨4, .phase⟩, { on := 5, ground := Ground.textOnly Departure.lateStores }, ⟨6, .phase⟩], none⟩
def ask6_o8 : Oper := ⟨some 20, .assign (.tmp 56), 4, "law.go:41", #[⟨5, .data⟩, ⟨7, .chain⟩, ⟨0, .phase⟩, ⟨1, .phase⟩, ⟨2, .phase⟩, ⟨3, .phase⟩, ⟨4, .phase⟩, ⟨5, .phase⟩, ⟨6, .phase⟩, ⟨7, .phase⟩], none⟩
def ask6_ops : Array Oper := #[ask6_o0, ask6_o1, ask6_o2, ask6_o3, ask6_o4, ask6_o5, ask6_o6, ask6_o7, ask6_o8]
theorem ask6 {pv : Value} {z : Int} {x : IdK} {g : Bool} (Fin : Nat → World → Prop) (a : Act) (w : World) (Q : Exit → Act → World → Prop) (zz : a.tmps.size = 112)
    (t1 : a.tmps.getD 1 undef = pv)
    (t3 : a.tmps.getD 3 undef = .int .i64 z)
    (CA : Calls Try.prog 51 #[pv, .int .i64 z] w fun e w' => e = .returned (.tuple #[x.v, .bool g]) ∧ ∃ bb, bb = w'.heap.size ∧ ∃ w2, (Instr.storeAt 32 (.pointer (some ⟨bb, 0, none⟩)) x.v).run Try.prog (w'.alloc (.cells zId.c.toArray 32)) = .ok () w2 ∧ Fin bb w2)
    (h : ∀ (bb : Nat) (a' : Act) (w' : World), Fin bb w' → a' = ((((((((a).put (some 52) (pv)).put (some 53) (.int .i64 z)).put (some 54) (.tuple #[x.v, .bool g])).put (some 51) (.tuple #[x.v, .bool g])).put (some 55) (x.v)).put (some 56) (.bool g)).put (some 19) (.pointer (some ⟨bb, 0, none⟩))).put (some 20) (.bool g) → Q .normal a' w') :
    (Code.region 6 ask6_ops false).wp Try.prog Q a w := by
  refine z0 rfl ?_
  refine zv rfl (exec_move rfl (zi t1 rfl)) ?_
  refine zv rfl (exec_move rfl (zi t3 rfl)) ?_
  refine zc rfl (exec_c2 rfl (zg zz rfl) (zg zz rfl)) (CA) (fun e x2 hx => ?_)
  obtain ⟨rfl, bb, hbb, w2, E1, HF⟩ := hx
  replace h := h bb
  refine ⟨_, rfl, ?_⟩
  refine zv rfl (exec_move rfl (zg zz rfl)) ?_
  refine zv rfl (exec_extract rfl (zg zz rfl) rfl) ?_
  refine zv rfl (exec_extract rfl (zg zz rfl) rfl) ?_
  refine zv (v := .pointer (some ⟨bb, 0, none⟩)) rfl (exec_alloc rfl (id_zeroA hbb)) ?_
  refine zs rfl (exec_store rfl (zg zz rfl) (zg zz rfl) E1) ?_
  refine zv rfl (exec_assign rfl (zg zz rfl)) ?_
  exact ze rfl (h _ _ (HF) rfl)
def ask7_o0 : Oper := ⟨some 57, .move (.tmp 0), 23, "law.go:42", #[], none⟩
def ask7_o1 : Oper := ⟨some 58, .load 32 (.tmp 6), 32, "law.go:42", #[], none⟩
def ask7_o2 : Oper := ⟨some 59, .call { callee := Callee.value (Operand.func 28), args := #[.tmp 57, .tmp 58], argTypes := #[23, 32] }, 4, "law.go:42", #[⟨0, .data⟩, ⟨1, .data⟩], none⟩
def ask7_o3 : Oper := ⟨some 60, .move (.tmp 1), 26, "law.go:42", #[], none⟩
def ask7_o4 : Oper := ⟨some 61, .load 32 (.tmp 6), 32, "law.go:42", #[], none⟩
def ask7_o5 : Oper := ⟨some 62, .call { callee := Callee.value (Operand.func 52), args := #[.tmp 60, .tmp 61], argTypes := #[26, 32] }, 4, "law.go:42", #[⟨3, .data⟩, ⟨4, .data⟩, ⟨2, .chain⟩], none⟩
def ask7_o6 : Oper := ⟨some 63, .binOp BinOp.eql 4 (.tmp 59) (.tmp 62) 4, 4, "law.go:42", #[⟨2, .data⟩, ⟨5, .data⟩], none⟩
def ask7_o7 : Oper := ⟨some 64, .move (.tmp 63), 4, "law.go:42", #[⟨6, .data⟩, ⟨5, .chain⟩], none⟩
def ask7_o8 : Oper := ⟨some 65, .load 32 (.tmp 9), 32, "law.go:42", #[⟨7, .guard⟩], some (7, true)⟩
def ask7_o9 : Oper := ⟨some 66, .load 32 (.tmp 11), 32, "law.go:42", #[⟨7, .guard⟩], some (7, true)⟩
def ask7_o10 : Oper := ⟨some 67, .binOp BinOp.eql 32 (.tmp 65) (.tmp 66) 32, 4, "law.go:42", #[⟨8, .data⟩, ⟨9, .data⟩, ⟨7, .guard⟩], some (7, true)⟩
def ask7_o11 : Oper := ⟨some 68, .pick (.tmp 64) (.tmp 67) (Operand.const (Value.bool false)), 4, "law.go:42", #[⟨7, .data⟩, ⟨10, .data⟩], none⟩
def ask7_o12 : Oper := ⟨some 69, .move (.tmp 68), 4, "law.go:42", #[⟨11, .data⟩, ⟨7, .chain⟩], none⟩
def ask7_o13 : Oper := ⟨some 70, .move (.tmp 10), 4, "law.go:42", #[⟨12, .guard⟩], some (12, true)⟩
def ask7_o14 : Oper := ⟨some 71, .move (.tmp 12), 4, "law.go:42", #[⟨12, .guard⟩], some (12, true)⟩
def ask7_o15 : Oper := ⟨some 72, .binOp BinOp.eql 4 (.tmp 70) (.tmp 71) 4, 4, "law.go:42", #[⟨13, .data⟩, ⟨14, .data⟩, ⟨12, .guard⟩], some (12, true)⟩
def ask7_o16 : Oper := ⟨some 73, .pick (.tmp 69) (.tmp 72) (Operand.const (Value.bool false)), 4, "law.go:42", #[⟨12, .data⟩, ⟨15, .data⟩], none⟩
def ask7_o17 : Oper := ⟨some 74, .move (.tmp 73), 4, "law.go:42", #[⟨16, .data⟩, ⟨12, .chain⟩], none⟩
def ask7_o18 : Oper := ⟨some 75, .move (.tmp 0), 23, "law.go:42", #[⟨17, .guard⟩], some (17, true)⟩
def ask7_o19 : Oper := ⟨some 76, .load 32 (.tmp 6), 32, "law.go:42", #[⟨17, .guard⟩], some (17, true)⟩
def ask7_o20 : Oper := ⟨some 77, .call { callee := Callee.value (Operand.func 27), args := #[.tmp 75, .tmp 76], argTypes := #[23, 32] }, 3, "law.go:42", #[⟨18, .data⟩, ⟨19, .data⟩, ⟨17, .chain⟩, ⟨17, .guard⟩], some (17, true)⟩
def ask7_o21 : Oper := ⟨some 78, .move (.tmp 1), 26, "law.go:42", #[⟨17, .guard⟩], some (17, true)⟩
def ask7_o22 : Oper := ⟨some 79, .load 32 (.tmp 6), 32, "law.go:42", #[⟨17, .guard⟩], some (17, true)⟩
def ask7_o23 : Oper := ⟨some 80, .call { callee := Callee.value (Operand.func 53), args := #[.tmp 78, .tmp 79], argTypes := #[26, 32] }, 3, "law.go:42", #[⟨21, .data⟩, ⟨22, .data⟩, ⟨20, .chain⟩, ⟨17, .guard⟩], some (17, true)⟩
def ask7_o24 : Oper := ⟨some 81, .binOp BinOp.eql 3 (.tmp 77) (.tmp 80) 3, 4, "law.go:42", #[⟨20, .data⟩, ⟨23, .data⟩, ⟨17, .guard⟩], some (17, true)⟩
def ask7_o25 : Oper := ⟨some 82, .pick (.tmp 74) (.tmp 81) (Operand.const (Value.bool false)), 4, "law.go:42", #[⟨17, .data⟩, ⟨24, .data⟩], none⟩
def ask7_o26 : Oper := ⟨some 83, .move (.tmp 82), 4, "law.go:42", #[⟨25, .data⟩, ⟨23, .chain⟩], none⟩
def ask7_o27 : Oper := ⟨some 84, .move (.tmp 0), 23, "law.go:42", #[⟨26, .guard⟩], some (26, true)⟩
def ask7_o28 : Oper := ⟨some 85, .load 32 (.tmp 6), 32, "law.go:42", #[⟨26, .guard⟩], some (26, true)⟩
def ask7_o29 : Oper := ⟨some 86, .call { callee := Callee.value (Operand.func 32), args := #[.tmp 84, .tmp 85], argTypes := #[23, 32] }, 3, "law.go:42", #[⟨27, .data⟩, ⟨28, .data⟩, ⟨26, .chain⟩, ⟨26, .guard⟩], some (26, true)⟩
def ask7_o30 : Oper := ⟨some 87, .move (.tmp 1), 26, "law.go:42", #[⟨26, .guard⟩], some (26, true)⟩
def ask7_o31 : Oper := ⟨some 88, .load 32 (.tmp 6), 32, "law.go:42", #[⟨26, .guard⟩], some (26, true)⟩
def ask7_o32 : Oper := ⟨some 89, .call { callee := Callee.value (Operand.func 54), args := #[.tmp 87, .tmp 88], argTypes := #[26, 32] }, 3, "law.go:42", #[⟨30, .data⟩, ⟨31, .data⟩, ⟨29, .chain⟩, ⟨26, .guard⟩], some (26, true)⟩
def ask7_o33 : Oper := ⟨some 90, .binOp BinOp.eql 3 (.tmp 86) (.tmp 89) 3, 4, "law.go:42", #[⟨29, .data⟩, ⟨32, .data⟩, ⟨26, .guard⟩], some (26, true)⟩
def ask7_o34 : Oper := ⟨some 91, .pick (.tmp 83) (.tmp 90) (Operand.const (Value.bool false)), 4, "law.go:42", #[⟨26, .data⟩, ⟨33, .data⟩], none⟩
def ask7_o35 : Oper := ⟨some 92, .move (.tmp 91), 4, "law.go:42", #[⟨34, .data⟩, ⟨32, .chain⟩], none⟩
def ask7_o36 : Oper := ⟨some 93, .load 32 (.tmp 13), 32, "law.go:42", #[⟨35, .guard⟩], some (35, true)⟩
def ask7_o37 : Oper := ⟨some 94, .load 32 (.tmp 15), 32, "law.go:42", #[⟨35, .guard⟩], some (35, true)⟩
def ask7_o38 : Oper := ⟨some 95, .binOp BinOp.eql 32 (.tmp 93) (.tmp 94) 32, 4, "law.go:42", #[⟨36, .data⟩, ⟨37, .data⟩, ⟨35, .guard⟩], some (35, true)⟩
def ask7_o39 : Oper := ⟨some 96, .pick (.tmp 92) (.tmp 95) (Operand.const (Value.bool false)), 4, "law.go:42", #[⟨35, .data⟩, ⟨38, .data⟩], none⟩
def ask7_o40 : Oper := ⟨some 97, .move (.tmp 96), 4, "law.go:42", #[⟨39, .data⟩, ⟨35, .chain⟩], none⟩
def ask7_o41 : Oper := ⟨some 98, .move (.tmp 14), 4, "law.go:42", #[⟨40, .guard⟩], some (40, true)⟩
def ask7_o42 : Oper := ⟨some 99, .move (.tmp 16), 4, "law.go:42", #[⟨40, .guard⟩], some (40, true)⟩
def ask7_o43 : Oper := ⟨some 100, .binOp BinOp.eql 4 (.tmp 98) (.tmp 99) 4, 4, "law.go:42", #[⟨41, .data⟩, ⟨42, .data⟩, ⟨40, .guard⟩], some (40, true)⟩
def ask7_o44 : Oper := ⟨some 101, .pick (.tmp 97) (.tmp 100) (Operand.const (Value.bool false)), 4, "law.go:42", #[⟨40, .data⟩, ⟨43, .data⟩], none⟩
def ask7_o45 : Oper := ⟨some 102, .move (.tmp 101), 4, "law.go:42", #[⟨44, .data⟩, ⟨40, .chain⟩], none⟩
def ask7_o46 : Oper := ⟨some 103, .load 32 (.tmp 17), 32, "law.go:42", #[⟨45, .guard⟩], some (45, true)⟩
def ask7_o47 : Oper := ⟨some 104, .load 32 (.tmp 19), 32, "law.go:42", #[⟨45, .guard⟩], some (45, true)⟩
def ask7_o48 : Oper := ⟨some 105, .binOp BinOp.eql 32 (.tmp 103) (.tmp 104) 32, 4, "law.go:42", #[⟨46, .data⟩, ⟨47, .data⟩, ⟨45, .guard⟩], some (45, true)⟩
def ask7_o49 : Oper := ⟨some 106, .pick (.tmp 102) (.tmp 105) (Operand.const (Value.bool false)), 4, "law.go:42", #[⟨45, .data⟩, ⟨48, .data⟩], none⟩
def ask7_o50 : Oper := ⟨some 107, .move (.tmp 106), 4, "law.go:42", #[⟨49, .data⟩, ⟨45, .chain⟩], none⟩
def ask7_o51 : Oper := ⟨some 108, .move (.tmp 18), 4, "law.go:42", #[⟨50, .guard⟩], some (50, true)⟩
def ask7_o52 : Oper := ⟨some 109, .move (.tmp 20), 4, "law.go:42", #[⟨50, .guard⟩], some (50, true)⟩
def ask7_o53 : Oper := ⟨some 110, .binOp BinOp.eql 4 (.tmp 108) (.tmp 109) 4, 4, "law.go:42", #[⟨51, .data⟩, ⟨52, .data⟩, ⟨50, .guard⟩], some (50, true)⟩
def ask7_o54 : Oper := ⟨some 111, .pick (.tmp 107) (.tmp 110) (Operand.const (Value.bool false)), 4, "law.go:42", #[⟨50, .data⟩, ⟨53, .data⟩], none⟩
def ask7_o55 : Oper := ⟨some 8, .assign (.tmp 111), 4, "law.go:42", #[⟨54, .data⟩, ⟨50, .chain⟩, ⟨0, .phase⟩, ⟨1, .phase⟩, ⟨2, .phase⟩, ⟨3, .phase⟩, ⟨4, .phase⟩, ⟨5, .phase⟩, ⟨6, .phase⟩, ⟨7, .phase⟩, ⟨8, .phase⟩, ⟨9, .phase⟩, ⟨10, .phase⟩, ⟨11, .phase⟩, ⟨12, .phase⟩, ⟨13, .phase⟩, ⟨14, .phase⟩, ⟨15, .phase⟩, ⟨16, .phase⟩, ⟨17, .phase⟩, ⟨18, .phase⟩, ⟨19, .phase⟩, ⟨20, .phase⟩, ⟨21, .phase⟩, ⟨22, .phase⟩, ⟨23, .phase⟩, ⟨24, .phase⟩, ⟨25, .phase⟩, ⟨26, .phase⟩, ⟨27, .phase⟩, ⟨28, .phase⟩, ⟨29, .phase⟩, ⟨30, .phase⟩, ⟨31, .phase⟩, ⟨32, .phase⟩, ⟨33, .phase⟩, ⟨34, .phase⟩, ⟨35, .phase⟩, ⟨36, .phase⟩, ⟨37, .phase⟩, ⟨38, .phase⟩, ⟨39, .phase⟩, ⟨40, .phase⟩, ⟨41, .phase⟩, ⟨42, .phase⟩, ⟨43, .phase⟩, ⟨44, .phase⟩, ⟨45, .phase⟩, ⟨46, .phase⟩, ⟨47, .phase⟩, ⟨48, .phase⟩, ⟨49, .phase⟩, ⟨50, .phase⟩, ⟨51, .phase⟩, ⟨52, .phase⟩, ⟨53, .phase⟩, ⟨54, .phase⟩], none⟩
def ask7_ops : Array Oper := #[ask7_o0, ask7_o1, ask7_o2, ask7_o3, ask7_o4, ask7_o5, ask7_o6, ask7_o7, ask7_o8, ask7_o9, ask7_o10, ask7_o11, ask7_o12, ask7_o13, ask7_o14, ask7_o15, ask7_o16, ask7_o17, ask7_o18, ask7_o19, ask7_o20, ask7_o21, ask7_o22, ask7_o23, ask7_o24, ask7_o25, ask7_o26, ask7_o27, ask7_o28, ask7_o29, ask7_o30, ask7_o31, ask7_o32, ask7_o33, ask7_o34, ask7_o35, ask7_o36, ask7_o37, ask7_o38, ask7_o39, ask7_o40, ask7_o41, ask7_o42, ask7_o43, ask7_o44, ask7_o45, ask7_o46, ask7_o47, ask7_o48, ask7_o49, ask7_o50, ask7_o51, ask7_o52, ask7_o53, ask7_o54, ask7_o55]
theorem ask7 {pv rv : Value} {kb b1 b2 b3 b4 b5 b6 : Nat} {k u1 u2 u3 : IdK} {g g1 g2 g3 : Bool} {r q : Int} (S : World → Prop) (a : Act) (w : World) (Q : Exit → Act → World → Prop) (zz : a.tmps.size = 112)
    (t0 : a.tmps.getD 0 undef = pv)
    (t1 : a.tmps.getD 1 undef = rv)
    (t6 : a.tmps.getD 6 undef = .pointer (some ⟨kb, 0, none⟩))
    (t9 : a.tmps.getD 9 undef = .pointer (some ⟨b1, 0, none⟩))
    (t10 : a.tmps.getD 10 undef = .bool g1)
    (t11 : a.tmps.getD 11 undef = .pointer (some ⟨b2, 0, none⟩))
    (t12 : a.tmps.getD 12 undef = .bool g1)
    (t13 : a.tmps.getD 13 undef = .pointer (some ⟨b3, 0, none⟩))
    (t14 : a.tmps.getD 14 undef = .bool g2)
    (t15 : a.tmps.getD 15 undef = .pointer (some ⟨b4, 0, none⟩))
    (t16 : a.tmps.getD 16 undef = .bool g2)
    (t17 : a.tmps.getD 17 undef = .pointer (some ⟨b5, 0, none⟩))
    (t18 : a.tmps.getD 18 undef = .bool g3)
    (t19 : a.tmps.getD 19 undef = .pointer (some ⟨b6, 0, none⟩))
    (t20 : a.tmps.getD 20 undef = .bool g3)
    (hk : k.ok) (o1 : u1.ok) (o2 : u2.ok) (o3 : u3.ok) (h0 : S w.drew) (hb : ∀ X, S X → IdAt X kb k ∧ IdAt X b1 u1 ∧ IdAt X b2 u1 ∧ IdAt X b3 u2 ∧ IdAt X b4 u2 ∧ IdAt X b5 u3 ∧ IdAt X b6 u3) (C1 : ∀ X, S X → Calls Try.prog 28 #[pv, k.v] X fun e w' => e = .returned (.bool g) ∧ S w') (C2 : ∀ X, S X → Calls Try.prog 52 #[rv, k.v] X fun e w' => e = .returned (.bool g) ∧ S w') (C3 : ∀ X, S X → Calls Try.prog 27 #[pv, k.v] X fun e w' => e = .returned (.int .i64 r) ∧ S w') (C4 : ∀ X, S X → Calls Try.prog 53 #[rv, k.v] X fun e w' => e = .returned (.int .i64 r) ∧ S w') (C5 : ∀ X, S X → Calls Try.prog 32 #[pv, k.v] X fun e w' => e = .returned (.int .i64 q) ∧ S w') (C6 : ∀ X, S X → Calls Try.prog 54 #[rv, k.v] X fun e w' => e = .returned (.int .i64 q) ∧ S w')
    (h : ∀ (a' : Act) (w' : World), S w' → a' = ((((((((((((((((((((((((((((((((((((((((((((((((((((((((a).put (some 57) (pv)).put (some 58) (k.v)).put (some 60) (rv)).put (some 61) (k.v)).put (some 59) (.bool g)).put (some 62) (.bool g)).put (some 63) (.bool true)).put (some 64) (.bool true)).put (some 65) (u1.v)).put (some 66) (u1.v)).put (some 67) (.bool true)).put (some 68) (.bool true)).put (some 69) (.bool true)).put (some 70) (.bool g1)).put (some 71) (.bool g1)).put (some 72) (.bool true)).put (some 73) (.bool true)).put (some 74) (.bool true)).put (some 75) (pv)).put (some 76) (k.v)).put (some 78) (rv)).put (some 79) (k.v)).put (some 77) (.int .i64 r)).put (some 80) (.int .i64 r)).put (some 81) (.bool true)).put (some 82) (.bool true)).put (some 83) (.bool true)).put (some 84) (pv)).put (some 85) (k.v)).put (some 87) (rv)).put (some 88) (k.v)).put (some 86) (.int .i64 q)).put (some 89) (.int .i64 q)).put (some 90) (.bool true)).put (some 91) (.bool true)).put (some 92) (.bool true)).put (some 93) (u2.v)).put (some 94) (u2.v)).put (some 95) (.bool true)).put (some 96) (.bool true)).put (some 97) (.bool true)).put (some 98) (.bool g2)).put (some 99) (.bool g2)).put (some 100) (.bool true)).put (some 101) (.bool true)).put (some 102) (.bool true)).put (some 103) (u3.v)).put (some 104) (u3.v)).put (some 105) (.bool true)).put (some 106) (.bool true)).put (some 107) (.bool true)).put (some 108) (.bool g3)).put (some 109) (.bool g3)).put (some 110) (.bool true)).put (some 111) (.bool true)).put (some 8) (.bool true) → Q .normal a' w') :
    (Code.region 7 ask7_ops true).wp Try.prog Q a w := by
  refine y0 (fun w' => S w') (h0) (fun hHeld => ?_)
  refine yv 0 rfl rfl (fun w1 hw => exec_move rfl (zi t0 rfl)) hHeld ?_
  refine yv 1 rfl rfl (fun w1 hw => exec_load rfl (zi t6 rfl) (load_id hk ((hb _ hw).1))) hHeld ?_
  refine yv 3 rfl rfl (fun w1 hw => exec_move rfl (zi t1 rfl)) hHeld ?_
  refine yv 4 rfl rfl (fun w1 hw => exec_load rfl (zi t6 rfl) (load_id hk ((hb _ hw).1))) hHeld ?_
  refine yc 2 rfl rfl (exec_c2 rfl (zg zz rfl) (zg zz rfl)) (C1 _ hHeld) (fun e x2 hx => ?_)
  obtain ⟨rfl, hs⟩ := hx
  refine ⟨_, rfl, hs, fun hHeld => ?_⟩
  refine yc 5 rfl rfl (exec_c2 rfl (zg zz rfl) (zg zz rfl)) (C2 _ hHeld) (fun e x5 hx => ?_)
  obtain ⟨rfl, hs⟩ := hx
  refine ⟨_, rfl, hs, fun hHeld => ?_⟩
  refine yv (v := .bool true) 6 rfl rfl (fun w1 hw => ex_eqlB rfl (zg zz rfl) (zg zz rfl)) hHeld ?_
  refine yv 7 rfl rfl (fun w1 hw => exec_move rfl (zg zz rfl)) hHeld ?_
  refine yv 8 rfl (zw zz rfl rfl rfl (zg zz rfl)) (fun w1 hw => exec_load rfl (zi t9 rfl) (load_id o1 ((hb _ hw).2.1))) hHeld ?_
  refine yv 9 rfl (zw zz rfl rfl rfl (zg zz rfl)) (fun w1 hw => exec_load rfl (zi t11 rfl) (load_id o1 ((hb _ hw).2.2.1))) hHeld ?_
  refine yv (v := .bool true) 10 rfl (zw zz rfl rfl rfl (zg zz rfl)) (fun w1 hw => ex_eqlI rfl (zg zz rfl) (zg zz rfl) o1 o1 (by simp)) hHeld ?_
  refine yv 11 rfl rfl (fun w1 hw => exec_pickT rfl (zg zz rfl) (zg zz rfl)) hHeld ?_
  refine yv 12 rfl rfl (fun w1 hw => exec_move rfl (zg zz rfl)) hHeld ?_
  refine yv 13 rfl (zw zz rfl rfl rfl (zg zz rfl)) (fun w1 hw => exec_move rfl (zi t10 rfl)) hHeld ?_
  refine yv 14 rfl (zw zz rfl rfl rfl (zg zz rfl)) (fun w1 hw => exec_move rfl (zi t12 rfl)) hHeld ?_
  refine yv (v := .bool true) 15 rfl (zw zz rfl rfl rfl (zg zz rfl)) (fun w1 hw => ex_eqlB rfl (zg zz rfl) (zg zz rfl)) hHeld ?_
  refine yv 16 rfl rfl (fun w1 hw => exec_pickT rfl (zg zz rfl) (zg zz rfl)) hHeld ?_
  refine yv 17 rfl rfl (fun w1 hw => exec_move rfl (zg zz rfl)) hHeld ?_
  refine yv 18 rfl (zw zz rfl rfl rfl (zg zz rfl)) (fun w1 hw => exec_move rfl (zi t0 rfl)) hHeld ?_
  refine yv 19 rfl (zw zz rfl rfl rfl (zg zz rfl)) (fun w1 hw => exec_load rfl (zi t6 rfl) (load_id hk ((hb _ hw).1))) hHeld ?_
  refine yv 21 rfl (zw zz rfl rfl rfl (zg zz rfl)) (fun w1 hw => exec_move rfl (zi t1 rfl)) hHeld ?_
  refine yv 22 rfl (zw zz rfl rfl rfl (zg zz rfl)) (fun w1 hw => exec_load rfl (zi t6 rfl) (load_id hk ((hb _ hw).1))) hHeld ?_
  refine yc 20 rfl (zw zz rfl rfl rfl (zg zz rfl)) (exec_c2 rfl (zg zz rfl) (zg zz rfl)) (C3 _ hHeld) (fun e x20 hx => ?_)
  obtain ⟨rfl, hs⟩ := hx
  refine ⟨_, rfl, hs, fun hHeld => ?_⟩
  refine yc 23 rfl (zw zz rfl rfl rfl (zg zz rfl)) (exec_c2 rfl (zg zz rfl) (zg zz rfl)) (C4 _ hHeld) (fun e x23 hx => ?_)
  obtain ⟨rfl, hs⟩ := hx
  refine ⟨_, rfl, hs, fun hHeld => ?_⟩
  refine yv (v := .bool true) 24 rfl (zw zz rfl rfl rfl (zg zz rfl)) (fun w1 hw => ex_eql rfl (zg zz rfl) (zg zz rfl) (by simp)) hHeld ?_
  refine yv 25 rfl rfl (fun w1 hw => exec_pickT rfl (zg zz rfl) (zg zz rfl)) hHeld ?_
  refine yv 26 rfl rfl (fun w1 hw => exec_move rfl (zg zz rfl)) hHeld ?_
  refine yv 27 rfl (zw zz rfl rfl rfl (zg zz rfl)) (fun w1 hw => exec_move rfl (zi t0 rfl)) hHeld ?_
  refine yv 28 rfl (zw zz rfl rfl rfl (zg zz rfl)) (fun w1 hw => exec_load rfl (zi t6 rfl) (load_id hk ((hb _ hw).1))) hHeld ?_
  refine yv 30 rfl (zw zz rfl rfl rfl (zg zz rfl)) (fun w1 hw => exec_move rfl (zi t1 rfl)) hHeld ?_
  refine yv 31 rfl (zw zz rfl rfl rfl (zg zz rfl)) (fun w1 hw => exec_load rfl (zi t6 rfl) (load_id hk ((hb _ hw).1))) hHeld ?_
  refine yc 29 rfl (zw zz rfl rfl rfl (zg zz rfl)) (exec_c2 rfl (zg zz rfl) (zg zz rfl)) (C5 _ hHeld) (fun e x29 hx => ?_)
  obtain ⟨rfl, hs⟩ := hx
  refine ⟨_, rfl, hs, fun hHeld => ?_⟩
  refine yc 32 rfl (zw zz rfl rfl rfl (zg zz rfl)) (exec_c2 rfl (zg zz rfl) (zg zz rfl)) (C6 _ hHeld) (fun e x32 hx => ?_)
  obtain ⟨rfl, hs⟩ := hx
  refine ⟨_, rfl, hs, fun hHeld => ?_⟩
  refine yv (v := .bool true) 33 rfl (zw zz rfl rfl rfl (zg zz rfl)) (fun w1 hw => ex_eql rfl (zg zz rfl) (zg zz rfl) (by simp)) hHeld ?_
  refine yv 34 rfl rfl (fun w1 hw => exec_pickT rfl (zg zz rfl) (zg zz rfl)) hHeld ?_
  refine yv 35 rfl rfl (fun w1 hw => exec_move rfl (zg zz rfl)) hHeld ?_
  refine yv 36 rfl (zw zz rfl rfl rfl (zg zz rfl)) (fun w1 hw => exec_load rfl (zi t13 rfl) (load_id o2 ((hb _ hw).2.2.2.1))) hHeld ?_
  refine yv 37 rfl (zw zz rfl rfl rfl (zg zz rfl)) (fun w1 hw => exec_load rfl (zi t15 rfl) (load_id o2 ((hb _ hw).2.2.2.2.1))) hHeld ?_
  refine yv (v := .bool true) 38 rfl (zw zz rfl rfl rfl (zg zz rfl)) (fun w1 hw => ex_eqlI rfl (zg zz rfl) (zg zz rfl) o2 o2 (by simp)) hHeld ?_
  refine yv 39 rfl rfl (fun w1 hw => exec_pickT rfl (zg zz rfl) (zg zz rfl)) hHeld ?_
  refine yv 40 rfl rfl (fun w1 hw => exec_move rfl (zg zz rfl)) hHeld ?_
  refine yv 41 rfl (zw zz rfl rfl rfl (zg zz rfl)) (fun w1 hw => exec_move rfl (zi t14 rfl)) hHeld ?_
  refine yv 42 rfl (zw zz rfl rfl rfl (zg zz rfl)) (fun w1 hw => exec_move rfl (zi t16 rfl)) hHeld ?_
  refine yv (v := .bool true) 43 rfl (zw zz rfl rfl rfl (zg zz rfl)) (fun w1 hw => ex_eqlB rfl (zg zz rfl) (zg zz rfl)) hHeld ?_
  refine yv 44 rfl rfl (fun w1 hw => exec_pickT rfl (zg zz rfl) (zg zz rfl)) hHeld ?_
  refine yv 45 rfl rfl (fun w1 hw => exec_move rfl (zg zz rfl)) hHeld ?_
  refine yv 46 rfl (zw zz rfl rfl rfl (zg zz rfl)) (fun w1 hw => exec_load rfl (zi t17 rfl) (load_id o3 ((hb _ hw).2.2.2.2.2.1))) hHeld ?_
  refine yv 47 rfl (zw zz rfl rfl rfl (zg zz rfl)) (fun w1 hw => exec_load rfl (zi t19 rfl) (load_id o3 ((hb _ hw).2.2.2.2.2.2))) hHeld ?_
  refine yv (v := .bool true) 48 rfl (zw zz rfl rfl rfl (zg zz rfl)) (fun w1 hw => ex_eqlI rfl (zg zz rfl) (zg zz rfl) o3 o3 (by simp)) hHeld ?_
  refine yv 49 rfl rfl (fun w1 hw => exec_pickT rfl (zg zz rfl) (zg zz rfl)) hHeld ?_
  refine yv 50 rfl rfl (fun w1 hw => exec_move rfl (zg zz rfl)) hHeld ?_
  refine yv 51 rfl (zw zz rfl rfl rfl (zg zz rfl)) (fun w1 hw => exec_move rfl (zi t18 rfl)) hHeld ?_
  refine yv 52 rfl (zw zz rfl rfl rfl (zg zz rfl)) (fun w1 hw => exec_move rfl (zi t20 rfl)) hHeld ?_
  refine yv (v := .bool true) 53 rfl (zw zz rfl rfl rfl (zg zz rfl)) (fun w1 hw => ex_eqlB rfl (zg zz rfl) (zg zz rfl)) hHeld ?_
  refine yv 54 rfl rfl (fun w1 hw => exec_pickT rfl (zg zz rfl) (zg zz rfl)) hHeld ?_
  refine yv 55 rfl rfl (fun w1 hw => exec_assign rfl (zg zz rfl)) hHeld ?_
  exact ye rfl (h _ _ (hHeld) rfl)
def whi1_o0 : Oper := ⟨some 5, .move (.tmp 0), 3, "law.go:22", #[], none⟩
def whi1_o1 : Oper := ⟨some 6, .move (.tmp 1), 3, "law.go:22", #[], none⟩
def whi1_o2 : Oper := ⟨some 7, .binOp BinOp.rem 3 (.tmp 5) (.tmp 6) 3, 3, "law.go:22", #[⟨0, .data⟩, ⟨1, .data⟩], none⟩
def whi1_o3 : Oper := ⟨some 0, .assign (.tmp 7), 3, "law.go:22", #[⟨2, .data⟩, ⟨0, .phase⟩, ⟨1, .phase⟩, ⟨2, .phase⟩], none⟩
def whi1_ops : Array Oper := #[whi1_o0, whi1_o1, whi1_o2, whi1_o3]
theorem whi1 {n : Int} {m : Nat} (a : Act) (w : World) (Q : Exit → Act → World → Prop) (zz : a.tmps.size = 14)
    (t0 : a.tmps.getD 0 undef = .int .i64 n)
    (t1 : a.tmps.getD 1 undef = .int .i64 (m : Int))
    (hR : ∀ {w : World} {a : Act} {o : Oper} {x y : Operand}, o.op = .binOp .rem 3 x y 3 → a.eval x = .int .i64 n → a.eval y = .int .i64 (m : Int) → (execOp a.eval o).run Try.prog w = .ok (.value (.int .i64 (Int.tmod n (m : Int)))) w)
    (h : ∀ (a' : Act) (w' : World), w' = w → a' = ((((a).put (some 5) (.int .i64 n)).put (some 6) (.int .i64 (m : Int))).put (some 7) (.int .i64 (Int.tmod n (m : Int)))).put (some 0) (.int .i64 (Int.tmod n (m : Int))) → Q .normal a' w') :
    (Code.region 1 whi1_ops false).wp Try.prog Q a w := by
  refine z0 rfl ?_
  refine zv rfl (exec_move rfl (zi t0 rfl)) ?_
  refine zv rfl (exec_move rfl (zi t1 rfl)) ?_
  refine zv (v := .int .i64 (Int.tmod n (m : Int))) rfl (hR rfl (zg zz rfl) (zg zz rfl)) ?_
  refine zv rfl (exec_assign rfl (zg zz rfl)) ?_
  exact ze rfl (h _ _ (rfl) rfl)
structure AS (w : World) (base : Nat) (pv rv : Value) (E R : List Elt) (L : List (Nat × IdK)) (X : World) : Prop where
  two : Two X base pv rv E R
  box : ∀ q ∈ L, IdAt X q.1 q.2
  bel : Below w.heap.size w X
section
variable {w : World} {base : Nat} {pv rv : Value} {E R : List Elt} {L : List (Nat × IdK)} {X : World}
theorem AS.below {X' : World} (h : AS w base pv rv E R L X) (b : Below X.heap.size X X') : AS w base pv rv E R L X' := ⟨h.two.below b, fun q hq => (h.box q hq).below b, h.bel.trans (b.mono h.bel.size)⟩
theorem AS.drew (h : AS w base pv rv E R L X) : AS w base pv rv E R L X.drew := h.below ((Below.refl _ _).drew)
theorem AS.more (h : AS w base pv rv E R L X) {x : IdK} (hx : x.ok) : ∃ bb, bb = X.heap.size ∧ ∃ w2, (Instr.storeAt 32 (.pointer (some ⟨bb, 0, none⟩)) x.v).run Try.prog (X.alloc (.cells zId.c.toArray 32)) = .ok () w2 ∧ AS w base pv rv E R ((bb, x) :: L) w2 := by
  obtain ⟨w2, e, hb, b2⟩ := idbox_new (w := X) hx
  refine ⟨_, rfl, w2, e, (h.below b2).two, fun q hq => ?_, (h.below b2).bel⟩
  rcases List.mem_cons.1 hq with rfl | hq
  · exact hb
  · exact (h.below b2).box q hq
theorem nthE_okE (ok : ∀ e ∈ E, RE.ok e) (c : Bool) (z : Int) : (nthE E c z).1.ok := by
  unfold nthE
  split
  · next q =>
    rw [List.getD_eq_getElem?_getD]
    cases r : ((visE E c).map (·.id))[z.toNat]? with
    | none => exact zId_ok
    | some x =>
      obtain ⟨e, he, rfl⟩ := List.mem_map.1 (List.mem_of_getElem? r)
      exact (ok e (List.mem_filter.1 he).1).1
  · exact zId_ok
theorem behE_row {R : List Elt} (h : RefOk R) (k : IdK) : behE (rowR R) k = behE R k := by
  cases q : hasE R k with
  | false => rw [behE_none q, behE_none (by rw [has_row]; exact q)]
  | true =>
    have key : ∀ F : List Elt, (F.map (·.id)).Nodup → ∀ e ∈ F, e.id = k → behE F k = e.bh := fun F nd e he r => by
      obtain ⟨A, B, rfl⟩ := List.append_of_mem he
      rw [List.map_append, List.map_cons, List.nodup_append] at nd
      unfold behE
      rw [find_mid (x := e) (p := fun e : Elt => decide (e.id = k)) (fun y hy => decide_eq_false (fun q => nd.2.2 y.id (List.mem_map.2 ⟨y, hy, rfl⟩) e.id (by simp) (q.trans r.symm))) (decide_eq_true r)]
      rfl
    obtain ⟨e, he, r⟩ := hasE_iff.1 q
    rw [key R h.nd e he r, key (rowR R) h.row.nd e ((rowR_perm R).mem_iff.2 he) r]
theorem asks_any (h : Two w base pv rv E R) {k : IdK} (hk : k.ok) (z : Int) (hz : -9223372036854775808 ≤ z ∧ z ≤ 9223372036854775807) : Calls Try.prog 21 #[pv, rv, k.v, .int .i64 z] w fun e w' => e = .returned (.bool true) ∧ Below w.heap.size w w' := by
  have bx : Below w.heap.size w (w.alloc (.cells k.c.toArray 32)) := (Below.refl _ _).alloc (Nat.le_refl _) _
  have hx := id_new w k
  have ok1 : (behE E k).ok := by
    rw [h.eq, behE_row h.rf.ok.1]; exact behE_ok h.rf.ok.1.seq k
  have ok2 := nthE_okE h.ok false z
  have ok3 := nthE_okE h.ok true z
  have C1 : Hid (∀ X, Two X base pv rv E R → Calls Try.prog 48 #[pv, k.v] X fun e w' => e = .returned (.tuple #[(behE E k).v, .bool (hasE E k)]) ∧ Below X.heap.size X w') := fun X hX => pv_behind hX.pr hk
  have C2 : Hid (∀ X, Two X base pv rv E R → Calls Try.prog 49 #[rv, k.v] X fun e w' => e = .returned (.tuple #[(behE E k).v, .bool (hasE E k)]) ∧ Below X.heap.size X w') := fun X hX => by
    have := behind_ref hX.rf hk
    rw [hX.eq, behE_row hX.rf.ok.1, has_row]; exact this
  have C3 : Hid (∀ X, Two X base pv rv E R → Calls Try.prog 31 #[pv, .int .i64 z] X fun e w' => e = .returned (.tuple #[(nthE E false z).1.v, .bool (nthE E false z).2]) ∧ Below X.heap.size X w') := fun X hX => pv_at hX.pr z hz
  have C4 : Hid (∀ X, Two X base pv rv E R → Calls Try.prog 50 #[rv, .int .i64 z] X fun e w' => e = .returned (.tuple #[(nthE E false z).1.v, .bool (nthE E false z).2]) ∧ Below X.heap.size X w') := fun X hX => by
    rw [hX.eq]; exact at_ref hX.rf z hz
  have C5 : Hid (∀ X, Two X base pv rv E R → Calls Try.prog 33 #[pv, .int .i64 z] X fun e w' => e = .returned (.tuple #[(nthE E true z).1.v, .bool (nthE E true z).2]) ∧ Below X.heap.size X w') := fun X hX => pv_nth hX.pr z hz
  have C6 : Hid (∀ X, Two X base pv rv E R → Calls Try.prog 51 #[rv, .int .i64 z] X fun e w' => e = .returned (.tuple #[(nthE E true z).1.v, .bool (nthE E true z).2]) ∧ Below X.heap.size X w') := fun X hX => by
    rw [hX.eq]; exact nth_ref hX.rf z hz
  have D1 : Hid (∀ X, Two X base pv rv E R → Calls Try.prog 28 #[pv, k.v] X fun e w' => e = .returned (.bool (hasE E k)) ∧ Below X.heap.size X w') := fun X hX => pv_has hX.pr hk
  have D2 : Hid (∀ X, Two X base pv rv E R → Calls Try.prog 52 #[rv, k.v] X fun e w' => e = .returned (.bool (hasE E k)) ∧ Below X.heap.size X w') := fun X hX => by rw [hX.eq, has_row]; exact has_ref hX.rf hk
  have D3 : Hid (∀ X, Two X base pv rv E R → Calls Try.prog 27 #[pv, k.v] X fun e w' => e = .returned (.int .i64 (aheadE E false k)) ∧ Below X.heap.size X w') := fun X hX => pv_rank hX.pr hk
  have D4 : Hid (∀ X, Two X base pv rv E R → Calls Try.prog 53 #[rv, k.v] X fun e w' => e = .returned (.int .i64 (aheadE E false k)) ∧ Below X.heap.size X w') := fun X hX => by rw [hX.eq]; exact rank_ref hX.rf hk
  have D5 : Hid (∀ X, Two X base pv rv E R → Calls Try.prog 32 #[pv, k.v] X fun e w' => e = .returned (.int .i64 (aheadE E true k)) ∧ Below X.heap.size X w') := fun X hX => pv_index hX.pr hk
  have D6 : Hid (∀ X, Two X base pv rv E R → Calls Try.prog 54 #[rv, k.v] X fun e w' => e = .returned (.int .i64 (aheadE E true k)) ∧ Below X.heap.size X w') := fun X hX => by rw [hX.eq]; exact index_ref hX.rf hk
  generalize behE E k = u1 at *
  generalize nthE E false z = n2 at *
  generalize nthE E true z = n3 at *
  obtain ⟨u2, g2⟩ := n2
  obtain ⟨u3, g3⟩ := n3
  generalize hasE E k = g at *
  generalize aheadE E false k = r at *
  generalize aheadE E true k = q at *
  show Calls Try.prog 21 #[pv, rv, .agg k.c.toArray, .int .i64 z] w _
  go_enter Try.func21, Try.ntmps21
  go_upto_region 1 with fail
  have A0 : AS w base pv rv E R [(w.heap.size, k)] (w.alloc (.cells k.c.toArray 32)) := ⟨h.below bx, fun q hq => by rw [List.mem_singleton.1 hq]; exact hx, bx⟩
  generalize w.alloc (.cells k.c.toArray 32) = wx at *
  obtain ⟨kb, hkb⟩ : ∃ kb, w.heap.size = kb := ⟨_, rfl⟩
  rw [hkb] at A0 ⊢
  clear hkb hx bx h
  refine ask1 (x := u1) (g := g) (k := k) (fun bb X => AS w base pv rv E R ((bb, u1) :: [(kb, k)]) X) _ _ _ rfl rfl rfl hk (A0.box (kb, k) (by simp)) ((C1.out _ A0.two).mono fun e w' ⟨h1, h2⟩ => by
    obtain ⟨bb, e1, w2, e2, e3⟩ := (A0.below h2).more ok1
    exact ⟨h1, bb, e1, w2, e2, e3⟩) ?_
  intro b1 a' w1 A1 ha
  subst ha
  clear A0
  simp only [Act.put, List.setIfInBounds_toArray, List.set_cons_zero, List.set_cons_succ]
  go_upto_region 2 with fail
  refine ask2 (x := u1) (g := g) (k := k) (fun bb X => AS w base pv rv E R ((bb, u1) :: (b1, u1) :: [(kb, k)]) X) _ _ _ rfl rfl rfl hk (A1.box (kb, k) (by simp)) ((C2.out _ A1.two).mono fun e w' ⟨h1, h2⟩ => by
    obtain ⟨bb, e1, w2, e2, e3⟩ := (A1.below h2).more ok1
    exact ⟨h1, bb, e1, w2, e2, e3⟩) ?_
  intro b2 a' w2 A2 ha
  subst ha
  clear A1
  simp only [Act.put, List.setIfInBounds_toArray, List.set_cons_zero, List.set_cons_succ]
  go_upto_region 3 with fail
  refine ask3 (x := u2) (g := g2) (z := z) (fun bb X => AS w base pv rv E R ((bb, u2) :: (b2, u1) :: (b1, u1) :: [(kb, k)]) X) _ _ _ rfl rfl rfl ((C3.out _ A2.two).mono fun e w' ⟨h1, h2⟩ => by
    obtain ⟨bb, e1, w2, e2, e3⟩ := (A2.below h2).more ok2
    exact ⟨h1, bb, e1, w2, e2, e3⟩) ?_
  intro b3 a' w3 A3 ha
  subst ha
  clear A2
  simp only [Act.put, List.setIfInBounds_toArray, List.set_cons_zero, List.set_cons_succ]
  go_upto_region 4 with fail
  refine ask4 (x := u2) (g := g2) (z := z) (fun bb X => AS w base pv rv E R ((bb, u2) :: (b3, u2) :: (b2, u1) :: (b1, u1) :: [(kb, k)]) X) _ _ _ rfl rfl rfl ((C4.out _ A3.two).mono fun e w' ⟨h1, h2⟩ => by
    obtain ⟨bb, e1, w2, e2, e3⟩ := (A3.below h2).more ok2
    exact ⟨h1, bb, e1, w2, e2, e3⟩) ?_
  intro b4 a' w4 A4 ha
  subst ha
  clear A3
  simp only [Act.put, List.setIfInBounds_toArray, List.set_cons_zero, List.set_cons_succ]
  go_upto_region 5 with fail
  refine ask5 (x := u3) (g := g3) (z := z) (fun bb X => AS w base pv rv E R ((bb, u3) :: (b4, u2) :: (b3, u2) :: (b2, u1) :: (b1, u1) :: [(kb, k)]) X) _ _ _ rfl rfl rfl ((C5.out _ A4.two).mono fun e w' ⟨h1, h2⟩ => by
    obtain ⟨bb, e1, w2, e2, e3⟩ := (A4.below h2).more ok3
    exact ⟨h1, bb, e1, w2, e2, e3⟩) ?_
  intro b5 a' w5 A5 ha
  subst ha
  clear A4
  simp only [Act.put, List.setIfInBounds_toArray, List.set_cons_zero, List.set_cons_succ]
  go_upto_region 6 with fail
  refine ask6 (x := u3) (g := g3) (z := z) (fun bb X => AS w base pv rv E R ((bb, u3) :: (b5, u3) :: (b4, u2) :: (b3, u2) :: (b2, u1) :: (b1, u1) :: [(kb, k)]) X) _ _ _ rfl rfl rfl ((C6.out _ A5.two).mono fun e w' ⟨h1, h2⟩ => by
    obtain ⟨bb, e1, w2, e2, e3⟩ := (A5.below h2).more ok3
    exact ⟨h1, bb, e1, w2, e2, e3⟩) ?_
  intro b6 a' w6 A6 ha
  subst ha
  clear A5
  simp only [Act.put, List.setIfInBounds_toArray, List.set_cons_zero, List.set_cons_succ]
  go_upto_region 7 with fail
  refine ask7 (k := k) (u1 := u1) (u2 := u2) (u3 := u3) (g := g) (g1 := g) (g2 := g2) (g3 := g3) (r := r) (q := q) (fun X => AS w base pv rv E R ((b6, u3) :: (b5, u3) :: (b4, u2) :: (b3, u2) :: (b2, u1) :: (b1, u1) :: [(kb, k)]) X) _ _ _ rfl rfl rfl rfl rfl rfl rfl rfl rfl rfl rfl rfl rfl rfl rfl rfl hk ok1 ok2 ok3 A6.drew (fun X hX => ⟨hX.box (kb, k) (by simp), hX.box (b1, u1) (by simp), hX.box (b2, u1) (by simp), hX.box (b3, u2) (by simp), hX.box (b4, u2) (by simp), hX.box (b5, u3) (by simp), hX.box (b6, u3) (by simp)⟩)
    (fun X hX => (D1.out _ hX.two).mono fun e w' ⟨h1, h2⟩ => ⟨h1, hX.below h2⟩) (fun X hX => (D2.out _ hX.two).mono fun e w' ⟨h1, h2⟩ => ⟨h1, hX.below h2⟩) (fun X hX => (D3.out _ hX.two).mono fun e w' ⟨h1, h2⟩ => ⟨h1, hX.below h2⟩) (fun X hX => (D4.out _ hX.two).mono fun e w' ⟨h1, h2⟩ => ⟨h1, hX.below h2⟩) (fun X hX => (D5.out _ hX.two).mono fun e w' ⟨h1, h2⟩ => ⟨h1, hX.below h2⟩) (fun X hX => (D6.out _ hX.two).mono fun e w' ⟨h1, h2⟩ => ⟨h1, hX.below h2⟩) ?_
  intro a' w7 A7 ha
  subst ha
  simp only [Act.put, List.setIfInBounds_toArray, List.set_cons_zero, List.set_cons_succ]
  have B7 := hidMk A7.bel
  clear A6 A7 C1 C2 C3 C4 C5 C6 D1 D2 D3 D4 D5 D6
  go_wp2
  go_ret
  exact ⟨rfl, B7.out⟩
end
theorem which_any (n : Int) (hn : -9223372036854775808 ≤ n ∧ n ≤ 9223372036854775807) {m : Nat} (h0 : 0 < m) (hm : m ≤ 1400000000001) (w : World) : Calls Try.prog 11 #[.int .i64 n, .int .i64 (m : Int)] w fun e w' => ∃ i : Nat, e = .returned (.int .i64 (i : Int)) ∧ i < m ∧ w' = w := by
  have l1 : -(m : Int) < Int.tmod n (m : Int) := by have := Int.lt_tmod_of_pos n (show (0 : Int) < (m : Int) by omega); omega
  have l2 : Int.tmod n (m : Int) < (m : Int) := Int.tmod_lt_of_pos n (by omega)
  have hR : ∀ {w : World} {a : Act} {o : Oper} {x y : Operand}, o.op = .binOp .rem 3 x y 3 → a.eval x = .int .i64 n → a.eval y = .int .i64 (m : Int) → (execOp a.eval o).run Try.prog w = .ok (.value (.int .i64 (Int.tmod n (m : Int)))) w := fun {w a o x y} ho hx hy => by
    refine exec_binOp ho hx hy ?_ ?_
    · kernel_rfl
    · have hne : ¬ (m = 0) := by omega
      go_simp
  generalize hr : Int.tmod n (m : Int) = r at *
  go_enter Try.func11, Try.ntmps11
  go_upto_region 1 with fail
  refine whi1 (n := n) (m := m) _ _ _ rfl rfl rfl (by rw [hr]; exact hR) ?_
  intro a' w1 hw ha
  subst ha
  obtain rfl : w1 = w := hw
  rw [hr]
  simp only [Act.put, List.setIfInBounds_toArray, List.set_cons_zero, List.set_cons_succ]
  clear hr hR
  by_cases hz : r < 0
  · obtain ⟨i, hi⟩ : ∃ i : Nat, r + (m : Int) = (i : Int) := ⟨(r + m).toNat, by omega⟩
    have HI := hidMk hi
    have HLT := hidMk (show i < m by omega)
    clear hi
    go_wp2
    go_ret
    exact ⟨i, by rw [← HI.out]; rfl, HLT.out, rfl⟩
  · obtain ⟨i, rfl⟩ : ∃ i : Nat, r = (i : Int) := ⟨r.toNat, by omega⟩
    have HLT := hidMk (show i < m by omega)
    go_wp2
    go_ret
    exact ⟨i, rfl, HLT.out, rfl⟩
end Go.Proofs.Ytpdepbakopdgpaa
namespace Go.Proofs.Ytpdepbakopdgpaa
open Go.RowKit
set_option linter.unusedVariables false
set_option linter.unusedSimpArgs false
def Vals (w : World) (a : Option Addr) (X : List Value) : Prop := X = [] ∨ ∃ b off, a = some ⟨b, off, none⟩ ∧ ∀ j u, X[j]? = some u → w.cell? ⟨b, off + j, none⟩ = some u
def OwnV (w : World) (base : Nat) (e : TypeId) (v : Value) (X : List Value) : Prop := w.ownsRow base e 1 v X.length X
theorem Vals.below {w w' : World} {a : Option Addr} {X : List Value} (h : Vals w a X) (hb : Below w.heap.size w w') : Vals w' a X := by
  rcases h with rfl | ⟨b, off, rfl, hc⟩
  · exact .inl rfl
  · exact .inr ⟨b, off, rfl, fun j u hj => (hb.cell (p := ⟨b, off + j, none⟩) (block_lt_of_cell (hc j u hj))).trans (hc j u hj)⟩
theorem OwnV.below {w w' : World} {base : Nat} {e : TypeId} {v : Value} {X : List Value} (h : OwnV w base e v X) (hb : Below w.heap.size w w') : OwnV w' base e v X := by
  refine ⟨h.1, ?_⟩
  rcases h.2 with hn | ⟨g, cap, cur, rfl, hbg, hg, rest⟩
  · exact .inl hn
  · exact .inr ⟨g, cap, cur, rfl, hbg, by rw [hb.block g (Array.getElem?_eq_some_iff.1 hg).1]; exact hg, rest⟩
theorem OwnV.keep {w w' : World} {base : Nat} {e : TypeId} {v : Value} {X : List Value} (h : OwnV w base e v X) (hk : ∀ k, v.ownBlock = some k → w'.heap[k]? = w.heap[k]?) : OwnV w' base e v X := by
  refine ⟨h.1, ?_⟩
  rcases h.2 with hn | ⟨g, cap, cur, rfl, hbg, hg, rest⟩
  · exact .inl hn
  · exact .inr ⟨g, cap, cur, rfl, hbg, by rw [hk g rfl]; exact hg, rest⟩
theorem OwnV.ge {w : World} {base : Nat} {e : TypeId} {v : Value} {X : List Value} (h : OwnV w base e v X) : ∀ j, v.ownBlock = some j → base ≤ j ∧ ∃ c, w.heap[j]? = some (.cells c e (0, 0)) := by
  intro j hj
  rcases h.2 with ⟨rfl, hn⟩ | ⟨g, cap, cur, rfl, hbg, hg, rest⟩
  · cases hj
  · obtain rfl : g = j := by simpa [Value.ownBlock] using hj
    exact ⟨hbg, _, hg⟩
theorem OwnV.open {w : World} {base : Nat} {e : TypeId} {v : Value} {X : List Value} (h : OwnV w base e v X) :
    ∃ a cap, v = .slice a X.length cap ∧ X.length ≤ cap ∧ Vals w a X ∧ (a = none → X = [] ∧ cap = 0) := by
  rcases h.2 with ⟨rfl, hn⟩ | ⟨g, cap, cur, rfl, hbg, hg, hnc, hcm, hcs, htake⟩
  · obtain rfl : X = [] := List.eq_nil_of_length_eq_zero hn
    exact ⟨none, 0, rfl, Nat.le_refl _, .inl rfl, fun _ => ⟨rfl, rfl⟩⟩
  · refine ⟨some ⟨g, 0, none⟩, cap, rfl, hnc, .inr ⟨g, 0, rfl, fun j u hj => ?_⟩, fun h => by cases h⟩
    rw [Nat.zero_add, cell_of_row w g j cur e (0, 0) hg]
    rw [← htake, List.getElem?_take] at hj
    split at hj
    · simpa using hj
    · cases hj
theorem run_appV (T e y : TypeId) (z : Value) (ht : Try.prog.underlying T = some (.slice e)) (hi : (Try.prog.info? e).map (fun i => (i.zero, i.size, i.bytes)) = some (some z, 1, y)) (hy : y = 8 ∨ y = 24) (hz1 : z.cells.size = 1)
    (w : World) (base : Nat) (ty : TypeId) (v : Value) (L : List Value) (a : Option Addr) (M : List Value) (c : Nat) (hown : OwnV w base e v L) (hb : Vals w a M) (h1 : ∀ u ∈ M, u.oneCell' = true)
    (h : L.length + M.length ≤ 2000000000000) (hbase : base ≤ w.heap.size) :
    ∃ v' w', (Builtin.append_ #[T, T] ty #[v, .slice a M.length c]).run Try.prog w = .ok v' w' ∧ OwnV w' base e v' (L ++ M) ∧ w.grownBy w' v.ownBlock ∧ (v'.ownBlock = v.ownBlock ∨ v'.ownBlock = some w.heap.size) := by
  obtain ⟨i, hi, hz, hs, hby⟩ := info_parts hi
  cases a with
  | some ad =>
    have hnews : ∀ j u, M[j]? = some u → w.cell? (ad.add j) = some u := fun j u hj => by
      rcases hb with rfl | ⟨b, off, e, hc⟩
      · simp at hj
      · cases e
        rw [Addr.add_mid]
        exact hc j u hj
    obtain ⟨v', w', hr, h2, h3, h5⟩ := app_at (P := Try.prog) w base T ty e i z 1 y ht hi hz hs hby hz1 (by decide) v L.length L hown ad M.length c M (by omega) hnews h1 (by unfold maxLen; omega) (by rcases hy with rfl | rfl <;> omega) hbase
    refine ⟨v', w', hr, ?_, h3, h5⟩
    unfold OwnV
    rw [List.length_append]
    exact h2
  | none =>
    obtain rfl : M = [] := by
      rcases hb with rfl | ⟨b, off, e, _⟩
      · rfl
      · cases e
    rcases hown.2 with ⟨rfl, hn⟩ | ⟨g, cap, cur, rfl, hbg, hg, hnc, rest⟩
    · refine ⟨.slice none 0 0, w, ?_, by rw [List.append_nil]; exact hown, ⟨rfl, rfl, rfl, Nat.le_refl _, fun _ _ _ => rfl⟩, .inl rfl⟩
      simp [Builtin.append_, run_underlying ht, sizeOf, typeInfo, hi, Builtin.lenOf, Builtin.firstCells, loadCells, loadCellsFrom]
    · refine ⟨.slice (some ⟨g, 0, none⟩) L.length cap, w, ?_, by rw [List.append_nil]; exact hown, ⟨rfl, rfl, rfl, Nat.le_refl _, fun _ _ _ => rfl⟩, .inl rfl⟩
      simp [Builtin.append_, run_underlying ht, sizeOf, typeInfo, hi, Builtin.lenOf, Builtin.firstCells, hnc, storeCells]
theorem OwnV.form {w : World} {B : Nat} {e : TypeId} {v : Value} {X : List Value} (h : OwnV w B e v X) {i : Nat} (hi : i < X.length) : ∃ bb c, v = .slice (some ⟨bb, 0, none⟩) X.length c ∧ w.cell? ⟨bb, i, none⟩ = some X[i] := by
  rcases h.2 with ⟨_, hn⟩ | ⟨g, cap, cur, rfl, _, hg, _, _, _, ht⟩
  · omega
  · refine ⟨g, cap, rfl, ?_⟩
    rw [cell_of_row w g i cur e (0, 0) hg]
    have hj := List.getElem?_eq_getElem hi
    generalize X[i] = u at *
    rw [← ht, List.getElem?_take] at hj
    split at hj
    · simpa using hj
    · cases hj
theorem OwnV.lt {w : World} {base : Nat} {e : TypeId} {v : Value} {X : List Value} (h : OwnV w base e v X) {k : Nat} (hk : v.ownBlock = some k) : k < w.heap.size := by
  obtain ⟨_, c, q⟩ := h.ge k hk
  exact (Array.getElem?_eq_some_iff.1 q).1
theorem vals_one (w : World) (u : Value) (t : TypeId) : Vals (w.alloc (.cells #[u] t)) (some ⟨w.heap.size, 0, none⟩) [u] :=
  .inr ⟨w.heap.size, 0, rfl, fun j x hj => by
    have hl := (List.getElem?_eq_some_iff.1 hj).1
    obtain rfl : j = 0 := by simp at hl; omega
    simp at hj
    subst hj
    exact cell_new w [u] t 0 u rfl⟩
theorem run_pushV (T e : TypeId) (ht : Try.prog.underlying T = some (.slice e)) (hi : (Try.prog.info? e).map (fun i => (i.zero, i.size, i.bytes)) = some (some (.pointer none), 1, 8)) (hbs : ∀ (p : Option Addr) (W : World), (Instr.buildSlice T 1 #[(0, .pointer p)]).run Try.prog W = .ok (.slice (some ⟨W.heap.size, 0, none⟩) 1 1) (W.alloc (.cells #[.pointer p] e)))
    (w : World) (base : Nat) (v : Value) (L : List Value) (p : Option Addr) (hown : OwnV w base e v L) (h : L.length + 1 ≤ 2000000000000) (hbase : base ≤ w.heap.size) :
    ∃ sv w1 v' w', (Instr.buildSlice T 1 #[(0, .pointer p)]).run Try.prog w = .ok sv w1 ∧ (Builtin.append_ #[T, T] T #[v, sv]).run Try.prog w1 = .ok v' w' ∧ OwnV w' base e v' (L ++ [.pointer p]) ∧ Below w.heap.size w w1 ∧ w1.heap.size = w.heap.size + 1 ∧ w1.grownBy w' v.ownBlock ∧ (v'.ownBlock = v.ownBlock ∨ v'.ownBlock = some w1.heap.size) := by
  have b1 : Below w.heap.size w (w.alloc (.cells #[.pointer p] e)) := (Below.refl _ _).alloc (Nat.le_refl _) _
  obtain ⟨v', w', e2, o, g, q⟩ := run_appV T e 8 (.pointer none) ht hi (.inl rfl) rfl _ base T v L _ [.pointer p] 1 (hown.below b1) (vals_one w (.pointer p) e) (fun u hu => by rw [List.mem_singleton.1 hu]; rfl) (by simpa using h) (Nat.le_trans hbase b1.size)
  exact ⟨_, _, v', w', hbs p w, e2, o, b1, by simp, g, q⟩
end Go.Proofs.Ytpdepbakopdgpaa
namespace Go.Proofs.Ytpdepbakopdgpaa
open Go.RowKit Sq
set_option linter.unusedVariables false
set_option linter.unusedSimpArgs false
def ptrS : Option (Sx × List Elt) → Option Addr
  | none => none
  | some (s, _) => some ⟨s.sb, 0, none⟩
def ptrD : Option (Nat × Value × List Elt) → Option Addr
  | none => none
  | some (d, _, _) => some ⟨d, 0, none⟩
def pS (x : Option (Sx × List Elt)) : Value := .pointer (ptrS x)
def pD (x : Option (Nat × Value × List Elt)) : Value := .pointer (ptrD x)
structure PlB (base : Nat) (w0 : World) (tg : Nat → Nat) (w : World) (S : List (Option (Sx × List Elt))) (D : List (Option (Nat × Value × List Elt))) (sv mv : Value) : Prop where
  sq : ∀ i s E, S[i]? = some (some (s, E)) → SeqAt w s E ∧ ∀ j ∈ s.bl, tg j = 2 * i + 3 ∧ base ≤ j
  rf : ∀ i d v R, D[i]? = some (some (d, v, R)) → RefAt w base d v R ∧ tg d = 2 * i + 4 ∧ ∀ k, v.ownBlock = some k → tg k = 2 * i + 4
  so : OwnV w base 23 sv (S.map pS) ∧ ∀ k, sv.ownBlock = some k → tg k = 1
  mo : OwnV w base 26 mv (D.map pD) ∧ ∀ k, mv.ownBlock = some k → tg k = 2
  hb : base ≤ w.heap.size
  bel : Below base w0 w
theorem map_set_same {α β : Type} {f : α → β} {l : List α} {i : Nat} {a x : α} (h : l[i]? = some a) (e : f x = f a) : (l.set i x).map f = l.map f := by
  refine List.ext_getElem? (fun k => ?_)
  rw [List.getElem?_map, List.getElem?_map, List.getElem?_set]
  split
  · next q =>
    subst q
    rw [if_pos (List.getElem?_eq_some_iff.1 h).1, h]
    simp [e]
  · rfl
def tgN (tg : Nat → Nat) (n t j : Nat) : Nat := if j < n then tg j else t
theorem tgN_old {tg : Nat → Nat} {n t j : Nat} (h : j < n) : tgN tg n t j = tg j := if_pos h
theorem tgN_new {tg : Nat → Nat} {n t j : Nat} (h : n ≤ j) : tgN tg n t j = t := if_neg (by omega)
section
variable {base : Nat} {w0 : World} {tg : Nat → Nat} {w w' : World} {S : List (Option (Sx × List Elt))} {D : List (Option (Nat × Value × List Elt))} {sv mv : Value}
theorem PlB.sq' (h : PlB base w0 tg w S D sv mv) {O : Nat → Prop} (t : Tch O w w') {m : Nat} (hO : ∀ j, j < w.heap.size → O j → tg j = m) {i : Nat} {s : Sx} {E : List Elt} (hi : S[i]? = some (some (s, E))) (hm : 2 * i + 3 ≠ m) : SeqAt w' s E ∧ ∀ j ∈ s.bl, tgN tg w.heap.size m j = 2 * i + 3 ∧ base ≤ j := by
  obtain ⟨a, b⟩ := h.sq i s E hi
  refine ⟨a.keep (fun j hj => t.block j (a.lt j hj) (fun o => hm ?_)), fun j hj => ⟨by rw [tgN_old (a.lt j hj)]; exact (b j hj).1, (b j hj).2⟩⟩
  rw [← (b j hj).1]; exact hO j (a.lt j hj) o
theorem PlB.rf' (h : PlB base w0 tg w S D sv mv) {O : Nat → Prop} (t : Tch O w w') {m : Nat} (hO : ∀ j, j < w.heap.size → O j → tg j = m) {i : Nat} {d : Nat} {v : Value} {R : List Elt} (hi : D[i]? = some (some (d, v, R))) (hm : 2 * i + 4 ≠ m) : RefAt w' base d v R ∧ tgN tg w.heap.size m d = 2 * i + 4 ∧ ∀ k, v.ownBlock = some k → tgN tg w.heap.size m k = 2 * i + 4 := by
  obtain ⟨a, b, c⟩ := h.rf i d v R hi
  refine ⟨a.keep (t.block d a.lt (fun o => hm ?_)) (fun k hk => t.block k (a.own.lt hk) (fun o => hm ?_)), by rw [tgN_old a.lt]; exact b, fun k hk => by rw [tgN_old (a.own.lt hk)]; exact c k hk⟩
  · rw [← b]; exact hO d a.lt o
  · rw [← c k hk]; exact hO k (a.own.lt hk) o
theorem PlB.so' (h : PlB base w0 tg w S D sv mv) {O : Nat → Prop} (t : Tch O w w') {m : Nat} (hO : ∀ j, j < w.heap.size → O j → tg j = m) (hm : 1 ≠ m) : OwnV w' base 23 sv (S.map pS) ∧ ∀ k, sv.ownBlock = some k → tgN tg w.heap.size m k = 1 := by
  obtain ⟨a, b⟩ := h.so
  refine ⟨a.keep (fun k hk => t.block k (a.lt hk) (fun o => hm ?_)), fun k hk => by rw [tgN_old (a.lt hk)]; exact b k hk⟩
  rw [← b k hk]; exact hO k (a.lt hk) o
theorem PlB.mo' (h : PlB base w0 tg w S D sv mv) {O : Nat → Prop} (t : Tch O w w') {m : Nat} (hO : ∀ j, j < w.heap.size → O j → tg j = m) (hm : 2 ≠ m) : OwnV w' base 26 mv (D.map pD) ∧ ∀ k, mv.ownBlock = some k → tgN tg w.heap.size m k = 2 := by
  obtain ⟨a, b⟩ := h.mo
  refine ⟨a.keep (fun k hk => t.block k (a.lt hk) (fun o => hm ?_)), fun k hk => by rw [tgN_old (a.lt hk)]; exact b k hk⟩
  rw [← b k hk]; exact hO k (a.lt hk) o
theorem PlB.below (h : PlB base w0 tg w S D sv mv) (b : Below w.heap.size w w') : PlB base w0 (tgN tg w.heap.size 0) w' S D sv mv := by
  have t : Tch (fun _ => False) w w' := tch_below b _
  have hO : ∀ j, j < w.heap.size → False → tg j = 0 := fun _ _ q => q.elim
  exact ⟨fun i s E hi => h.sq' t hO hi (by omega), fun i d v R hi => h.rf' t hO hi (by omega), h.so' t hO (by omega), h.mo' t hO (by omega), Nat.le_trans h.hb b.size, h.bel.trans (b.mono h.hb)⟩
theorem PlB.seqN (h : PlB base w0 tg w S D sv mv) {i : Nat} {s s' : Sx} {E E' : List Elt} (hi : S[i]? = some (some (s, E))) (nx : Nxt s w s' E' w') : PlB base w0 (tgN tg w.heap.size (2 * i + 3)) w' (S.set i (some (s', E'))) D sv mv := by
  obtain ⟨a, b⟩ := h.sq i s E hi
  have hO : ∀ j, j < w.heap.size → j ∈ s.bl → tg j = 2 * i + 3 := fun j _ hj => (b j hj).1
  have hil := (List.getElem?_eq_some_iff.1 hi).1
  refine ⟨fun k s2 E2 hk => ?_, fun k d v R hk => h.rf' nx.tch hO hk (by omega), ?_, h.mo' nx.tch hO (by omega), Nat.le_trans h.hb nx.tch.size, h.bel.trans (nx.tch.below h.hb (fun j hj => (b j hj).2))⟩
  · rw [List.getElem?_set] at hk
    split at hk
    · next e =>
      subst e
      simp only [hil, if_true, Option.some.injEq, Prod.mk.injEq] at hk
      obtain ⟨rfl, rfl⟩ := hk
      refine ⟨nx.at', fun j hj => ?_⟩
      rcases nx.bl j hj with q | q
      · rw [tgN_old (a.lt j q)]; exact b j q
      · exact ⟨tgN_new q, Nat.le_trans h.hb q⟩
    · exact h.sq' nx.tch hO hk (by omega)
  · have := h.so' nx.tch hO (by omega)
    rw [map_set_same hi (show pS (some (s', E')) = pS (some (s, E)) by simp [pS, ptrS, nx.sb])]
    exact this
theorem PlB.refN (h : PlB base w0 tg w S D sv mv) {i d : Nat} {v v' : Value} {R R' : List Elt} (hi : D[i]? = some (some (d, v, R))) (nx : RNxt w base d v R' v' w') : PlB base w0 (tgN tg w.heap.size (2 * i + 4)) w' S (D.set i (some (d, v', R'))) sv mv := by
  obtain ⟨a, b, c⟩ := h.rf i d v R hi
  have hO : ∀ j, j < w.heap.size → (j = d ∨ v.ownBlock = some j) → tg j = 2 * i + 4 := fun j _ hj => by
    rcases hj with rfl | q
    · exact b
    · exact c j q
  have hil := (List.getElem?_eq_some_iff.1 hi).1
  refine ⟨fun k s E hk => h.sq' nx.tch hO hk (by omega), fun k d2 v2 R2 hk => ?_, h.so' nx.tch hO (by omega), ?_, Nat.le_trans h.hb nx.tch.size, h.bel.trans (nx.tch.below h.hb (fun j hj => by rcases hj with rfl | q; exact a.hd; exact (a.own.cells q).1))⟩
  · rw [List.getElem?_set] at hk
    split at hk
    · next e =>
      subst e
      simp only [hil, if_true, Option.some.injEq, Prod.mk.injEq] at hk
      obtain ⟨rfl, rfl, rfl⟩ := hk
      refine ⟨nx.at', by rw [tgN_old a.lt]; exact b, fun k hk => ?_⟩
      rcases nx.own k hk with q | q
      · rw [tgN_old (a.own.lt q)]; exact c k q
      · exact tgN_new q
    · exact h.rf' nx.tch hO hk (by omega)
  · have := h.mo' nx.tch hO (by omega)
    rw [map_set_same hi (show pD (some (d, v', R')) = pD (some (d, v, R)) by simp [pD, ptrD])]
    exact this
theorem bsS (p : Option Addr) (W : World) : (Instr.buildSlice 25 1 #[(0, .pointer p)]).run Try.prog W = .ok (.slice (some ⟨W.heap.size, 0, none⟩) 1 1) (W.alloc (.cells #[.pointer p] 23)) := by cases p <;> kernel_rfl
theorem bsD (p : Option Addr) (W : World) : (Instr.buildSlice 28 1 #[(0, .pointer p)]).run Try.prog W = .ok (.slice (some ⟨W.heap.size, 0, none⟩) 1 1) (W.alloc (.cells #[.pointer p] 26)) := by cases p <;> kernel_rfl
theorem PlB.pushS (h : PlB base w0 tg w S D sv mv) (b : Below w.heap.size w w') (x : Option (Sx × List Elt)) (hx : ∀ s E, x = some (s, E) → SeqAt w' s E ∧ ∀ j ∈ s.bl, w.heap.size ≤ j) (hl : S.length + 1 ≤ 2000000000000) :
    ∃ bv w1 sv' w2 tg', (Instr.buildSlice 25 1 #[(0, .pointer (ptrS x))]).run Try.prog w' = .ok bv w1 ∧ (Builtin.append_ #[25, 25] 25 #[sv, bv]).run Try.prog w1 = .ok sv' w2 ∧ PlB base w0 tg' w2 (S ++ [x]) D sv' mv ∧ Tch (fun j => sv.ownBlock = some j) w w2 ∧ ∀ j, j < w.heap.size → tg' j = tg j := by
  have t0 : Tch (fun _ => False) w w' := tch_below b _
  have hO0 : ∀ j, j < w.heap.size → False → tg j = 2 * S.length + 3 := fun _ _ q => q.elim
  have so1 := h.so' t0 hO0 (by omega)
  obtain ⟨bv, w1, sv', w2, e1, e2, o, b1, z1, g, q⟩ := run_pushV 25 23 Try.underlying25 (by kernel_rfl) bsS w' base sv _ (ptrS x) so1.1 (by rw [List.length_map]; exact hl) (Nat.le_trans h.hb b.size)
  have t2 : Tch (fun j => sv.ownBlock = some j) w' w2 := by
    have t1 : Tch (fun j => sv.ownBlock = some j) w' w1 := tch_below b1 _
    exact t1.trans ⟨g.os, g.tape, g.output, g.size, fun j hj hn => g.block j hj (fun e => hn e.symm)⟩
  have tt : Tch (fun j => sv.ownBlock = some j) w w2 := (tch_below b _).trans' t2 (fun j _ q => q)
  obtain ⟨tg1, htg1⟩ : ∃ t, tgN tg w.heap.size (2 * S.length + 3) = t := ⟨_, rfl⟩
  have P1 : PlB base w0 tg1 w' S D sv mv := by
    subst htg1
    exact ⟨fun i s E hi => h.sq' t0 hO0 hi (by have := (List.getElem?_eq_some_iff.1 hi).1; omega), fun i d v R hi => h.rf' t0 hO0 hi (by omega), so1, h.mo' t0 hO0 (by omega), Nat.le_trans h.hb b.size, h.bel.trans (b.mono h.hb)⟩
  have hO1 : ∀ j, j < w'.heap.size → sv.ownBlock = some j → tg1 j = 1 := fun j _ e => P1.so.2 j e
  have hnew : ∀ j, w.heap.size ≤ j → tg1 j = 2 * S.length + 3 := fun j hj => by rw [← htg1]; exact tgN_new hj
  refine ⟨bv, w1, sv', w2, tgN tg1 w'.heap.size 1, e1, e2, ⟨fun i s E hi => ?_, fun i d v R hi => P1.rf' t2 hO1 hi (by omega), ⟨?_, fun k hk => ?_⟩, P1.mo' t2 hO1 (by omega), Nat.le_trans P1.hb t2.size, P1.bel.trans (t2.below P1.hb (fun j hj => (P1.so.1.ge j hj).1))⟩, tt, fun j hj => by rw [tgN_old (Nat.lt_of_lt_of_le hj b.size), ← htg1, tgN_old hj]⟩
  · rw [List.getElem?_append] at hi
    split at hi
    · exact P1.sq' t2 hO1 hi (by omega)
    · next hge =>
      have hil := (List.getElem?_eq_some_iff.1 hi).1
      simp at hil
      obtain rfl : i = S.length := by omega
      simp at hi
      obtain ⟨a, bb⟩ := hx s E hi
      refine ⟨a.keep (fun j hj => t2.block j (a.lt j hj) (fun e => ?_)), fun j hj => ⟨?_, Nat.le_trans h.hb (bb j hj)⟩⟩
      · have h1 := h.so.1.lt e
        have := bb j hj
        omega
      · rw [tgN_old (a.lt j hj)]; exact hnew j (bb j hj)
  · rw [List.map_append]; exact o
  · rcases q with e | e
    · rw [e] at hk
      rw [tgN_old (so1.1.lt hk)]; exact P1.so.2 k hk
    · rw [e] at hk
      simp only [Option.some.injEq] at hk
      exact tgN_new (by have := b1.size; omega)
theorem PlB.pushD (h : PlB base w0 tg w S D sv mv) (b : Below w.heap.size w w') (x : Option (Nat × Value × List Elt)) (hx : ∀ d v R, x = some (d, v, R) → RefAt w' w.heap.size d v R) (hl : D.length + 1 ≤ 2000000000000) :
    ∃ bv w1 mv' w2 tg', (Instr.buildSlice 28 1 #[(0, .pointer (ptrD x))]).run Try.prog w' = .ok bv w1 ∧ (Builtin.append_ #[28, 28] 28 #[mv, bv]).run Try.prog w1 = .ok mv' w2 ∧ PlB base w0 tg' w2 S (D ++ [x]) sv mv' ∧ Tch (fun j => mv.ownBlock = some j) w w2 ∧ ∀ j, j < w.heap.size → tg' j = tg j := by
  have t0 : Tch (fun _ => False) w w' := tch_below b _
  have hO0 : ∀ j, j < w.heap.size → False → tg j = 2 * D.length + 4 := fun _ _ q => q.elim
  have mo1 := h.mo' t0 hO0 (by omega)
  obtain ⟨bv, w1, mv', w2, e1, e2, o, b1, z1, g, q⟩ := run_pushV 28 26 Try.underlying28 (by kernel_rfl) bsD w' base mv _ (ptrD x) mo1.1 (by rw [List.length_map]; exact hl) (Nat.le_trans h.hb b.size)
  have t2 : Tch (fun j => mv.ownBlock = some j) w' w2 := by
    have t1 : Tch (fun j => mv.ownBlock = some j) w' w1 := tch_below b1 _
    exact t1.trans ⟨g.os, g.tape, g.output, g.size, fun j hj hn => g.block j hj (fun e => hn e.symm)⟩
  have tt : Tch (fun j => mv.ownBlock = some j) w w2 := (tch_below b _).trans' t2 (fun j _ q => q)
  obtain ⟨tg1, htg1⟩ : ∃ t, tgN tg w.heap.size (2 * D.length + 4) = t := ⟨_, rfl⟩
  have P1 : PlB base w0 tg1 w' S D sv mv := by
    subst htg1
    exact ⟨fun i s E hi => h.sq' t0 hO0 hi (by omega), fun i d v R hi => h.rf' t0 hO0 hi (by have := (List.getElem?_eq_some_iff.1 hi).1; omega), h.so' t0 hO0 (by omega), mo1, Nat.le_trans h.hb b.size, h.bel.trans (b.mono h.hb)⟩
  have hO1 : ∀ j, j < w'.heap.size → mv.ownBlock = some j → tg1 j = 2 := fun j _ e => P1.mo.2 j e
  have hnew : ∀ j, w.heap.size ≤ j → tg1 j = 2 * D.length + 4 := fun j hj => by rw [← htg1]; exact tgN_new hj
  refine ⟨bv, w1, mv', w2, tgN tg1 w'.heap.size 2, e1, e2, ⟨fun i s E hi => P1.sq' t2 hO1 hi (by omega), fun i d v R hi => ?_, P1.so' t2 hO1 (by omega), ⟨?_, fun k hk => ?_⟩, Nat.le_trans P1.hb t2.size, P1.bel.trans (t2.below P1.hb (fun j hj => (P1.mo.1.ge j hj).1))⟩, tt, fun j hj => by rw [tgN_old (Nat.lt_of_lt_of_le hj b.size), ← htg1, tgN_old hj]⟩
  · rw [List.getElem?_append] at hi
    split at hi
    · exact P1.rf' t2 hO1 hi (by omega)
    · next hge =>
      have hil := (List.getElem?_eq_some_iff.1 hi).1
      simp at hil
      obtain rfl : i = D.length := by omega
      simp at hi
      have a := hx d v R hi
      have hn1 : ∀ j, w.heap.size ≤ j → mv.ownBlock ≠ some j := fun j hj e => by
        have h1 := h.mo.1.lt e
        omega
      have a2 : RefAt w2 base d v R := ⟨(t2.block d a.lt (hn1 d a.hd)).trans a.c0, (a.own.keep (fun k hk => t2.block k (a.own.lt hk) (hn1 k (a.own.cells hk).1))).mono h.hb, a.ok, Nat.le_trans h.hb a.hd, a.len⟩
      exact ⟨a2, by rw [tgN_old a.lt]; exact hnew d a.hd, fun k hk => by rw [tgN_old (a.own.lt hk)]; exact hnew k (a.own.cells hk).1⟩
  · rw [List.map_append]; exact o
  · rcases q with e | e
    · rw [e] at hk
      rw [tgN_old (mo1.1.lt hk)]; exact P1.mo.2 k hk
    · rw [e] at hk
      simp only [Option.some.injEq] at hk
      exact tgN_new (by have := b1.size; omega)
end
def Lnk (m : Nat) (x : Option (Sx × List Elt)) (y : Option (Nat × Value × List Elt)) : Prop := (x = none ∧ y = none) ∨ ∃ s E d v R, x = some (s, E) ∧ y = some (d, v, R) ∧ E = rowR R ∧ R.length ≤ m
structure PlC (base : Nat) (w0 : World) (m : Nat) (w : World) (S : List (Option (Sx × List Elt))) (D : List (Option (Nat × Value × List Elt))) (sv mv : Value) : Prop where
  pl : ∃ tg, PlB base w0 tg w S D sv mv
  len : D.length = S.length
  lk : ∀ (i : Nat) x y, S[i]? = some x → D[i]? = some y → Lnk m x y
  n : S.length ≤ m + 1
  n0 : 0 < S.length
section
variable {base m : Nat} {w0 w w' : World} {S : List (Option (Sx × List Elt))} {D : List (Option (Nat × Value × List Elt))} {sv mv : Value}
theorem Lnk.mono {m m' : Nat} {x : Option (Sx × List Elt)} {y : Option (Nat × Value × List Elt)} (h : Lnk m x y) (hm : m ≤ m') : Lnk m' x y := by
  rcases h with h | ⟨s, E, d, v, R, e1, e2, e3, e4⟩
  · exact .inl h
  · exact .inr ⟨s, E, d, v, R, e1, e2, e3, by omega⟩
theorem PlC.below (h : PlC base w0 m w S D sv mv) (b : Below w.heap.size w w') : PlC base w0 m w' S D sv mv := by
  obtain ⟨tg, hp⟩ := h.pl
  exact ⟨⟨_, hp.below b⟩, h.len, h.lk, h.n, h.n0⟩
theorem PlC.drew (h : PlC base w0 m w S D sv mv) : PlC base w0 m w.drew S D sv mv := h.below ((Below.refl _ _).drew)
theorem PlC.mono {m' : Nat} (h : PlC base w0 m w S D sv mv) (hm : m ≤ m') : PlC base w0 m' w S D sv mv := ⟨h.pl, h.len, fun i x y hx hy => (h.lk i x y hx hy).mono hm, by have := h.n; omega, h.n0⟩
theorem PlC.two (h : PlC base w0 m w S D sv mv) {i : Nat} (hi : i < S.length) : ∃ x y E R, S[i]? = some x ∧ D[i]? = some y ∧ Two w base (pS x) (pD y) E R ∧ (ptrS x).isNone = (ptrD y).isNone := by
  obtain ⟨tg, hp⟩ := h.pl
  have e1 := List.getElem?_eq_getElem hi
  have e2 := List.getElem?_eq_getElem (show i < D.length by rw [h.len]; exact hi)
  rcases h.lk i _ _ e1 e2 with ⟨q1, q2⟩ | ⟨s, E, d, v, R, q1, q2, q3, q4⟩
  · rw [q1] at e1; rw [q2] at e2
    exact ⟨none, none, [], [], e1, e2, ⟨.inl ⟨rfl, rfl⟩, .inl ⟨rfl, rfl⟩, rfl⟩, rfl⟩
  · rw [q1] at e1; rw [q2] at e2
    exact ⟨_, _, E, R, e1, e2, ⟨.inr ⟨s, rfl, (hp.sq i s E e1).1⟩, .inr ⟨d, v, rfl, (hp.rf i d v R e2).1⟩, q3⟩, rfl⟩
theorem PlC.cells (h : PlC base w0 m w S D sv mv) {i : Nat} (hi : i < S.length) {x : Option (Sx × List Elt)} {y : Option (Nat × Value × List Elt)} (hx : S[i]? = some x) (hy : D[i]? = some y) : ∃ ssb sc msb mc, sv = .slice (some ⟨ssb, 0, none⟩) S.length sc ∧ mv = .slice (some ⟨msb, 0, none⟩) S.length mc ∧ w.cell? ⟨ssb, i, none⟩ = some (pS x) ∧ w.cell? ⟨msb, i, none⟩ = some (pD y) := by
  obtain ⟨tg, hp⟩ := h.pl
  obtain ⟨b1, c1, e1, q1⟩ := hp.so.1.form (i := i) (by rw [List.length_map]; exact hi)
  obtain ⟨b2, c2, e2, q2⟩ := hp.mo.1.form (i := i) (by rw [List.length_map, h.len]; exact hi)
  rw [List.length_map] at e1 e2
  rw [h.len] at e2
  have g1 : (S.map pS)[i]? = some (pS x) := by rw [List.getElem?_map, hx]; rfl
  have g2 : (D.map pD)[i]? = some (pD y) := by rw [List.getElem?_map, hy]; rfl
  refine ⟨b1, c1, b2, c2, e1, e2, ?_, ?_⟩
  · rw [q1, ← g1, List.getElem?_eq_getElem]
  · rw [q2, ← g2, List.getElem?_eq_getElem]
end
structure PlO (base : Nat) (w0 : World) (m : Nat) (w : World) (S : List (Option (Sx × List Elt))) (D : List (Option (Nat × Value × List Elt))) (sv mv : Value) (bo : Nat) (o : OpV) : Prop where
  pl : ∃ tg, PlB base w0 tg w S D sv mv ∧ tg bo = 0
  box : OpBox w bo o
  len : D.length = S.length
  lk : ∀ (i : Nat) x y, S[i]? = some x → D[i]? = some y → Lnk m x y
  n : S.length ≤ m + 1
  n0 : 0 < S.length
section
variable {base m : Nat} {w0 w w' : World} {S : List (Option (Sx × List Elt))} {D : List (Option (Nat × Value × List Elt))} {sv mv : Value} {bo : Nat} {o : OpV}
theorem PlO.c (h : PlO base w0 m w S D sv mv bo o) : PlC base w0 m w S D sv mv := by
  obtain ⟨tg, hp, _⟩ := h.pl
  exact ⟨⟨tg, hp⟩, h.len, h.lk, h.n, h.n0⟩
theorem PlC.boxed (h : PlC base w0 m w S D sv mv) (hb : OpBox w' w.heap.size o) (b : Below w.heap.size w w') : PlO base w0 m w' S D sv mv w.heap.size o := by
  obtain ⟨tg, hp⟩ := h.pl
  exact ⟨⟨_, hp.below b, tgN_new (Nat.le_refl _)⟩, hb, h.len, h.lk, h.n, h.n0⟩
theorem PlO.below (h : PlO base w0 m w S D sv mv bo o) (b : Below w.heap.size w w') : PlO base w0 m w' S D sv mv bo o := by
  obtain ⟨tg, hp, h0⟩ := h.pl
  exact ⟨⟨_, hp.below b, by rw [tgN_old h.box.lt]; exact h0⟩, h.box.keep (b.block bo h.box.lt), h.len, h.lk, h.n, h.n0⟩
theorem PlO.drew (h : PlO base w0 m w S D sv mv bo o) : PlO base w0 m w.drew S D sv mv bo o := h.below ((Below.refl _ _).drew)
theorem PlO.mono {m' : Nat} (h : PlO base w0 m w S D sv mv bo o) (hm : m ≤ m') : PlO base w0 m' w S D sv mv bo o := ⟨h.pl, h.box, h.len, fun i x y hx hy => (h.lk i x y hx hy).mono hm, by have := h.n; omega, h.n0⟩
def SSf (ssb msb i : Nat) (p q : Option Addr) (bo : Nat) (o : OpV) (X : World) : Prop := X.cell? ⟨ssb, i, none⟩ = some (.pointer p) ∧ X.cell? ⟨msb, i, none⟩ = some (.pointer q) ∧ X.rangeAt bo 0 o.c
theorem PlO.both (h : PlO base w0 m w S D sv mv bo o) {i : Nat} (hi : i < S.length) {x : Option (Sx × List Elt)} {y : Option (Nat × Value × List Elt)} (hx : S[i]? = some x) (hy : D[i]? = some y) {ssb sc msb mc ns nm : Nat} (hsv : sv = .slice (some ⟨ssb, 0, none⟩) ns sc) (hmv : mv = .slice (some ⟨msb, 0, none⟩) nm mc) (hss : SSf ssb msb i (ptrS x) (ptrD y) bo o w)
    (fP fR : Nat) (mk : Value → Array Value) (cP : List Elt → Nat) (rP rR : List Elt → List Elt)
    (nP : ∀ W, Calls Try.prog fP (mk (.pointer none)) W fun e w' => e = .returned (.int .i64 1) ∧ Below W.heap.size W w')
    (nR : ∀ W, Calls Try.prog fR (mk (.pointer none)) W fun e w' => e = .returned (.int .i64 1) ∧ Below W.heap.size W w')
    (hP : ∀ W s E, SeqAt W s E → E.length ≤ m → Calls Try.prog fP (mk (.pointer (some ⟨s.sb, 0, none⟩))) W fun e w' => e = .returned (.int .i64 (cP E : Int)) ∧ ∃ s', Nxt s W s' (rP E) w')
    (hR : ∀ W d v R, RefAt W base d v R → R.length ≤ m → base ≤ W.heap.size → Calls Try.prog fR (mk (.pointer (some ⟨d, 0, none⟩))) W fun e w' => e = .returned (.int .i64 (cP R : Int)) ∧ ∃ v', RNxt W base d v (rR R) v' w')
    (hc : ∀ R, cP (rowR R) = cP R) (hr : ∀ R, rP (rowR R) = rowR (rR R)) (hl : ∀ R, (rR R).length ≤ R.length + 1) :
    ∃ c : Int, Calls Try.prog fP (mk (pS x)) w fun e w1 => e = .returned (.int .i64 c) ∧ SSf ssb msb i (ptrS x) (ptrD y) bo o w1 ∧ Calls Try.prog fR (mk (pD y)) w1 fun e2 w2 => e2 = .returned (.int .i64 c) ∧ SSf ssb msb i (ptrS x) (ptrD y) bo o w2 ∧ ∃ S' D', S'.length = S.length ∧ PlO base w0 (m + 1) w2 S' D' sv mv bo o := by
  obtain ⟨tg, hp, h0⟩ := h.pl
  have keep : ∀ {W W' : World}, SSf ssb msb i (ptrS x) (ptrD y) bo o W → W'.heap[ssb]? = W.heap[ssb]? → W'.heap[msb]? = W.heap[msb]? → W'.heap[bo]? = W.heap[bo]? → SSf ssb msb i (ptrS x) (ptrD y) bo o W' := fun hs a b c => ⟨(World.cell?_of_block (a := ⟨ssb, i, none⟩) a).trans hs.1, (World.cell?_of_block (a := ⟨msb, i, none⟩) b).trans hs.2.1, rangeAt_keep hs.2.2 c⟩
  have b1 : ssb < w.heap.size := hp.so.1.lt (k := ssb) (by rw [hsv]; rfl)
  have b2 : msb < w.heap.size := hp.mo.1.lt (k := msb) (by rw [hmv]; rfl)
  have g1 : tg ssb = 1 := hp.so.2 ssb (by rw [hsv]; rfl)
  have g2 : tg msb = 2 := hp.mo.2 msb (by rw [hmv]; rfl)
  rcases h.lk i x y hx hy with ⟨rfl, rfl⟩ | ⟨s, E, d, v, R, rfl, rfl, e3, e4⟩
  · refine ⟨1, (nP w).mono fun e w1 ⟨q1, q2⟩ => ⟨q1, keep hss (q2.block _ b1) (q2.block _ b2) (q2.block _ h.box.lt), (nR w1).mono fun e2 w2 ⟨r1, r2⟩ => ⟨r1, ?_, S, D, rfl, ((h.below q2).below r2).mono (by omega)⟩⟩⟩
    have s1 := q2.size
    exact keep (keep hss (q2.block _ b1) (q2.block _ b2) (q2.block _ h.box.lt)) (r2.block _ (by omega)) (r2.block _ (by omega)) (r2.block _ (by have := h.box.lt; omega))
  · obtain ⟨a, b⟩ := hp.sq i s E hx
    have hEl : E.length ≤ m := by rw [e3, row_len]; exact e4
    refine ⟨(cP E : Int), (hP w s E a hEl).mono fun e w1 ⟨q1, s', nx⟩ => ?_⟩
    have hp1 := hp.seqN hx nx
    have k1 : ∀ j, j < w.heap.size → tg j ≤ 2 → w1.heap[j]? = w.heap[j]? := fun j hj ht => nx.tch.block j hj (fun q => by have := (b j q).1; omega)
    have ss1 := keep hss (k1 _ b1 (by omega)) (k1 _ b2 (by omega)) (k1 _ h.box.lt (by omega))
    refine ⟨q1, ss1, ?_⟩
    have hRf := (hp1.rf i d v R hy).1
    have hcE : cP E = cP R := by rw [e3]; exact hc R
    rw [hcE]
    refine (hR w1 d v R hRf e4 hp1.hb).mono fun e2 w2 ⟨r1, v', rx⟩ => ?_
    have hp2 := hp1.refN hy rx
    have s1 := nx.tch.size
    have k2 : ∀ j, j < w.heap.size → tg j ≤ 2 → w2.heap[j]? = w1.heap[j]? := fun j hj ht => rx.tch.block j (by omega) (fun q => by
      have h1 := hp1.rf i d v R hy
      have : tgN tg w.heap.size (2 * i + 3) j = 2 * i + 4 := by
        rcases q with rfl | q
        · exact h1.2.1
        · exact h1.2.2 j q
      rw [tgN_old hj] at this
      omega)
    refine ⟨r1, keep ss1 (k2 _ b1 (by omega)) (k2 _ b2 (by omega)) (k2 _ h.box.lt (by omega)), _, _, by simp, ⟨_, hp2, by rw [tgN_old (by have := h.box.lt; omega), tgN_old h.box.lt]; exact h0⟩, (h.box.keep (k1 _ h.box.lt (by omega))).keep (k2 _ h.box.lt (by omega)), by simp [h.len], fun k x y hx2 hy2 => ?_, by simp; have := h.n; omega, by simp; exact h.n0⟩
    rw [List.getElem?_set] at hx2 hy2
    by_cases e : i = k
    · subst e
      rw [if_pos rfl, if_pos hi] at hx2
      rw [if_pos rfl, if_pos (by rw [h.len]; exact hi)] at hy2
      cases hx2; cases hy2
      exact .inr ⟨s', rP E, d, v', rR R, rfl, rfl, by rw [e3]; exact hr R, by have := hl R; omega⟩
    · rw [if_neg e] at hx2 hy2
      exact (h.lk k x y hx2 hy2).mono (by omega)
structure PlM (base : Nat) (w0 : World) (m : Nat) (w : World) (S : List (Option (Sx × List Elt))) (D : List (Option (Nat × Value × List Elt))) (sv mv : Value) (bo : Nat) (o : OpV) (i : Nat) (x : Option (Sx × List Elt)) : Prop where
  pl : ∃ tg, PlB base w0 tg w (S ++ [x]) D sv mv ∧ tg bo = 0
  box : OpBox w bo o
  len : D.length = S.length
  lk : ∀ (i : Nat) x y, S[i]? = some x → D[i]? = some y → Lnk m x y
  n : S.length ≤ m + 1
  n0 : 0 < S.length
  new : (S[i]? = some none ∧ x = none) ∨ ∃ s E s2, S[i]? = some (some (s, E)) ∧ x = some (s2, E)
theorem PlO.pushS (h : PlO base w0 m w S D sv mv bo o) {i : Nat} (b : Below w.heap.size w w') (x : Option (Sx × List Elt)) (hx : ∀ s E, x = some (s, E) → SeqAt w' s E ∧ ∀ j ∈ s.bl, w.heap.size ≤ j) (hl : m + 2 ≤ 1400000000000) (hn : (S[i]? = some none ∧ x = none) ∨ ∃ s E s2, S[i]? = some (some (s, E)) ∧ x = some (s2, E)) :
    ∃ bv w1 sv' w2, (Instr.buildSlice 25 1 #[(0, .pointer (ptrS x))]).run Try.prog w' = .ok bv w1 ∧ (Builtin.append_ #[25, 25] 25 #[sv, bv]).run Try.prog w1 = .ok sv' w2 ∧ PlM base w0 m w2 S D sv' mv bo o i x := by
  obtain ⟨tg, hp, h0⟩ := h.pl
  obtain ⟨bv, w1, sv', w2, tg', e1, e2, p2, t2, g2⟩ := hp.pushS b x hx (by have := h.n; omega)
  refine ⟨bv, w1, sv', w2, e1, e2, ⟨tg', p2, by rw [g2 bo h.box.lt]; exact h0⟩, h.box.keep (t2.block bo h.box.lt (fun e => ?_)), h.len, h.lk, h.n, h.n0, hn⟩
  have := hp.so.2 bo e
  omega
theorem PlO.forkS (h : PlO base w0 m w S D sv mv bo o) {i : Nat} (hi : i < S.length) {x : Option (Sx × List Elt)} (hx : S[i]? = some x) (hl : m + 2 ≤ 1400000000000) : Calls Try.prog 18 #[pS x] w fun e w' => ∃ pn, e = .returned (.pointer pn) ∧ ∃ bv w1 sv' w2, (Instr.buildSlice 25 1 #[(0, .pointer pn)]).run Try.prog w' = .ok bv w1 ∧ (Builtin.append_ #[25, 25] 25 #[sv, bv]).run Try.prog w1 = .ok sv' w2 ∧ ∃ x', PlM base w0 m w2 S D sv' mv bo o i x' := by
  obtain ⟨tg, hp, h0⟩ := h.pl
  cases x with
  | none =>
    refine (pnil_fork w).mono ?_
    rintro e w' ⟨rfl, b⟩
    obtain ⟨bv, w1, sv', w2, e1, e2, p⟩ := h.pushS (i := i) b none (fun s E e => by cases e) hl (.inl ⟨hx, rfl⟩)
    exact ⟨none, rfl, bv, w1, sv', w2, e1, e2, _, p⟩
  | some q =>
    obtain ⟨s, E⟩ := q
    refine (fork_any (hp.sq i s E hx).1).mono ?_
    rintro e w' ⟨s2, rfl, h2, hb, b⟩
    obtain ⟨bv, w1, sv', w2, e1, e2, p⟩ := h.pushS (i := i) b (some (s2, E)) (fun s E e => by cases e; exact ⟨h2, hb⟩) hl (.inr ⟨s, E, s2, hx, rfl⟩)
    exact ⟨_, rfl, bv, w1, sv', w2, e1, e2, _, p⟩
theorem PlM.done {x : Option (Sx × List Elt)} {i : Nat} (h : PlM base w0 m w S D sv mv bo o i x) (b : Below w.heap.size w w') (y : Option (Nat × Value × List Elt)) (hy : ∀ d v R, y = some (d, v, R) → RefAt w' w.heap.size d v R) (hl : m + 2 ≤ 1400000000000) (hn : Lnk m x y) :
    ∃ bv w1 mv' w2, (Instr.buildSlice 28 1 #[(0, .pointer (ptrD y))]).run Try.prog w' = .ok bv w1 ∧ (Builtin.append_ #[28, 28] 28 #[mv, bv]).run Try.prog w1 = .ok mv' w2 ∧ PlO base w0 (m + 1) w2 (S ++ [x]) (D ++ [y]) sv mv' bo o := by
  obtain ⟨tg, hp, h0⟩ := h.pl
  obtain ⟨bv, w1, mv', w2, tg', e1, e2, p2, t2, g2⟩ := hp.pushD b y hy (by rw [h.len]; have := h.n; omega)
  refine ⟨bv, w1, mv', w2, e1, e2, ⟨tg', p2, by rw [g2 bo h.box.lt]; exact h0⟩, h.box.keep (t2.block bo h.box.lt (fun e => ?_)), by simp [h.len], fun k x2 y2 hx2 hy2 => ?_, by simp; have := h.n; omega, by simp⟩
  · have := hp.mo.2 bo e
    omega
  · by_cases e : k < S.length
    · rw [List.getElem?_append_left e] at hx2
      rw [List.getElem?_append_left (by rw [h.len]; exact e)] at hy2
      exact (h.lk k x2 y2 hx2 hy2).mono (by omega)
    · have hk := (List.getElem?_eq_some_iff.1 hx2).1
      simp at hk
      obtain rfl : k = S.length := by omega
      rw [List.getElem?_append_right (Nat.le_refl _)] at hx2
      rw [List.getElem?_append_right (by rw [h.len]; exact Nat.le_refl _)] at hy2
      simp [h.len] at hx2 hy2
      subst hx2 hy2
      exact hn.mono (by omega)
theorem PlM.cell {x : Option (Sx × List Elt)} {i : Nat} (h : PlM base w0 m w S D sv mv bo o i x) (hi : i < S.length) : ∃ y msb mc, D[i]? = some y ∧ mv = .slice (some ⟨msb, 0, none⟩) S.length mc ∧ w.cell? ⟨msb, i, none⟩ = some (pD y) := by
  obtain ⟨tg, hp, h0⟩ := h.pl
  have hd : i < D.length := by rw [h.len]; exact hi
  obtain ⟨b2, c2, e2, q2⟩ := hp.mo.1.form (i := i) (by rw [List.length_map]; exact hd)
  rw [List.length_map, h.len] at e2
  exact ⟨D[i], b2, c2, List.getElem?_eq_getElem hd, e2, by rw [q2]; simp⟩
theorem PlM.forkD {x : Option (Sx × List Elt)} {i : Nat} (h : PlM base w0 m w S D sv mv bo o i x) (hi : i < S.length) {y : Option (Nat × Value × List Elt)} (hy : D[i]? = some y) (hl : m + 2 ≤ 1400000000000) : Calls Try.prog 19 #[pD y] w fun e w' => ∃ pn, e = .returned (.pointer pn) ∧ ∃ bv w1 mv' w2, (Instr.buildSlice 28 1 #[(0, .pointer pn)]).run Try.prog w' = .ok bv w1 ∧ (Builtin.append_ #[28, 28] 28 #[mv, bv]).run Try.prog w1 = .ok mv' w2 ∧ ∃ S' D', S'.length = S.length + 1 ∧ PlO base w0 (m + 1) w2 S' D' sv mv' bo o := by
  obtain ⟨tg, hp, h0⟩ := h.pl
  have hS : ∃ u, S[i]? = some u := ⟨_, List.getElem?_eq_getElem hi⟩
  obtain ⟨u, hu⟩ := hS
  have hlk := h.lk i u y hu hy
  cases y with
  | none =>
    refine (rnil_fork w).mono ?_
    rintro e w' ⟨rfl, b⟩
    have hx : x = none := by
      rcases h.new with ⟨_, q⟩ | ⟨s, E, s2, q1, q2⟩
      · exact q
      · rw [hu] at q1
        cases q1
        rcases hlk with ⟨r, _⟩ | ⟨_, _, _, _, _, _, r, _⟩
        · cases r
        · cases r
    obtain ⟨bv, w1, mv', w2, e1, e2, p⟩ := h.done b none (fun d v R e => by cases e) hl (.inl ⟨hx, rfl⟩)
    exact ⟨none, rfl, bv, w1, mv', w2, e1, e2, _, _, by simp, p⟩
  | some q =>
    obtain ⟨d, v, R⟩ := q
    refine (fork_at (hp.rf i d v R hy).1).mono ?_
    rintro e w' ⟨f, v', rfl, h2, b⟩
    have hx : Lnk m x (some (f, v', R)) := by
      rcases hlk with ⟨_, r⟩ | ⟨s0, E0, d0, v0, R0, r1, r2, r3, r4⟩
      · cases r
      · cases r2
        rcases h.new with ⟨q, _⟩ | ⟨s, E, s2, q1, q2⟩
        · rw [hu, r1] at q; cases q
        · rw [hu, r1] at q1
          cases q1
          exact .inr ⟨s2, E0, f, v', R, q2, rfl, r3, r4⟩
    obtain ⟨bv, w1, mv', w2, e1, e2, p⟩ := h.done b (some (f, v', R)) (fun d v R e => by cases e; exact h2) hl hx
    exact ⟨_, rfl, bv, w1, mv', w2, e1, e2, _, _, by simp, p⟩
theorem PlO.pushNil (h : PlO base w0 m w S D sv mv bo o) (hl : m + 2 ≤ 1400000000000) : ∃ bv w1 sv' w2, (Instr.buildSlice 25 1 #[(0, .pointer none)]).run Try.prog w = .ok bv w1 ∧ (Builtin.append_ #[25, 25] 25 #[sv, bv]).run Try.prog w1 = .ok sv' w2 ∧ ((∃ tg, PlB base w0 tg w2 (S ++ [none]) D sv' mv ∧ tg bo = 0) ∧ OpBox w2 bo o ∧ D.length = S.length ∧ (∀ (i : Nat) x y, S[i]? = some x → D[i]? = some y → Lnk m x y) ∧ S.length ≤ m + 1) := by
  obtain ⟨tg, hp, h0⟩ := h.pl
  obtain ⟨bv, w1, sv', w2, tg', e1, e2, p2, t2, g2⟩ := hp.pushS (Below.refl _ _) none (fun s E e => by cases e) (by have := h.n; omega)
  refine ⟨bv, w1, sv', w2, e1, e2, ⟨tg', p2, by rw [g2 bo h.box.lt]; exact h0⟩, h.box.keep (t2.block bo h.box.lt (fun e => ?_)), h.len, h.lk, h.n⟩
  have := hp.so.2 bo e
  omega
theorem doneNil (h : (∃ tg, PlB base w0 tg w (S ++ [none]) D sv mv ∧ tg bo = 0) ∧ OpBox w bo o ∧ D.length = S.length ∧ (∀ (i : Nat) x y, S[i]? = some x → D[i]? = some y → Lnk m x y) ∧ S.length ≤ m + 1) (hl : m + 2 ≤ 1400000000000) : ∃ bv w1 mv' w2, (Instr.buildSlice 28 1 #[(0, .pointer none)]).run Try.prog w = .ok bv w1 ∧ (Builtin.append_ #[28, 28] 28 #[mv, bv]).run Try.prog w1 = .ok mv' w2 ∧ ∃ S2 D2, PlO base w0 (m + 1) w2 S2 D2 sv mv' bo o := by
  obtain ⟨⟨tg, hp, h0⟩, hbox, hlen, hlk, hn⟩ := h
  obtain ⟨bv, w1, mv', w2, tg', e1, e2, p2, t2, g2⟩ := hp.pushD (Below.refl _ _) none (fun d v R e => by cases e) (by rw [hlen]; omega)
  refine ⟨bv, w1, mv', w2, e1, e2, S ++ [none], D ++ [none], ⟨tg', p2, by rw [g2 bo hbox.lt]; exact h0⟩, hbox.keep (t2.block bo hbox.lt (fun e => ?_)), by simp [hlen], fun k x2 y2 hx2 hy2 => ?_, by simp; omega, by simp⟩
  · have := hp.mo.2 bo e
    omega
  · by_cases e : k < S.length
    · rw [List.getElem?_append_left e] at hx2
      rw [List.getElem?_append_left (by rw [hlen]; exact e)] at hy2
      exact (hlk k x2 y2 hx2 hy2).mono (by omega)
    · have hk := (List.getElem?_eq_some_iff.1 hx2).1
      simp at hk
      obtain rfl : k = S.length := by omega
      rw [List.getElem?_append_right (Nat.le_refl _)] at hx2
      rw [List.getElem?_append_right (by rw [hlen]; exact Nat.le_refl _)] at hy2
      simp [hlen] at hx2 hy2
      subst hx2 hy2
      exact .inl ⟨rfl, rfl⟩
end
theorem ix_sp {b m c i : Nat} (hi : i < m) (hm : m ≤ 1400000000001) (W : World) : (Instr.indexAt 25 (.slice (some ⟨b, 0, none⟩) m c) (.int .i64 (i : Int))).run Try.prog W = .ok (.pointer (some ⟨b, i, none⟩)) W := by
  have h2 : m ≤ 9223372036854775807 := by omega
  go_simp
theorem len_sp (a : Option Addr) (n c : Nat) (W : World) (ty : TypeId) : (Builtin.len_ #[25] ty #[.slice a n c]).run Try.prog W = .ok (.int .i64 (n : Int)) W := by go_simp
theorem ix_mp {b m c i : Nat} (hi : i < m) (hm : m ≤ 1400000000001) (W : World) : (Instr.indexAt 28 (.slice (some ⟨b, 0, none⟩) m c) (.int .i64 (i : Int))).run Try.prog W = .ok (.pointer (some ⟨b, i, none⟩)) W := by
  have h2 : m ≤ 9223372036854775807 := by omega
  go_simp
theorem ld_sp {w : World} {b i : Nat} {p : Option Addr} (h : w.cell? ⟨b, i, none⟩ = some (.pointer p)) : (Instr.loadAt 23 (.pointer (some ⟨b, i, none⟩))).run Try.prog w = .ok (.pointer p) w := by go_simp
theorem ex_nils {w : World} {a : Act} {o : Oper} {x y : Operand} {p : Option Addr} (ho : o.op = .binOp .eql 23 x y 23) (hx : a.eval x = .pointer p) (hy : a.eval y = .pointer none) : (execOp a.eval o).run Try.prog w = .ok (.value (.bool p.isNone)) w := by
  refine exec_binOp ho hx hy ?_ ?_
  · cases p <;> kernel_rfl
  · cases p <;> go_simp
theorem ld_mp {w : World} {b i : Nat} {p : Option Addr} (h : w.cell? ⟨b, i, none⟩ = some (.pointer p)) : (Instr.loadAt 26 (.pointer (some ⟨b, i, none⟩))).run Try.prog w = .ok (.pointer p) w := by go_simp
theorem ex_nilm {w : World} {a : Act} {o : Oper} {x y : Operand} {p : Option Addr} (ho : o.op = .binOp .eql 26 x y 26) (hx : a.eval x = .pointer p) (hy : a.eval y = .pointer none) : (execOp a.eval o).run Try.prog w = .ok (.value (.bool p.isNone)) w := by
  refine exec_binOp ho hx hy ?_ ?_
  · cases p <;> kernel_rfl
  · cases p <;> go_simp
theorem ex_neqB {w : World} {a : Act} {o : Oper} {x y : Operand} {g : Bool} (ho : o.op = .binOp .neq 4 x y 4) (hx : a.eval x = .bool g) (hy : a.eval y = .bool g) : (execOp a.eval o).run Try.prog w = .ok (.value (.bool false)) w := by
  refine exec_binOp ho hx hy ?_ ?_
  · kernel_rfl
  · cases g <;> go_simp
theorem ix_sp0 {b m c : Nat} (hi : 0 < m) (hm : m ≤ 1400000000001) (W : World) : (Instr.indexAt 25 (.slice (some ⟨b, 0, none⟩) m c) (.int .i64 0)).run Try.prog W = .ok (.pointer (some ⟨b, 0, none⟩)) W := ix_sp (i := 0) hi hm W
def ply1_o0 : Oper := ⟨some 11, .call { callee := Callee.value (Operand.func 9), args := #[], argTypes := #[] }, 23, "law.go:47", #[], none⟩
def ply1_o1 : Oper := ⟨some 12, .buildSlice 25 1 #[(0, .tmp 11)], 25, "law.go:47", #[⟨0, .data⟩], none⟩
def ply1_o2 : Oper := ⟨some 3, .assign (.tmp 12), 25, "law.go:47", #[⟨1, .data⟩, ⟨0, .chain⟩, ⟨0, .phase⟩, ⟨1, .phase⟩], none⟩
def ply1_ops : Array Oper := #[ply1_o0, ply1_o1, ply1_o2]
theorem ply1 (Fin : Option Addr → Value → World → Prop) (a : Act) (w : World) (Q : Exit → Act → World → Prop) (zz : a.tmps.size = 176)
    (CN : Calls Try.prog 9 #[] w fun e w' => ∃ p, e = .returned (.pointer p) ∧ ∃ sv w1, (Instr.buildSlice 25 1 #[(0, .pointer p)]).run Try.prog w' = .ok sv w1 ∧ Fin p sv w1)
    (h : ∀ (p : Option Addr) (sv : Value) (a' : Act) (w' : World), Fin p sv w' → a' = (((a).put (some 11) (.pointer p)).put (some 12) (sv)).put (some 3) (sv) → Q .normal a' w') :
    (Code.region 1 ply1_ops false).wp Try.prog Q a w := by
  refine z0 rfl ?_
  refine zc rfl (exec_c0 rfl) (CN) (fun e x0 hx => ?_)
  obtain ⟨p, rfl, sv, w1, E1, HF⟩ := hx
  replace h := h p sv
  refine ⟨_, rfl, ?_⟩
  refine zv (v := sv) rfl (exec_buildSlice rfl (zg zz rfl) E1) ?_
  refine zv rfl (exec_assign rfl (zg zz rfl)) ?_
  exact ze rfl (h _ _ (HF) rfl)
def ply2_o0 : Oper := ⟨some 13, .call { callee := Callee.value (Operand.func 10), args := #[], argTypes := #[] }, 26, "law.go:48", #[], none⟩
def ply2_o1 : Oper := ⟨some 14, .buildSlice 28 1 #[(0, .tmp 13)], 28, "law.go:48", #[⟨0, .data⟩], none⟩
def ply2_o2 : Oper := ⟨some 4, .assign (.tmp 14), 28, "law.go:48", #[⟨1, .data⟩, ⟨0, .chain⟩, ⟨0, .phase⟩, ⟨1, .phase⟩], none⟩
def ply2_ops : Array Oper := #[ply2_o0, ply2_o1, ply2_o2]
theorem ply2 (Fin : Option Addr → Value → World → Prop) (a : Act) (w : World) (Q : Exit → Act → World → Prop) (zz : a.tmps.size = 176)
    (CN : Calls Try.prog 10 #[] w fun e w' => ∃ p, e = .returned (.pointer p) ∧ ∃ sv w1, (Instr.buildSlice 28 1 #[(0, .pointer p)]).run Try.prog w' = .ok sv w1 ∧ Fin p sv w1)
    (h : ∀ (p : Option Addr) (sv : Value) (a' : Act) (w' : World), Fin p sv w' → a' = (((a).put (some 13) (.pointer p)).put (some 14) (sv)).put (some 4) (sv) → Q .normal a' w') :
    (Code.region 2 ply2_ops false).wp Try.prog Q a w := by
  refine z0 rfl ?_
  refine zc rfl (exec_c0 rfl) (CN) (fun e x0 hx => ?_)
  obtain ⟨p, rfl, sv, w1, E1, HF⟩ := hx
  replace h := h p sv
  refine ⟨_, rfl, ?_⟩
  refine zv (v := sv) rfl (exec_buildSlice rfl (zg zz rfl) E1) ?_
  refine zv rfl (exec_assign rfl (zg zz rfl)) ?_
  exact ze rfl (h _ _ (HF) rfl)
def ply3_o0 : Oper := ⟨some 15, .move (.tmp 3), 25, "law.go:49", #[], none⟩
def ply3_o1 : Oper := ⟨some 16, .indexAddr 25 (.tmp 15) (Operand.const (Value.int IntKind.i64 0)), 0, "law.go:49", #[⟨0, .data⟩], none⟩
def ply3_o2 : Oper := ⟨some 17, .load 23 (.tmp 16), 23, "law.go:49", #[⟨1, .data⟩], none⟩
def ply3_o3 : Oper := ⟨some 18, .binOp BinOp.eql 23 (.tmp 17) (Operand.const (Value.pointer none)) 23, 4, "law.go:49", #[⟨2, .data⟩], none⟩
def ply3_ops : Array Oper := #[ply3_o0, ply3_o1, ply3_o2, ply3_o3]
theorem ply3 {ssb m sc : Nat} {pa : Addr} (a : Act) (w : World) (Q : Exit → Act → World → Prop) (zz : a.tmps.size = 176)
    (t3 : a.tmps.getD 3 undef = .slice (some ⟨ssb, 0, none⟩) m sc)
    (hi : 0 < m) (hm : m ≤ 1400000000001) (h0 : w.cell? ⟨ssb, 0, none⟩ = some (.pointer (some pa)))
    (h : ∀ (a' : Act) (w' : World), w' = w → a' = ((((a).put (some 15) (.slice (some ⟨ssb, 0, none⟩) m sc)).put (some 16) (.pointer (some ⟨ssb, 0, none⟩))).put (some 17) (.pointer (some pa))).put (some 18) (.bool false) → Q .normal a' w') :
    (Code.region 3 ply3_ops false).wp Try.prog Q a w := by
  refine z0 rfl ?_
  refine zv rfl (exec_move rfl (zi t3 rfl)) ?_
  refine zv rfl (exec_indexAt rfl (zg zz rfl) rfl (ix_sp0 hi hm _)) ?_
  refine zv rfl (exec_load rfl (zg zz rfl) (ld_sp h0)) ?_
  refine zv (v := .bool false) rfl (ex_nils (p := some pa) rfl (zg zz rfl) rfl) ?_
  exact ze rfl (h _ _ (rfl) rfl)
def ply7_o0 : Oper := ⟨some 23, .indexAddr 22 (.tmp 19) (.tmp 21), 0, "law.go:52", #[], none⟩
def ply7_o1 : Oper := ⟨some 24, .load 34 (.tmp 23), 34, "law.go:52", #[⟨0, .data⟩], none⟩
def ply7_o2 : Oper := ⟨some 6, .alloc 34, 0, "law.go:52", #[], none⟩
def ply7_o3 : Oper := ⟨none, .store 34 (.tmp 6) (.tmp 24), 0, "law.go:52", #[⟨2, .data⟩, ⟨1, .data⟩, ⟨0, .phase⟩, ⟨1, .phase⟩, ⟨2, .phase⟩], none⟩
def ply7_ops : Array Oper := #[ply7_o0, ply7_o1, ply7_o2, ply7_o3]
theorem ply7 {pb po m pc i : Nat} {o : OpV} {w2 : World} (a : Act) (w : World) (Q : Exit → Act → World → Prop) (zz : a.tmps.size = 176)
    (t19 : a.tmps.getD 19 undef = .slice (some ⟨pb, po, none⟩) m pc)
    (t21 : a.tmps.getD 21 undef = .int .i64 (i : Int))
    (ho : o.ok) (hi : i < m) (hm : m ≤ 1400000000000) (h0 : w.rangeAt pb (po + 70 * i) o.c) (E1 : (Instr.storeAt 34 (.pointer (some ⟨w.heap.size, 0, none⟩)) (.agg o.c.toArray)).run Try.prog (w.alloc (.cells zOp.c.toArray 34)) = .ok () w2)
    (h : ∀ (a' : Act) (w' : World), w' = w2 → a' = (((a).put (some 23) (.pointer (some ⟨pb, po + 70 * i, none⟩))).put (some 24) (.agg o.c.toArray)).put (some 6) (.pointer (some ⟨w.heap.size, 0, none⟩)) → Q .normal a' w') :
    (Code.region 7 ply7_ops false).wp Try.prog Q a w := by
  refine z0 rfl ?_
  refine zv rfl (exec_indexAt rfl (zi t19 rfl) (zi t21 rfl) (ix_op hi hm _)) ?_
  refine zv rfl (exec_load rfl (zg zz rfl) (ld_op ho h0)) ?_
  refine zv (v := .pointer (some ⟨w.heap.size, 0, none⟩)) rfl (exec_alloc rfl (op_zero _)) ?_
  refine zs rfl (exec_store rfl (zg zz rfl) (zg zz rfl) E1) ?_
  exact ze rfl (h _ _ (rfl) rfl)
def ply8_o0 : Oper := ⟨some 25, .fieldAddr 34 (.tmp 6) 1, 0, "law.go:53", #[], none⟩
def ply8_o1 : Oper := ⟨some 26, .load 3 (.tmp 25), 3, "law.go:53", #[⟨0, .data⟩], none⟩
def ply8_o2 : Oper := ⟨some 27, .move (.tmp 3), 25, "law.go:53", #[], none⟩
def ply8_o3 : Oper := ⟨some 28, .call { callee := Callee.builtin Builtin.len, args := #[.tmp 27], argTypes := #[25] }, 3, "law.go:53", #[⟨2, .data⟩], none⟩
def ply8_o4 : Oper := ⟨some 29, .call { callee := Callee.value (Operand.func 11), args := #[.tmp 26, .tmp 28], argTypes := #[3, 3] }, 3, "law.go:53", #[⟨1, .data⟩, ⟨3, .data⟩], none⟩
def ply8_o5 : Oper := ⟨some 7, .assign (.tmp 29), 3, "law.go:53", #[⟨4, .data⟩, ⟨4, .chain⟩, ⟨0, .phase⟩, ⟨1, .phase⟩, ⟨2, .phase⟩, ⟨3, .phase⟩, ⟨4, .phase⟩], none⟩
def ply8_ops : Array Oper := #[ply8_o0, ply8_o1, ply8_o2, ply8_o3, ply8_o4, ply8_o5]
theorem ply8 {bo m sc : Nat} {sa : Option Addr} {o : OpV} (Fin : Nat → World → Prop) (a : Act) (w : World) (Q : Exit → Act → World → Prop) (zz : a.tmps.size = 176)
    (t6 : a.tmps.getD 6 undef = .pointer (some ⟨bo, 0, none⟩))
    (t3 : a.tmps.getD 3 undef = .slice sa m sc)
    (h0 : w.rangeAt bo 0 o.c) (CW : Calls Try.prog 11 #[.int .i64 o.which, .int .i64 (m : Int)] w fun e w' => ∃ i : Nat, e = .returned (.int .i64 (i : Int)) ∧ Fin i w')
    (h : ∀ (i : Nat) (a' : Act) (w' : World), Fin i w' → a' = ((((((a).put (some 25) (.pointer (some ⟨bo, 0 + 1, none⟩))).put (some 26) (.int .i64 o.which)).put (some 27) (.slice sa m sc)).put (some 28) (.int .i64 (m : Int))).put (some 29) (.int .i64 (i : Int))).put (some 7) (.int .i64 (i : Int)) → Q .normal a' w') :
    (Code.region 8 ply8_ops false).wp Try.prog Q a w := by
  refine z0 rfl ?_
  refine zv rfl (exec_fieldAt rfl (zi t6 rfl) (fg_34_1 _ _ _)) ?_
  refine zv rfl (exec_load rfl (zg zz rfl) (op_which h0)) ?_
  refine zv rfl (exec_move rfl (zi t3 rfl)) ?_
  refine zv rfl (exec_len rfl (zg zz rfl) (len_sp _ _ _ _ _)) ?_
  refine zc rfl (exec_c2 rfl (zg zz rfl) (zg zz rfl)) (CW) (fun e x4 hx => ?_)
  obtain ⟨i, rfl, HF⟩ := hx
  replace h := h i
  refine ⟨_, rfl, ?_⟩
  refine zv rfl (exec_assign rfl (zg zz rfl)) ?_
  exact ze rfl (h _ _ (HF) rfl)
def ply10_o0 : Oper := ⟨some 30, .fieldAddr 34 (.tmp 6) 0, 0, "law.go:55", #[], none⟩
def ply10_o1 : Oper := ⟨some 31, .load 3 (.tmp 30), 3, "law.go:55", #[⟨0, .data⟩], none⟩
def ply10_ops : Array Oper := #[ply10_o0, ply10_o1]
theorem ply10 {bo : Nat} {o : OpV} (a : Act) (w : World) (Q : Exit → Act → World → Prop) (zz : a.tmps.size = 176)
    (t6 : a.tmps.getD 6 undef = .pointer (some ⟨bo, 0, none⟩))
    (h0 : w.rangeAt bo 0 o.c)
    (h : ∀ (a' : Act) (w' : World), w' = w → a' = ((a).put (some 30) (.pointer (some ⟨bo, 0 + 0, none⟩))).put (some 31) (.int .i64 o.kind) → Q .normal a' w') :
    (Code.region 10 ply10_ops false).wp Try.prog Q a w := by
  refine z0 rfl ?_
  refine zv rfl (exec_fieldAt rfl (zi t6 rfl) (fg_34_0 _ _ _)) ?_
  refine zv rfl (exec_load rfl (zg zz rfl) (op_kind h0)) ?_
  exact ze rfl (h _ _ (rfl) rfl)
def ply13_o0 : Oper := ⟨some 47, .move (.tmp 3), 25, "law.go:57", #[], none⟩
def ply13_o1 : Oper := ⟨some 48, .move (.tmp 7), 3, "law.go:57", #[], none⟩
def ply13_o2 : Oper := ⟨some 49, .indexAddr 25 (.tmp 47) (.tmp 48), 0, "law.go:57", #[⟨0, .data⟩, ⟨1, .data⟩], none⟩
def ply13_o3 : Oper := ⟨some 50, .load 23 (.tmp 49), 23, "law.go:57", #[⟨2, .data⟩], none⟩
def ply13_o4 : Oper := ⟨some 51, .fieldAddr 34 (.tmp 6) 2, 0, "law.go:57", #[], none⟩
def ply13_o5 : Oper := ⟨some 52, .load 32 (.tmp 51), 32, "law.go:57", #[⟨4, .data⟩], none⟩
def ply13_o6 : Oper := ⟨some 53, .fieldAddr 34 (.tmp 6) 3, 0, "law.go:57", #[], none⟩
def ply13_o7 : Oper := ⟨some 54, .load 32 (.tmp 53), 32, "law.go:57", #[⟨6, .data⟩], none⟩
def ply13_o8 : Oper := ⟨some 55, .call { callee := Callee.value (Operand.func 12), args := #[.tmp 50, .tmp 52, .tmp 54], argTypes := #[23, 32, 32] }, 36, "law.go:57", #[⟨3, .data⟩, ⟨5, .data⟩, ⟨7, .data⟩], none⟩
def ply13_o9 : Oper := ⟨some 56, .move (.tmp 4), 28, "law.go:57", #[], none⟩
def ply13_o10 : Oper := ⟨some 57, .move (.tmp 7), 3, "law.go:57", #[], none⟩
def ply13_o11 : Oper := ⟨some 58, .indexAddr 28 (.tmp 56) (.tmp 57), 0, "law.go:57", #[⟨9, .data⟩, ⟨10, .data⟩], none⟩
def ply13_o12 : Oper := ⟨some 59, .load 26 (.tmp 58), 26, "law.go:57", #[⟨11, .data⟩], none⟩
def ply13_o13 : Oper := ⟨some 60, .fieldAddr 34 (.tmp 6) 2, 0, "law.go:57", #[], none⟩
def ply13_o14 : Oper := ⟨some 61, .load 32 (.tmp 60), 32, "law.go:57", #[⟨13, .data⟩], none⟩
def ply13_o15 : Oper := ⟨some 62, .fieldAddr 34 (.tmp 6) 3, 0, "law.go:57", #[], none⟩
def ply13_o16 : Oper := ⟨some 63, .load 32 (.tmp 62), 32, "law.go:57", #[⟨15, .data⟩], none⟩
def ply13_o17 : Oper := ⟨some 64, .call { callee := Callee.value (Operand.func 13), args := #[.tmp 59, .tmp 61, .tmp 63], argTypes := #[26, 32, 32] }, 36, "law.go:57", #[⟨12, .data⟩, ⟨14, .data⟩, ⟨16, .data⟩, ⟨8, .chain⟩], none⟩
def ply13_o18 : Oper := ⟨some 65, .binOp BinOp.eql 36 (.tmp 55) (.tmp 64) 36, 4, "law.go:57", #[⟨8, .data⟩, ⟨17, .data⟩], none⟩
def ply13_o19 : Oper := ⟨some 8, .assign (.tmp 65), 4, "law.go:57", #[⟨18, .data⟩, ⟨17, .chain⟩, ⟨0, .phase⟩, ⟨1, .phase⟩, ⟨2, .phase⟩, ⟨3, .phase⟩, ⟨4, .phase⟩, ⟨5, .phase⟩, ⟨6, .phase⟩, ⟨7, .phase⟩, ⟨8, .phase⟩, ⟨9, .phase⟩, ⟨10, .phase⟩, ⟨11, .phase⟩, ⟨12, .phase⟩, ⟨13, .phase⟩, ⟨14, .phase⟩, ⟨15, .phase⟩, ⟨16, .phase⟩, ⟨17, .phase⟩, ⟨18, .phase⟩], none⟩
def ply13_ops : Array Oper := #[ply13_o0, ply13_o1, ply13_o2, ply13_o3, ply13_o4, ply13_o5, ply13_o6, ply13_o7, ply13_o8, ply13_o9, ply13_o10, ply13_o11, ply13_o12, ply13_o13, ply13_o14, ply13_o15, ply13_o16, ply13_o17, ply13_o18, ply13_o19]
theorem ply13 {ssb msb m sc mc i bo : Nat} {p q : Option Addr} {o : OpV} {c : Int} (Fin : World → Prop) (a : Act) (w : World) (Q : Exit → Act → World → Prop) (zz : a.tmps.size = 176)
    (t3 : a.tmps.getD 3 undef = .slice (some ⟨ssb, 0, none⟩) m sc)
    (t4 : a.tmps.getD 4 undef = .slice (some ⟨msb, 0, none⟩) m mc)
    (t7 : a.tmps.getD 7 undef = .int .i64 (i : Int))
    (t6 : a.tmps.getD 6 undef = .pointer (some ⟨bo, 0, none⟩))
    (ho : o.ok) (hi : i < m) (hm : m ≤ 1400000000001) (h0 : w.drew.cell? ⟨ssb, i, none⟩ = some (.pointer p) ∧ w.drew.cell? ⟨msb, i, none⟩ = some (.pointer q) ∧ w.drew.rangeAt bo 0 o.c) (C1 : Calls Try.prog 12 #[.pointer p, o.id.v, o.bh.v] w.drew fun e w' => e = .returned (.int .i64 c) ∧ (w'.cell? ⟨ssb, i, none⟩ = some (.pointer p) ∧ w'.cell? ⟨msb, i, none⟩ = some (.pointer q) ∧ w'.rangeAt bo 0 o.c) ∧ Calls Try.prog 13 #[.pointer q, o.id.v, o.bh.v] w' fun e2 w2 => e2 = .returned (.int .i64 c) ∧ (w2.cell? ⟨ssb, i, none⟩ = some (.pointer p) ∧ w2.cell? ⟨msb, i, none⟩ = some (.pointer q) ∧ w2.rangeAt bo 0 o.c) ∧ Fin w2)
    (h : ∀ (a' : Act) (w' : World), Fin w' → a' = ((((((((((((((((((((a).put (some 47) (.slice (some ⟨ssb, 0, none⟩) m sc)).put (some 48) (.int .i64 (i : Int))).put (some 49) (.pointer (some ⟨ssb, i, none⟩))).put (some 50) (.pointer p)).put (some 51) (.pointer (some ⟨bo, 0 + 2, none⟩))).put (some 52) (o.id.v)).put (some 53) (.pointer (some ⟨bo, 0 + 35, none⟩))).put (some 54) (o.bh.v)).put (some 56) (.slice (some ⟨msb, 0, none⟩) m mc)).put (some 57) (.int .i64 (i : Int))).put (some 58) (.pointer (some ⟨msb, i, none⟩))).put (some 59) (.pointer q)).put (some 60) (.pointer (some ⟨bo, 0 + 2, none⟩))).put (some 61) (o.id.v)).put (some 62) (.pointer (some ⟨bo, 0 + 35, none⟩))).put (some 63) (o.bh.v)).put (some 55) (.int .i64 c)).put (some 64) (.int .i64 c)).put (some 65) (.bool true)).put (some 8) (.bool true) → Q .normal a' w') :
    (Code.region 13 ply13_ops true).wp Try.prog Q a w := by
  refine y0 (fun w' => w'.cell? ⟨ssb, i, none⟩ = some (.pointer p) ∧ w'.cell? ⟨msb, i, none⟩ = some (.pointer q) ∧ w'.rangeAt bo 0 o.c) (h0) (fun hHeld => ?_)
  refine yv 0 rfl rfl (fun w1 hw => exec_move rfl (zi t3 rfl)) hHeld ?_
  refine yv 1 rfl rfl (fun w1 hw => exec_move rfl (zi t7 rfl)) hHeld ?_
  refine yv 2 rfl rfl (fun w1 hw => exec_indexAt rfl (zg zz rfl) (zg zz rfl) (ix_sp hi hm _)) hHeld ?_
  refine yv 3 rfl rfl (fun w1 hw => exec_load rfl (zg zz rfl) (ld_sp hw.1)) hHeld ?_
  refine yv 4 rfl rfl (fun w1 hw => exec_fieldAt rfl (zi t6 rfl) (fg_34_2 _ _ _)) hHeld ?_
  refine yv 5 rfl rfl (fun w1 hw => exec_load rfl (zg zz rfl) (op_id ho hw.2.2)) hHeld ?_
  refine yv 6 rfl rfl (fun w1 hw => exec_fieldAt rfl (zi t6 rfl) (fg_34_3 _ _ _)) hHeld ?_
  refine yv 7 rfl rfl (fun w1 hw => exec_load rfl (zg zz rfl) (op_bh ho hw.2.2)) hHeld ?_
  refine yv 9 rfl rfl (fun w1 hw => exec_move rfl (zi t4 rfl)) hHeld ?_
  refine yv 10 rfl rfl (fun w1 hw => exec_move rfl (zi t7 rfl)) hHeld ?_
  refine yv 11 rfl rfl (fun w1 hw => exec_indexAt rfl (zg zz rfl) (zg zz rfl) (ix_mp hi hm _)) hHeld ?_
  refine yv 12 rfl rfl (fun w1 hw => exec_load rfl (zg zz rfl) (ld_mp hw.2.1)) hHeld ?_
  refine yv 13 rfl rfl (fun w1 hw => exec_fieldAt rfl (zi t6 rfl) (fg_34_2 _ _ _)) hHeld ?_
  refine yv 14 rfl rfl (fun w1 hw => exec_load rfl (zg zz rfl) (op_id ho hw.2.2)) hHeld ?_
  refine yv 15 rfl rfl (fun w1 hw => exec_fieldAt rfl (zi t6 rfl) (fg_34_3 _ _ _)) hHeld ?_
  refine yv 16 rfl rfl (fun w1 hw => exec_load rfl (zg zz rfl) (op_bh ho hw.2.2)) hHeld ?_
  refine yc 8 rfl rfl (exec_c3 rfl (zg zz rfl) (zg zz rfl) (zg zz rfl)) (C1) (fun e x8 hx => ?_)
  obtain ⟨rfl, hs, C2⟩ := hx
  refine ⟨_, rfl, hs, fun hHeld => ?_⟩
  refine yc 17 rfl rfl (exec_c3 rfl (zg zz rfl) (zg zz rfl) (zg zz rfl)) (C2) (fun e x17 hx => ?_)
  obtain ⟨rfl, hs, HF⟩ := hx
  refine ⟨_, rfl, hs, fun hHeld => ?_⟩
  refine yv (v := .bool true) 18 rfl rfl (fun w1 hw => ex_eql36 rfl (zg zz rfl) (zg zz rfl) (by simp)) hHeld ?_
  refine yv 19 rfl rfl (fun w1 hw => exec_assign rfl (zg zz rfl)) hHeld ?_
  exact ye rfl (h _ _ (HF) rfl)
def ply15_o0 : Oper := ⟨some 68, .move (.tmp 3), 25, "law.go:59", #[], none⟩
def ply15_o1 : Oper := ⟨some 69, .move (.tmp 7), 3, "law.go:59", #[], none⟩
def ply15_o2 : Oper := ⟨some 70, .indexAddr 25 (.tmp 68) (.tmp 69), 0, "law.go:59", #[⟨0, .data⟩, ⟨1, .data⟩], none⟩
def ply15_o3 : Oper := ⟨some 71, .load 23 (.tmp 70), 23, "law.go:59", #[⟨2, .data⟩], none⟩
def ply15_o4 : Oper := ⟨some 72, .fieldAddr 34 (.tmp 6) 2, 0, "law.go:59", #[], none⟩
def ply15_o5 : Oper := ⟨some 73, .load 32 (.tmp 72), 32, "law.go:59", #[⟨4, .data⟩], none⟩
def ply15_o6 : Oper := ⟨some 74, .call { callee := Callee.value (Operand.func 14), args := #[.tmp 71, .tmp 73], argTypes := #[23, 32] }, 36, "law.go:59", #[⟨3, .data⟩, ⟨5, .data⟩], none⟩
def ply15_o7 : Oper := ⟨some 75, .move (.tmp 4), 28, "law.go:59", #[], none⟩
def ply15_o8 : Oper := ⟨some 76, .move (.tmp 7), 3, "law.go:59", #[], none⟩
def ply15_o9 : Oper := ⟨some 77, .indexAddr 28 (.tmp 75) (.tmp 76), 0, "law.go:59", #[⟨7, .data⟩, ⟨8, .data⟩], none⟩
def ply15_o10 : Oper := ⟨some 78, .load 26 (.tmp 77), 26, "law.go:59", #[⟨9, .data⟩], none⟩
def ply15_o11 : Oper := ⟨some 79, .fieldAddr 34 (.tmp 6) 2, 0, "law.go:59", #[], none⟩
def ply15_o12 : Oper := ⟨some 80, .load 32 (.tmp 79), 32, "law.go:59", #[⟨11, .data⟩], none⟩
def ply15_o13 : Oper := ⟨some 81, .call { callee := Callee.value (Operand.func 15), args := #[.tmp 78, .tmp 80], argTypes := #[26, 32] }, 36, "law.go:59", #[⟨10, .data⟩, ⟨12, .data⟩, ⟨6, .chain⟩], none⟩
def ply15_o14 : Oper := ⟨some 82, .binOp BinOp.eql 36 (.tmp 74) (.tmp 81) 36, 4, "law.go:59", #[⟨6, .data⟩, ⟨13, .data⟩], none⟩
def ply15_o15 : Oper := ⟨some 8, .assign (.tmp 82), 4, "law.go:59", #[⟨14, .data⟩, ⟨13, .chain⟩, ⟨0, .phase⟩, ⟨1, .phase⟩, ⟨2, .phase⟩, ⟨3, .phase⟩, ⟨4, .phase⟩, ⟨5, .phase⟩, ⟨6, .phase⟩, ⟨7, .phase⟩, ⟨8, .phase⟩, ⟨9, .phase⟩, ⟨10, .phase⟩, ⟨11, .phase⟩, ⟨12, .phase⟩, ⟨13, .phase⟩, ⟨14, .phase⟩], none⟩
def ply15_ops : Array Oper := #[ply15_o0, ply15_o1, ply15_o2, ply15_o3, ply15_o4, ply15_o5, ply15_o6, ply15_o7, ply15_o8, ply15_o9, ply15_o10, ply15_o11, ply15_o12, ply15_o13, ply15_o14, ply15_o15]
theorem ply15 {ssb msb m sc mc i bo : Nat} {p q : Option Addr} {o : OpV} {c : Int} (Fin : World → Prop) (a : Act) (w : World) (Q : Exit → Act → World → Prop) (zz : a.tmps.size = 176)
    (t3 : a.tmps.getD 3 undef = .slice (some ⟨ssb, 0, none⟩) m sc)
    (t4 : a.tmps.getD 4 undef = .slice (some ⟨msb, 0, none⟩) m mc)
    (t7 : a.tmps.getD 7 undef = .int .i64 (i : Int))
    (t6 : a.tmps.getD 6 undef = .pointer (some ⟨bo, 0, none⟩))
    (ho : o.ok) (hi : i < m) (hm : m ≤ 1400000000001) (h0 : w.drew.cell? ⟨ssb, i, none⟩ = some (.pointer p) ∧ w.drew.cell? ⟨msb, i, none⟩ = some (.pointer q) ∧ w.drew.rangeAt bo 0 o.c) (C1 : Calls Try.prog 14 #[.pointer p, o.id.v] w.drew fun e w' => e = .returned (.int .i64 c) ∧ (w'.cell? ⟨ssb, i, none⟩ = some (.pointer p) ∧ w'.cell? ⟨msb, i, none⟩ = some (.pointer q) ∧ w'.rangeAt bo 0 o.c) ∧ Calls Try.prog 15 #[.pointer q, o.id.v] w' fun e2 w2 => e2 = .returned (.int .i64 c) ∧ (w2.cell? ⟨ssb, i, none⟩ = some (.pointer p) ∧ w2.cell? ⟨msb, i, none⟩ = some (.pointer q) ∧ w2.rangeAt bo 0 o.c) ∧ Fin w2)
    (h : ∀ (a' : Act) (w' : World), Fin w' → a' = ((((((((((((((((a).put (some 68) (.slice (some ⟨ssb, 0, none⟩) m sc)).put (some 69) (.int .i64 (i : Int))).put (some 70) (.pointer (some ⟨ssb, i, none⟩))).put (some 71) (.pointer p)).put (some 72) (.pointer (some ⟨bo, 0 + 2, none⟩))).put (some 73) (o.id.v)).put (some 75) (.slice (some ⟨msb, 0, none⟩) m mc)).put (some 76) (.int .i64 (i : Int))).put (some 77) (.pointer (some ⟨msb, i, none⟩))).put (some 78) (.pointer q)).put (some 79) (.pointer (some ⟨bo, 0 + 2, none⟩))).put (some 80) (o.id.v)).put (some 74) (.int .i64 c)).put (some 81) (.int .i64 c)).put (some 82) (.bool true)).put (some 8) (.bool true) → Q .normal a' w') :
    (Code.region 15 ply15_ops true).wp Try.prog Q a w := by
  refine y0 (fun w' => w'.cell? ⟨ssb, i, none⟩ = some (.pointer p) ∧ w'.cell? ⟨msb, i, none⟩ = some (.pointer q) ∧ w'.rangeAt bo 0 o.c) (h0) (fun hHeld => ?_)
  refine yv 0 rfl rfl (fun w1 hw => exec_move rfl (zi t3 rfl)) hHeld ?_
  refine yv 1 rfl rfl (fun w1 hw => exec_move rfl (zi t7 rfl)) hHeld ?_
  refine yv 2 rfl rfl (fun w1 hw => exec_indexAt rfl (zg zz rfl) (zg zz rfl) (ix_sp hi hm _)) hHeld ?_
  refine yv 3 rfl rfl (fun w1 hw => exec_load rfl (zg zz rfl) (ld_sp hw.1)) hHeld ?_
  refine yv 4 rfl rfl (fun w1 hw => exec_fieldAt rfl (zi t6 rfl) (fg_34_2 _ _ _)) hHeld ?_
  refine yv 5 rfl rfl (fun w1 hw => exec_load rfl (zg zz rfl) (op_id ho hw.2.2)) hHeld ?_
  refine yv 7 rfl rfl (fun w1 hw => exec_move rfl (zi t4 rfl)) hHeld ?_
  refine yv 8 rfl rfl (fun w1 hw => exec_move rfl (zi t7 rfl)) hHeld ?_
  refine yv 9 rfl rfl (fun w1 hw => exec_indexAt rfl (zg zz rfl) (zg zz rfl) (ix_mp hi hm _)) hHeld ?_
  refine yv 10 rfl rfl (fun w1 hw => exec_load rfl (zg zz rfl) (ld_mp hw.2.1)) hHeld ?_
  refine yv 11 rfl rfl (fun w1 hw => exec_fieldAt rfl (zi t6 rfl) (fg_34_2 _ _ _)) hHeld ?_
  refine yv 12 rfl rfl (fun w1 hw => exec_load rfl (zg zz rfl) (op_id ho hw.2.2)) hHeld ?_
  refine yc 6 rfl rfl (exec_c2 rfl (zg zz rfl) (zg zz rfl)) (C1) (fun e x6 hx => ?_)
  obtain ⟨rfl, hs, C2⟩ := hx
  refine ⟨_, rfl, hs, fun hHeld => ?_⟩
  refine yc 13 rfl rfl (exec_c2 rfl (zg zz rfl) (zg zz rfl)) (C2) (fun e x13 hx => ?_)
  obtain ⟨rfl, hs, HF⟩ := hx
  refine ⟨_, rfl, hs, fun hHeld => ?_⟩
  refine yv (v := .bool true) 14 rfl rfl (fun w1 hw => ex_eql36 rfl (zg zz rfl) (zg zz rfl) (by simp)) hHeld ?_
  refine yv 15 rfl rfl (fun w1 hw => exec_assign rfl (zg zz rfl)) hHeld ?_
  exact ye rfl (h _ _ (HF) rfl)
def ply17_o0 : Oper := ⟨some 85, .move (.tmp 3), 25, "law.go:61", #[], none⟩
def ply17_o1 : Oper := ⟨some 86, .move (.tmp 7), 3, "law.go:61", #[], none⟩
def ply17_o2 : Oper := ⟨some 87, .indexAddr 25 (.tmp 85) (.tmp 86), 0, "law.go:61", #[⟨0, .data⟩, ⟨1, .data⟩], none⟩
def ply17_o3 : Oper := ⟨some 88, .load 23 (.tmp 87), 23, "law.go:61", #[⟨2, .data⟩], none⟩
def ply17_o4 : Oper := ⟨some 89, .fieldAddr 34 (.tmp 6) 2, 0, "law.go:61", #[], none⟩
def ply17_o5 : Oper := ⟨some 90, .load 32 (.tmp 89), 32, "law.go:61", #[⟨4, .data⟩], none⟩
def ply17_o6 : Oper := ⟨some 91, .fieldAddr 34 (.tmp 6) 4, 0, "law.go:61", #[], none⟩
def ply17_o7 : Oper := ⟨some 92, .load 4 (.tmp 91), 4, "law.go:61", #[⟨6, .data⟩], none⟩
def ply17_o8 : Oper := ⟨some 93, .call { callee := Callee.value (Operand.func 16), args := #[.tmp 88, .tmp 90, .tmp 92], argTypes := #[23, 32, 4] }, 36, "law.go:61", #[⟨3, .data⟩, ⟨5, .data⟩, ⟨7, .data⟩], none⟩
def ply17_o9 : Oper := ⟨some 94, .move (.tmp 4), 28, "law.go:61", #[], none⟩
def ply17_o10 : Oper := ⟨some 95, .move (.tmp 7), 3, "law.go:61", #[], none⟩
def ply17_o11 : Oper := ⟨some 96, .indexAddr 28 (.tmp 94) (.tmp 95), 0, "law.go:61", #[⟨9, .data⟩, ⟨10, .data⟩], none⟩
def ply17_o12 : Oper := ⟨some 97, .load 26 (.tmp 96), 26, "law.go:61", #[⟨11, .data⟩], none⟩
def ply17_o13 : Oper := ⟨some 98, .fieldAddr 34 (.tmp 6) 2, 0, "law.go:61", #[], none⟩
def ply17_o14 : Oper := ⟨some 99, .load 32 (.tmp 98), 32, "law.go:61", #[⟨13, .data⟩], none⟩
def ply17_o15 : Oper := ⟨some 100, .fieldAddr 34 (.tmp 6) 4, 0, "law.go:61", #[], none⟩
def ply17_o16 : Oper := ⟨some 101, .load 4 (.tmp 100), 4, "law.go:61", #[⟨15, .data⟩], none⟩
def ply17_o17 : Oper := ⟨some 102, .call { callee := Callee.value (Operand.func 17), args := #[.tmp 97, .tmp 99, .tmp 101], argTypes := #[26, 32, 4] }, 36, "law.go:61", #[⟨12, .data⟩, ⟨14, .data⟩, ⟨16, .data⟩, ⟨8, .chain⟩], none⟩
def ply17_o18 : Oper := ⟨some 103, .binOp BinOp.eql 36 (.tmp 93) (.tmp 102) 36, 4, "law.go:61", #[⟨8, .data⟩, ⟨17, .data⟩], none⟩
def ply17_o19 : Oper := ⟨some 8, .assign (.tmp 103), 4, "law.go:61", #[⟨18, .data⟩, ⟨17, .chain⟩, ⟨0, .phase⟩, ⟨1, .phase⟩, ⟨2, .phase⟩, ⟨3, .phase⟩, ⟨4, .phase⟩, ⟨5, .phase⟩, ⟨6, .phase⟩, ⟨7, .phase⟩, ⟨8, .phase⟩, ⟨9, .phase⟩, ⟨10, .phase⟩, ⟨11, .phase⟩, ⟨12, .phase⟩, ⟨13, .phase⟩, ⟨14, .phase⟩, ⟨15, .phase⟩, ⟨16, .phase⟩, ⟨17, .phase⟩, ⟨18, .phase⟩], none⟩
def ply17_ops : Array Oper := #[ply17_o0, ply17_o1, ply17_o2, ply17_o3, ply17_o4, ply17_o5, ply17_o6, ply17_o7, ply17_o8, ply17_o9, ply17_o10, ply17_o11, ply17_o12, ply17_o13, ply17_o14, ply17_o15, ply17_o16, ply17_o17, ply17_o18, ply17_o19]
theorem ply17 {ssb msb m sc mc i bo : Nat} {p q : Option Addr} {o : OpV} {c : Int} (Fin : World → Prop) (a : Act) (w : World) (Q : Exit → Act → World → Prop) (zz : a.tmps.size = 176)
    (t3 : a.tmps.getD 3 undef = .slice (some ⟨ssb, 0, none⟩) m sc)
    (t4 : a.tmps.getD 4 undef = .slice (some ⟨msb, 0, none⟩) m mc)
    (t7 : a.tmps.getD 7 undef = .int .i64 (i : Int))
    (t6 : a.tmps.getD 6 undef = .pointer (some ⟨bo, 0, none⟩))
    (ho : o.ok) (hi : i < m) (hm : m ≤ 1400000000001) (h0 : w.drew.cell? ⟨ssb, i, none⟩ = some (.pointer p) ∧ w.drew.cell? ⟨msb, i, none⟩ = some (.pointer q) ∧ w.drew.rangeAt bo 0 o.c) (C1 : Calls Try.prog 16 #[.pointer p, o.id.v, .bool o.sh] w.drew fun e w' => e = .returned (.int .i64 c) ∧ (w'.cell? ⟨ssb, i, none⟩ = some (.pointer p) ∧ w'.cell? ⟨msb, i, none⟩ = some (.pointer q) ∧ w'.rangeAt bo 0 o.c) ∧ Calls Try.prog 17 #[.pointer q, o.id.v, .bool o.sh] w' fun e2 w2 => e2 = .returned (.int .i64 c) ∧ (w2.cell? ⟨ssb, i, none⟩ = some (.pointer p) ∧ w2.cell? ⟨msb, i, none⟩ = some (.pointer q) ∧ w2.rangeAt bo 0 o.c) ∧ Fin w2)
    (h : ∀ (a' : Act) (w' : World), Fin w' → a' = ((((((((((((((((((((a).put (some 85) (.slice (some ⟨ssb, 0, none⟩) m sc)).put (some 86) (.int .i64 (i : Int))).put (some 87) (.pointer (some ⟨ssb, i, none⟩))).put (some 88) (.pointer p)).put (some 89) (.pointer (some ⟨bo, 0 + 2, none⟩))).put (some 90) (o.id.v)).put (some 91) (.pointer (some ⟨bo, 0 + 68, none⟩))).put (some 92) (.bool o.sh)).put (some 94) (.slice (some ⟨msb, 0, none⟩) m mc)).put (some 95) (.int .i64 (i : Int))).put (some 96) (.pointer (some ⟨msb, i, none⟩))).put (some 97) (.pointer q)).put (some 98) (.pointer (some ⟨bo, 0 + 2, none⟩))).put (some 99) (o.id.v)).put (some 100) (.pointer (some ⟨bo, 0 + 68, none⟩))).put (some 101) (.bool o.sh)).put (some 93) (.int .i64 c)).put (some 102) (.int .i64 c)).put (some 103) (.bool true)).put (some 8) (.bool true) → Q .normal a' w') :
    (Code.region 17 ply17_ops true).wp Try.prog Q a w := by
  refine y0 (fun w' => w'.cell? ⟨ssb, i, none⟩ = some (.pointer p) ∧ w'.cell? ⟨msb, i, none⟩ = some (.pointer q) ∧ w'.rangeAt bo 0 o.c) (h0) (fun hHeld => ?_)
  refine yv 0 rfl rfl (fun w1 hw => exec_move rfl (zi t3 rfl)) hHeld ?_
  refine yv 1 rfl rfl (fun w1 hw => exec_move rfl (zi t7 rfl)) hHeld ?_
  refine yv 2 rfl rfl (fun w1 hw => exec_indexAt rfl (zg zz rfl) (zg zz rfl) (ix_sp hi hm _)) hHeld ?_
  refine yv 3 rfl rfl (fun w1 hw => exec_load rfl (zg zz rfl) (ld_sp hw.1)) hHeld ?_
  refine yv 4 rfl rfl (fun w1 hw => exec_fieldAt rfl (zi t6 rfl) (fg_34_2 _ _ _)) hHeld ?_
  refine yv 5 rfl rfl (fun w1 hw => exec_load rfl (zg zz rfl) (op_id ho hw.2.2)) hHeld ?_
  refine yv 6 rfl rfl (fun w1 hw => exec_fieldAt rfl (zi t6 rfl) (fg_34_4 _ _ _)) hHeld ?_
  refine yv 7 rfl rfl (fun w1 hw => exec_load rfl (zg zz rfl) (op_sh ho hw.2.2)) hHeld ?_
  refine yv 9 rfl rfl (fun w1 hw => exec_move rfl (zi t4 rfl)) hHeld ?_
  refine yv 10 rfl rfl (fun w1 hw => exec_move rfl (zi t7 rfl)) hHeld ?_
  refine yv 11 rfl rfl (fun w1 hw => exec_indexAt rfl (zg zz rfl) (zg zz rfl) (ix_mp hi hm _)) hHeld ?_
  refine yv 12 rfl rfl (fun w1 hw => exec_load rfl (zg zz rfl) (ld_mp hw.2.1)) hHeld ?_
  refine yv 13 rfl rfl (fun w1 hw => exec_fieldAt rfl (zi t6 rfl) (fg_34_2 _ _ _)) hHeld ?_
  refine yv 14 rfl rfl (fun w1 hw => exec_load rfl (zg zz rfl) (op_id ho hw.2.2)) hHeld ?_
  refine yv 15 rfl rfl (fun w1 hw => exec_fieldAt rfl (zi t6 rfl) (fg_34_4 _ _ _)) hHeld ?_
  refine yv 16 rfl rfl (fun w1 hw => exec_load rfl (zg zz rfl) (op_sh ho hw.2.2)) hHeld ?_
  refine yc 8 rfl rfl (exec_c3 rfl (zg zz rfl) (zg zz rfl) (zg zz rfl)) (C1) (fun e x8 hx => ?_)
  obtain ⟨rfl, hs, C2⟩ := hx
  refine ⟨_, rfl, hs, fun hHeld => ?_⟩
  refine yc 17 rfl rfl (exec_c3 rfl (zg zz rfl) (zg zz rfl) (zg zz rfl)) (C2) (fun e x17 hx => ?_)
  obtain ⟨rfl, hs, HF⟩ := hx
  refine ⟨_, rfl, hs, fun hHeld => ?_⟩
  refine yv (v := .bool true) 18 rfl rfl (fun w1 hw => ex_eql36 rfl (zg zz rfl) (zg zz rfl) (by simp)) hHeld ?_
  refine yv 19 rfl rfl (fun w1 hw => exec_assign rfl (zg zz rfl)) hHeld ?_
  exact ye rfl (h _ _ (HF) rfl)
def ply19_o0 : Oper := ⟨some 106, .move (.tmp 3), 25, "law.go:63", #[], none⟩
def ply19_o1 : Oper := ⟨some 107, .move (.tmp 3), 25, "law.go:63", #[], none⟩
def ply19_o2 : Oper := ⟨some 108, .move (.tmp 7), 3, "law.go:63", #[], none⟩
def ply19_o3 : Oper := ⟨some 109, .indexAddr 25 (.tmp 107) (.tmp 108), 0, "law.go:63", #[⟨1, .data⟩, ⟨2, .data⟩], none⟩
def ply19_o4 : Oper := ⟨some 110, .load 23 (.tmp 109), 23, "law.go:63", #[⟨3, .data⟩], none⟩
def ply19_o5 : Oper := ⟨some 111, .call { callee := Callee.value (Operand.func 18), args := #[.tmp 110], argTypes := #[23] }, 23, "law.go:63", #[⟨4, .data⟩], none⟩
def ply19_o6 : Oper := ⟨some 112, .buildSlice 25 1 #[(0, .tmp 111)], 25, "law.go:63", #[⟨5, .data⟩], none⟩
def ply19_o7 : Oper := ⟨some 113, .call { callee := Callee.builtin Builtin.append, args := #[.tmp 106, .tmp 112], argTypes := #[25, 25] }, 25, "law.go:63", #[⟨0, .data⟩, ⟨6, .data⟩, ⟨5, .chain⟩], none⟩
def ply19_o8 : Oper := ⟨some 3, .assign (.tmp 113), 25, "law.go:63", #[⟨7, .data⟩, ⟨7, .chain⟩, ⟨0, .phase⟩, ⟨1, .phase⟩, ⟨2, .phase⟩, ⟨3, .phase⟩, ⟨4, .phase⟩, ⟨5, .phase⟩, ⟨6, .phase⟩, ⟨7, .phase⟩], none⟩
def ply19_ops : Array Oper := #[ply19_o0, ply19_o1, ply19_o2, ply19_o3, ply19_o4, ply19_o5, ply19_o6, ply19_o7, ply19_o8]
theorem ply19 {ssb m sc i : Nat} {p : Option Addr} (Fin : Option Addr → Value → World → Prop) (a : Act) (w : World) (Q : Exit → Act → World → Prop) (zz : a.tmps.size = 176)
    (t3 : a.tmps.getD 3 undef = .slice (some ⟨ssb, 0, none⟩) m sc)
    (t7 : a.tmps.getD 7 undef = .int .i64 (i : Int))
    (hi : i < m) (hm : m ≤ 1400000000001) (h0 : w.cell? ⟨ssb, i, none⟩ = some (.pointer p)) (CF : Calls Try.prog 18 #[.pointer p] w fun e w' => ∃ pn, e = .returned (.pointer pn) ∧ ∃ sv w1 v2 w2, (Instr.buildSlice 25 1 #[(0, .pointer pn)]).run Try.prog w' = .ok sv w1 ∧ (Builtin.append_ #[25, 25] 25 #[.slice (some ⟨ssb, 0, none⟩) m sc, sv]).run Try.prog w1 = .ok v2 w2 ∧ Fin pn v2 w2)
    (h : ∀ (pn : Option Addr) (v2 sv : Value) (a' : Act) (w' : World), Fin pn v2 w' → a' = (((((((((a).put (some 106) (.slice (some ⟨ssb, 0, none⟩) m sc)).put (some 107) (.slice (some ⟨ssb, 0, none⟩) m sc)).put (some 108) (.int .i64 (i : Int))).put (some 109) (.pointer (some ⟨ssb, i, none⟩))).put (some 110) (.pointer p)).put (some 111) (.pointer pn)).put (some 112) (sv)).put (some 113) (v2)).put (some 3) (v2) → Q .normal a' w') :
    (Code.region 19 ply19_ops false).wp Try.prog Q a w := by
  refine z0 rfl ?_
  refine zv rfl (exec_move rfl (zi t3 rfl)) ?_
  refine zv rfl (exec_move rfl (zi t3 rfl)) ?_
  refine zv rfl (exec_move rfl (zi t7 rfl)) ?_
  refine zv rfl (exec_indexAt rfl (zg zz rfl) (zg zz rfl) (ix_sp hi hm _)) ?_
  refine zv rfl (exec_load rfl (zg zz rfl) (ld_sp h0)) ?_
  refine zc rfl (exec_c1 rfl (zg zz rfl)) (CF) (fun e x5 hx => ?_)
  obtain ⟨pn, rfl, sv, w1, v2, w2, E1, E2, HF⟩ := hx
  replace h := h pn v2 sv
  refine ⟨_, rfl, ?_⟩
  refine zv (v := sv) rfl (exec_buildSlice rfl (zg zz rfl) E1) ?_
  refine zv (v := v2) rfl (exec_append rfl (zg zz rfl) (zg zz rfl) E2) ?_
  refine zv rfl (exec_assign rfl (zg zz rfl)) ?_
  exact ze rfl (h _ _ (HF) rfl)
def ply20_o0 : Oper := ⟨some 114, .move (.tmp 4), 28, "law.go:64", #[], none⟩
def ply20_o1 : Oper := ⟨some 115, .move (.tmp 4), 28, "law.go:64", #[], none⟩
def ply20_o2 : Oper := ⟨some 116, .move (.tmp 7), 3, "law.go:64", #[], none⟩
def ply20_o3 : Oper := ⟨some 117, .indexAddr 28 (.tmp 115) (.tmp 116), 0, "law.go:64", #[⟨1, .data⟩, ⟨2, .data⟩], none⟩
def ply20_o4 : Oper := ⟨some 118, .load 26 (.tmp 117), 26, "law.go:64", #[⟨3, .data⟩], none⟩
def ply20_o5 : Oper := ⟨some 119, .call { callee := Callee.value (Operand.func 19), args := #[.tmp 118], argTypes := #[26] }, 26, "law.go:64", #[⟨4, .data⟩], none⟩
def ply20_o6 : Oper := ⟨some 120, .buildSlice 28 1 #[(0, .tmp 119)], 28, "law.go:64", #[⟨5, .data⟩], none⟩
def ply20_o7 : Oper := ⟨some 121, .call { callee := Callee.builtin Builtin.append, args := #[.tmp 114, .tmp 120], argTypes := #[28, 28] }, 28, "law.go:64", #[⟨0, .data⟩, ⟨6, .data⟩, ⟨5, .chain⟩], none⟩
def ply20_o8 : Oper := ⟨some 4, .assign (.tmp 121), 28, "law.go:64", #[⟨7, .data⟩, ⟨7, .chain⟩, ⟨0, .phase⟩, ⟨1, .phase⟩, ⟨2, .phase⟩, ⟨3, .phase⟩, ⟨4, .phase⟩, ⟨5, .phase⟩, ⟨6, .phase⟩, ⟨7, .phase⟩], none⟩
def ply20_ops : Array Oper := #[ply20_o0, ply20_o1, ply20_o2, ply20_o3, ply20_o4, ply20_o5, ply20_o6, ply20_o7, ply20_o8]
theorem ply20 {msb m mc i : Nat} {q : Option Addr} (Fin : Option Addr → Value → World → Prop) (a : Act) (w : World) (Q : Exit → Act → World → Prop) (zz : a.tmps.size = 176)
    (t4 : a.tmps.getD 4 undef = .slice (some ⟨msb, 0, none⟩) m mc)
    (t7 : a.tmps.getD 7 undef = .int .i64 (i : Int))
    (hi : i < m) (hm : m ≤ 1400000000001) (h0 : w.cell? ⟨msb, i, none⟩ = some (.pointer q)) (CF : Calls Try.prog 19 #[.pointer q] w fun e w' => ∃ pn, e = .returned (.pointer pn) ∧ ∃ sv w1 v2 w2, (Instr.buildSlice 28 1 #[(0, .pointer pn)]).run Try.prog w' = .ok sv w1 ∧ (Builtin.append_ #[28, 28] 28 #[.slice (some ⟨msb, 0, none⟩) m mc, sv]).run Try.prog w1 = .ok v2 w2 ∧ Fin pn v2 w2)
    (h : ∀ (pn : Option Addr) (v2 sv : Value) (a' : Act) (w' : World), Fin pn v2 w' → a' = (((((((((a).put (some 114) (.slice (some ⟨msb, 0, none⟩) m mc)).put (some 115) (.slice (some ⟨msb, 0, none⟩) m mc)).put (some 116) (.int .i64 (i : Int))).put (some 117) (.pointer (some ⟨msb, i, none⟩))).put (some 118) (.pointer q)).put (some 119) (.pointer pn)).put (some 120) (sv)).put (some 121) (v2)).put (some 4) (v2) → Q .normal a' w') :
    (Code.region 20 ply20_ops false).wp Try.prog Q a w := by
  refine z0 rfl ?_
  refine zv rfl (exec_move rfl (zi t4 rfl)) ?_
  refine zv rfl (exec_move rfl (zi t4 rfl)) ?_
  refine zv rfl (exec_move rfl (zi t7 rfl)) ?_
  refine zv rfl (exec_indexAt rfl (zg zz rfl) (zg zz rfl) (ix_mp hi hm _)) ?_
  refine zv rfl (exec_load rfl (zg zz rfl) (ld_mp h0)) ?_
  refine zc rfl (exec_c1 rfl (zg zz rfl)) (CF) (fun e x5 hx => ?_)
  obtain ⟨pn, rfl, sv, w1, v2, w2, E1, E2, HF⟩ := hx
  replace h := h pn v2 sv
  refine ⟨_, rfl, ?_⟩
  refine zv (v := sv) rfl (exec_buildSlice rfl (zg zz rfl) E1) ?_
  refine zv (v := v2) rfl (exec_append rfl (zg zz rfl) (zg zz rfl) E2) ?_
  refine zv rfl (exec_assign rfl (zg zz rfl)) ?_
  exact ze rfl (h _ _ (HF) rfl)
def ply22_o0 : Oper := ⟨some 124, .move (.tmp 3), 25, "law.go:66", #[], none⟩
def ply22_o1 : Oper := ⟨some 125, .buildSlice 25 1 #[(0, Operand.const (Value.pointer none))], 25, "law.go:66", #[], none⟩
def ply22_o2 : Oper := ⟨some 126, .call { callee := Callee.builtin Builtin.append, args := #[.tmp 124, .tmp 125], argTypes := #[25, 25] }, 25, "law.go:66", #[⟨0, .data⟩, ⟨1, .data⟩], none⟩
def ply22_o3 : Oper := ⟨some 3, .assign (.tmp 126), 25, "law.go:66", #[⟨2, .data⟩, ⟨2, .chain⟩, ⟨0, .phase⟩, ⟨1, .phase⟩, ⟨2, .phase⟩], none⟩
def ply22_ops : Array Oper := #[ply22_o0, ply22_o1, ply22_o2, ply22_o3]
theorem ply22 {lv sv v2 : Value} {w1 w2 : World} (a : Act) (w : World) (Q : Exit → Act → World → Prop) (zz : a.tmps.size = 176)
    (t3 : a.tmps.getD 3 undef = lv)
    (E1 : (Instr.buildSlice 25 1 #[(0, .pointer none)]).run Try.prog w = .ok sv w1) (E2 : (Builtin.append_ #[25, 25] 25 #[lv, sv]).run Try.prog w1 = .ok v2 w2)
    (h : ∀ (a' : Act) (w' : World), w' = w2 → a' = ((((a).put (some 124) (lv)).put (some 125) (sv)).put (some 126) (v2)).put (some 3) (v2) → Q .normal a' w') :
    (Code.region 22 ply22_ops false).wp Try.prog Q a w := by
  refine z0 rfl ?_
  refine zv rfl (exec_move rfl (zi t3 rfl)) ?_
  refine zv (v := sv) rfl (exec_buildSlice rfl rfl E1) ?_
  refine zv (v := v2) rfl (exec_append rfl (zg zz rfl) (zg zz rfl) E2) ?_
  refine zv rfl (exec_assign rfl (zg zz rfl)) ?_
  exact ze rfl (h _ _ (rfl) rfl)
def ply23_o0 : Oper := ⟨some 127, .move (.tmp 4), 28, "law.go:67", #[], none⟩
def ply23_o1 : Oper := ⟨some 128, .buildSlice 28 1 #[(0, Operand.const (Value.pointer none))], 28, "law.go:67", #[], none⟩
def ply23_o2 : Oper := ⟨some 129, .call { callee := Callee.builtin Builtin.append, args := #[.tmp 127, .tmp 128], argTypes := #[28, 28] }, 28, "law.go:67", #[⟨0, .data⟩, ⟨1, .data⟩], none⟩
def ply23_o3 : Oper := ⟨some 4, .assign (.tmp 129), 28, "law.go:67", #[⟨2, .data⟩, ⟨2, .chain⟩, ⟨0, .phase⟩, ⟨1, .phase⟩, ⟨2, .phase⟩], none⟩
def ply23_ops : Array Oper := #[ply23_o0, ply23_o1, ply23_o2, ply23_o3]
theorem ply23 {lv sv v2 : Value} {w1 w2 : World} (a : Act) (w : World) (Q : Exit → Act → World → Prop) (zz : a.tmps.size = 176)
    (t4 : a.tmps.getD 4 undef = lv)
    (E1 : (Instr.buildSlice 28 1 #[(0, .pointer none)]).run Try.prog w = .ok sv w1) (E2 : (Builtin.append_ #[28, 28] 28 #[lv, sv]).run Try.prog w1 = .ok v2 w2)
    (h : ∀ (a' : Act) (w' : World), w' = w2 → a' = ((((a).put (some 127) (lv)).put (some 128) (sv)).put (some 129) (v2)).put (some 4) (v2) → Q .normal a' w') :
    (Code.region 23 ply23_ops false).wp Try.prog Q a w := by
  refine z0 rfl ?_
  refine zv rfl (exec_move rfl (zi t4 rfl)) ?_
  refine zv (v := sv) rfl (exec_buildSlice rfl rfl E1) ?_
  refine zv (v := v2) rfl (exec_append rfl (zg zz rfl) (zg zz rfl) E2) ?_
  refine zv rfl (exec_assign rfl (zg zz rfl)) ?_
  exact ze rfl (h _ _ (rfl) rfl)
def ply25_o0 : Oper := ⟨some 132, .move (.tmp 3), 25, "law.go:69", #[], none⟩
def ply25_o1 : Oper := ⟨some 133, .move (.tmp 7), 3, "law.go:69", #[], none⟩
def ply25_o2 : Oper := ⟨some 134, .indexAddr 25 (.tmp 132) (.tmp 133), 0, "law.go:69", #[⟨0, .data⟩, ⟨1, .data⟩], none⟩
def ply25_o3 : Oper := ⟨some 135, .load 23 (.tmp 134), 23, "law.go:69", #[⟨2, .data⟩], none⟩
def ply25_o4 : Oper := ⟨some 136, .move (.tmp 4), 28, "law.go:69", #[], none⟩
def ply25_o5 : Oper := ⟨some 137, .move (.tmp 7), 3, "law.go:69", #[], none⟩
def ply25_o6 : Oper := ⟨some 138, .indexAddr 28 (.tmp 136) (.tmp 137), 0, "law.go:69", #[⟨4, .data⟩, ⟨5, .data⟩], none⟩
def ply25_o7 : Oper := ⟨some 139, .load 26 (.tmp 138), 26, "law.go:69", #[⟨6, .data⟩], none⟩
def ply25_o8 : Oper := ⟨some 140, .call { callee := Callee.value (Operand.func 20), args := #[.tmp 135, .tmp 139], argTypes := #[23, 26] }, 4, "law.go:69", #[⟨3, .data⟩, ⟨7, .data⟩], none⟩
def ply25_o9 : Oper := ⟨some 8, .assign (.tmp 140), 4, "law.go:69", #[⟨8, .data⟩, ⟨8, .chain⟩, ⟨0, .phase⟩, ⟨1, .phase⟩, ⟨2, .phase⟩, ⟨3, .phase⟩, ⟨4, .phase⟩, ⟨5, .phase⟩, ⟨6, .phase⟩, ⟨7, .phase⟩, ⟨8, .phase⟩], none⟩
def ply25_ops : Array Oper := #[ply25_o0, ply25_o1, ply25_o2, ply25_o3, ply25_o4, ply25_o5, ply25_o6, ply25_o7, ply25_o8, ply25_o9]
theorem ply25 {ssb msb m sc mc i bo : Nat} {p q : Option Addr} {o : OpV} (Fin : World → Prop) (a : Act) (w : World) (Q : Exit → Act → World → Prop) (zz : a.tmps.size = 176)
    (t3 : a.tmps.getD 3 undef = .slice (some ⟨ssb, 0, none⟩) m sc)
    (t4 : a.tmps.getD 4 undef = .slice (some ⟨msb, 0, none⟩) m mc)
    (t7 : a.tmps.getD 7 undef = .int .i64 (i : Int))
    (t6 : a.tmps.getD 6 undef = .pointer (some ⟨bo, 0, none⟩))
    (ho : o.ok) (hi : i < m) (hm : m ≤ 1400000000001) (h0 : w.drew.cell? ⟨ssb, i, none⟩ = some (.pointer p) ∧ w.drew.cell? ⟨msb, i, none⟩ = some (.pointer q) ∧ w.drew.rangeAt bo 0 o.c) (CL : Calls Try.prog 20 #[.pointer p, .pointer q] w.drew fun e w' => e = .returned (.bool true) ∧ (w'.cell? ⟨ssb, i, none⟩ = some (.pointer p) ∧ w'.cell? ⟨msb, i, none⟩ = some (.pointer q) ∧ w'.rangeAt bo 0 o.c) ∧ Fin w')
    (h : ∀ (a' : Act) (w' : World), Fin w' → a' = ((((((((((a).put (some 132) (.slice (some ⟨ssb, 0, none⟩) m sc)).put (some 133) (.int .i64 (i : Int))).put (some 134) (.pointer (some ⟨ssb, i, none⟩))).put (some 135) (.pointer p)).put (some 136) (.slice (some ⟨msb, 0, none⟩) m mc)).put (some 137) (.int .i64 (i : Int))).put (some 138) (.pointer (some ⟨msb, i, none⟩))).put (some 139) (.pointer q)).put (some 140) (.bool true)).put (some 8) (.bool true) → Q .normal a' w') :
    (Code.region 25 ply25_ops true).wp Try.prog Q a w := by
  refine y0 (fun w' => w'.cell? ⟨ssb, i, none⟩ = some (.pointer p) ∧ w'.cell? ⟨msb, i, none⟩ = some (.pointer q) ∧ w'.rangeAt bo 0 o.c) (h0) (fun hHeld => ?_)
  refine yv 0 rfl rfl (fun w1 hw => exec_move rfl (zi t3 rfl)) hHeld ?_
  refine yv 1 rfl rfl (fun w1 hw => exec_move rfl (zi t7 rfl)) hHeld ?_
  refine yv 2 rfl rfl (fun w1 hw => exec_indexAt rfl (zg zz rfl) (zg zz rfl) (ix_sp hi hm _)) hHeld ?_
  refine yv 3 rfl rfl (fun w1 hw => exec_load rfl (zg zz rfl) (ld_sp hw.1)) hHeld ?_
  refine yv 4 rfl rfl (fun w1 hw => exec_move rfl (zi t4 rfl)) hHeld ?_
  refine yv 5 rfl rfl (fun w1 hw => exec_move rfl (zi t7 rfl)) hHeld ?_
  refine yv 6 rfl rfl (fun w1 hw => exec_indexAt rfl (zg zz rfl) (zg zz rfl) (ix_mp hi hm _)) hHeld ?_
  refine yv 7 rfl rfl (fun w1 hw => exec_load rfl (zg zz rfl) (ld_mp hw.2.1)) hHeld ?_
  refine yc 8 rfl rfl (exec_c2 rfl (zg zz rfl) (zg zz rfl)) (CL) (fun e x8 hx => ?_)
  obtain ⟨rfl, HF⟩ := hx
  refine ⟨_, rfl, HF.1, fun hHeld => ?_⟩
  refine yv 9 rfl rfl (fun w1 hw => exec_assign rfl (zg zz rfl)) hHeld ?_
  exact ye rfl (h _ _ (HF.2) rfl)
def ply11_o0 : Oper := ⟨some 32, .move (.tmp 3), 25, "law.go:71", #[], none⟩
def ply11_o1 : Oper := ⟨some 33, .move (.tmp 7), 3, "law.go:71", #[], none⟩
def ply11_o2 : Oper := ⟨some 34, .indexAddr 25 (.tmp 32) (.tmp 33), 0, "law.go:71", #[⟨0, .data⟩, ⟨1, .data⟩], none⟩
def ply11_o3 : Oper := ⟨some 35, .load 23 (.tmp 34), 23, "law.go:71", #[⟨2, .data⟩], none⟩
def ply11_o4 : Oper := ⟨some 36, .move (.tmp 4), 28, "law.go:71", #[], none⟩
def ply11_o5 : Oper := ⟨some 37, .move (.tmp 7), 3, "law.go:71", #[], none⟩
def ply11_o6 : Oper := ⟨some 38, .indexAddr 28 (.tmp 36) (.tmp 37), 0, "law.go:71", #[⟨4, .data⟩, ⟨5, .data⟩], none⟩
def ply11_o7 : Oper := ⟨some 39, .load 26 (.tmp 38), 26, "law.go:71", #[⟨6, .data⟩], none⟩
def ply11_o8 : Oper := ⟨some 40, .fieldAddr 34 (.tmp 6) 2, 0, "law.go:71", #[], none⟩
def ply11_o9 : Oper := ⟨some 41, .load 32 (.tmp 40), 32, "law.go:71", #[⟨8, .data⟩], none⟩
def ply11_o10 : Oper := ⟨some 42, .fieldAddr 34 (.tmp 6) 5, 0, "law.go:71", #[], none⟩
def ply11_o11 : Oper := ⟨some 43, .load 3 (.tmp 42), 3, "law.go:71", #[⟨10, .data⟩], none⟩
def ply11_o12 : Oper := ⟨some 44, .call { callee := Callee.value (Operand.func 21), args := #[.tmp 35, .tmp 39, .tmp 41, .tmp 43], argTypes := #[23, 26, 32, 3] }, 4, "law.go:71", #[⟨3, .data⟩, ⟨7, .data⟩, ⟨9, .data⟩, ⟨11, .data⟩], none⟩
def ply11_o13 : Oper := ⟨some 8, .assign (.tmp 44), 4, "law.go:71", #[⟨12, .data⟩, ⟨12, .chain⟩, ⟨0, .phase⟩, ⟨1, .phase⟩, ⟨2, .phase⟩, ⟨3, .phase⟩, ⟨4, .phase⟩, ⟨5, .phase⟩, ⟨6, .phase⟩, ⟨7, .phase⟩, ⟨8, .phase⟩, ⟨9, .phase⟩, ⟨10, .phase⟩, ⟨11, .phase⟩, ⟨12, .phase⟩], none⟩
def ply11_ops : Array Oper := #[ply11_o0, ply11_o1, ply11_o2, ply11_o3, ply11_o4, ply11_o5, ply11_o6, ply11_o7, ply11_o8, ply11_o9, ply11_o10, ply11_o11, ply11_o12, ply11_o13]
theorem ply11 {ssb msb m sc mc i bo : Nat} {p q : Option Addr} {o : OpV} (Fin : World → Prop) (a : Act) (w : World) (Q : Exit → Act → World → Prop) (zz : a.tmps.size = 176)
    (t3 : a.tmps.getD 3 undef = .slice (some ⟨ssb, 0, none⟩) m sc)
    (t4 : a.tmps.getD 4 undef = .slice (some ⟨msb, 0, none⟩) m mc)
    (t7 : a.tmps.getD 7 undef = .int .i64 (i : Int))
    (t6 : a.tmps.getD 6 undef = .pointer (some ⟨bo, 0, none⟩))
    (ho : o.ok) (hi : i < m) (hm : m ≤ 1400000000001) (h0 : w.drew.cell? ⟨ssb, i, none⟩ = some (.pointer p) ∧ w.drew.cell? ⟨msb, i, none⟩ = some (.pointer q) ∧ w.drew.rangeAt bo 0 o.c) (CL : Calls Try.prog 21 #[.pointer p, .pointer q, o.id.v, .int .i64 o.n] w.drew fun e w' => e = .returned (.bool true) ∧ (w'.cell? ⟨ssb, i, none⟩ = some (.pointer p) ∧ w'.cell? ⟨msb, i, none⟩ = some (.pointer q) ∧ w'.rangeAt bo 0 o.c) ∧ Fin w')
    (h : ∀ (a' : Act) (w' : World), Fin w' → a' = ((((((((((((((a).put (some 32) (.slice (some ⟨ssb, 0, none⟩) m sc)).put (some 33) (.int .i64 (i : Int))).put (some 34) (.pointer (some ⟨ssb, i, none⟩))).put (some 35) (.pointer p)).put (some 36) (.slice (some ⟨msb, 0, none⟩) m mc)).put (some 37) (.int .i64 (i : Int))).put (some 38) (.pointer (some ⟨msb, i, none⟩))).put (some 39) (.pointer q)).put (some 40) (.pointer (some ⟨bo, 0 + 2, none⟩))).put (some 41) (o.id.v)).put (some 42) (.pointer (some ⟨bo, 0 + 69, none⟩))).put (some 43) (.int .i64 o.n)).put (some 44) (.bool true)).put (some 8) (.bool true) → Q .normal a' w') :
    (Code.region 11 ply11_ops true).wp Try.prog Q a w := by
  refine y0 (fun w' => w'.cell? ⟨ssb, i, none⟩ = some (.pointer p) ∧ w'.cell? ⟨msb, i, none⟩ = some (.pointer q) ∧ w'.rangeAt bo 0 o.c) (h0) (fun hHeld => ?_)
  refine yv 0 rfl rfl (fun w1 hw => exec_move rfl (zi t3 rfl)) hHeld ?_
  refine yv 1 rfl rfl (fun w1 hw => exec_move rfl (zi t7 rfl)) hHeld ?_
  refine yv 2 rfl rfl (fun w1 hw => exec_indexAt rfl (zg zz rfl) (zg zz rfl) (ix_sp hi hm _)) hHeld ?_
  refine yv 3 rfl rfl (fun w1 hw => exec_load rfl (zg zz rfl) (ld_sp hw.1)) hHeld ?_
  refine yv 4 rfl rfl (fun w1 hw => exec_move rfl (zi t4 rfl)) hHeld ?_
  refine yv 5 rfl rfl (fun w1 hw => exec_move rfl (zi t7 rfl)) hHeld ?_
  refine yv 6 rfl rfl (fun w1 hw => exec_indexAt rfl (zg zz rfl) (zg zz rfl) (ix_mp hi hm _)) hHeld ?_
  refine yv 7 rfl rfl (fun w1 hw => exec_load rfl (zg zz rfl) (ld_mp hw.2.1)) hHeld ?_
  refine yv 8 rfl rfl (fun w1 hw => exec_fieldAt rfl (zi t6 rfl) (fg_34_2 _ _ _)) hHeld ?_
  refine yv 9 rfl rfl (fun w1 hw => exec_load rfl (zg zz rfl) (op_id ho hw.2.2)) hHeld ?_
  refine yv 10 rfl rfl (fun w1 hw => exec_fieldAt rfl (zi t6 rfl) (fg_34_5 _ _ _)) hHeld ?_
  refine yv 11 rfl rfl (fun w1 hw => exec_load rfl (zg zz rfl) (op_n ho hw.2.2)) hHeld ?_
  refine yc 12 rfl rfl (exec_c4 rfl (zg zz rfl) (zg zz rfl) (zg zz rfl) (zg zz rfl)) (CL) (fun e x12 hx => ?_)
  obtain ⟨rfl, HF⟩ := hx
  refine ⟨_, rfl, HF.1, fun hHeld => ?_⟩
  refine yv 13 rfl rfl (fun w1 hw => exec_assign rfl (zg zz rfl)) hHeld ?_
  exact ye rfl (h _ _ (HF.2) rfl)
def ply26_o0 : Oper := ⟨some 141, .move (.tmp 3), 25, "law.go:73", #[], none⟩
def ply26_o1 : Oper := ⟨some 142, .call { callee := Callee.builtin Builtin.len, args := #[.tmp 141], argTypes := #[25] }, 3, "law.go:73", #[⟨0, .data⟩], none⟩
def ply26_o2 : Oper := ⟨some 143, .binOp BinOp.sub 3 (.tmp 142) (Operand.const (Value.int IntKind.i64 1)) 3, 3, "law.go:73", #[⟨1, .data⟩], none⟩
def ply26_o3 : Oper := ⟨some 9, .assign (.tmp 143), 3, "law.go:73", #[⟨2, .data⟩, ⟨0, .phase⟩, ⟨1, .phase⟩, ⟨2, .phase⟩], none⟩
def ply26_ops : Array Oper := #[ply26_o0, ply26_o1, ply26_o2, ply26_o3]
theorem ply26 {m sc i : Nat} {sa : Option Addr} (a : Act) (w : World) (Q : Exit → Act → World → Prop) (zz : a.tmps.size = 176)
    (t3 : a.tmps.getD 3 undef = .slice sa m sc)
    (hmi : m = i + 1 ∧ i ≤ 1400000000000)
    (h : ∀ (a' : Act) (w' : World), w' = w → a' = ((((a).put (some 141) (.slice sa m sc)).put (some 142) (.int .i64 (m : Int))).put (some 143) (.int .i64 (i : Int))).put (some 9) (.int .i64 (i : Int)) → Q .normal a' w') :
    (Code.region 26 ply26_ops false).wp Try.prog Q a w := by
  refine z0 rfl ?_
  refine zv rfl (exec_move rfl (zi t3 rfl)) ?_
  refine zv rfl (exec_len rfl (zg zz rfl) (len_sp _ _ _ _ _)) ?_
  refine zv (v := .int .i64 (i : Int)) rfl (ex_subN rfl (zg zz rfl) rfl hmi) ?_
  refine zv rfl (exec_assign rfl (zg zz rfl)) ?_
  exact ze rfl (h _ _ (rfl) rfl)
def ply27_o0 : Oper := ⟨some 144, .move (.tmp 8), 4, "law.go:73", #[], none⟩
def ply27_o1 : Oper := ⟨some 145, .unOp UnOp.not 4 (.tmp 144), 4, "law.go:73", #[⟨0, .data⟩], none⟩
def ply27_o2 : Oper := ⟨some 146, .move (.tmp 145), 4, "law.go:73", #[⟨1, .data⟩], none⟩
def ply27_o3 : Oper := ⟨some 147, .move (.tmp 3), 25, "law.go:73", #[⟨2, .guard⟩], some (2, false)⟩
def ply27_o4 : Oper := ⟨some 148, .move (.tmp 9), 3, "law.go:73", #[⟨2, .guard⟩], some (2, false)⟩
def ply27_o5 : Oper := ⟨some 149, .indexAddr 25 (.tmp 147) (.tmp 148), 0, "law.go:73", #[⟨3, .data⟩, ⟨4, .data⟩, ⟨2, .guard⟩], some (2, false)⟩
def ply27_o6 : Oper := ⟨some 150, .load 23 (.tmp 149), 23, "law.go:73", #[⟨5, .data⟩, ⟨2, .guard⟩], some (2, false)⟩
def ply27_o7 : Oper := ⟨some 151, .binOp BinOp.eql 23 (.tmp 150) (Operand.const (Value.pointer none)) 23, 4, "law.go:73", #[⟨6, .data⟩, ⟨2, .guard⟩], some (2, false)⟩
def ply27_o8 : Oper := ⟨some 152, .move (.tmp 4), 28, "law.go:73", #[⟨2, .guard⟩], some (2, false)⟩
def ply27_o9 : Oper := ⟨some 153, .move (.tmp 9), 3, "law.go:73", #[⟨2, .guard⟩], some (2, false)⟩
def ply27_o10 : Oper := ⟨some 154, .indexAddr 28 (.tmp 152) (.tmp 153), 0, "law.go:73", #[⟨8, .data⟩, ⟨9, .data⟩, ⟨2, .guard⟩], some (2, false)⟩
def ply27_o11 : Oper := ⟨some 155, .load 26 (.tmp 154), 26, "law.go:73", #[⟨10, .data⟩, ⟨2, .guard⟩], some (2, false)⟩
def ply27_o12 : Oper := ⟨some 156, .binOp BinOp.eql 26 (.tmp 155) (Operand.const (Value.pointer none)) 26, 4, "law.go:73", #[⟨11, .data⟩, ⟨2, .guard⟩], some (2, false)⟩
def ply27_o13 : Oper := ⟨some 157, .binOp BinOp.neq 4 (.tmp 151) (.tmp 156) 4, 4, "law.go:73", #[⟨7, .data⟩, ⟨12, .data⟩, ⟨2, .guard⟩], some (2, false)⟩
def ply27_o14 : Oper := ⟨some 158, .pick (.tmp 146) (Operand.const (Value.bool true)) (.tmp 157), 4, "law.go:73", #[⟨2, .data⟩, ⟨13, .data⟩], none⟩
def ply27_ops : Array Oper := #[ply27_o0, ply27_o1, ply27_o2, ply27_o3, ply27_o4, ply27_o5, ply27_o6, ply27_o7, ply27_o8, ply27_o9, ply27_o10, ply27_o11, ply27_o12, ply27_o13, ply27_o14]
theorem ply27 {ssb msb m sc mc i : Nat} {p q : Option Addr} (a : Act) (w : World) (Q : Exit → Act → World → Prop) (zz : a.tmps.size = 176)
    (t8 : a.tmps.getD 8 undef = .bool true)
    (t3 : a.tmps.getD 3 undef = .slice (some ⟨ssb, 0, none⟩) m sc)
    (t4 : a.tmps.getD 4 undef = .slice (some ⟨msb, 0, none⟩) m mc)
    (t9 : a.tmps.getD 9 undef = .int .i64 (i : Int))
    (hi : i < m) (hm : m ≤ 1400000000001) (hpq : p.isNone = q.isNone) (h1 : w.drew.cell? ⟨ssb, i, none⟩ = some (.pointer p)) (h2 : w.drew.cell? ⟨msb, i, none⟩ = some (.pointer q))
    (h : ∀ (a' : Act) (w' : World), w' = w.drew → a' = (((((((((((((((a).put (some 144) (.bool true)).put (some 145) (.bool false)).put (some 146) (.bool false)).put (some 147) (.slice (some ⟨ssb, 0, none⟩) m sc)).put (some 148) (.int .i64 (i : Int))).put (some 149) (.pointer (some ⟨ssb, i, none⟩))).put (some 150) (.pointer p)).put (some 151) (.bool p.isNone)).put (some 152) (.slice (some ⟨msb, 0, none⟩) m mc)).put (some 153) (.int .i64 (i : Int))).put (some 154) (.pointer (some ⟨msb, i, none⟩))).put (some 155) (.pointer q)).put (some 156) (.bool q.isNone)).put (some 157) (.bool false)).put (some 158) (.bool false) → Q .normal a' w') :
    (Code.region 27 ply27_ops true).wp Try.prog Q a w := by
  refine y0 (fun w' => w' = w.drew) (rfl) (fun hHeld => ?_)
  refine yv 0 rfl rfl (fun w1 hw => exec_move rfl (zi t8 rfl)) hHeld ?_
  refine yv 1 rfl rfl (fun w1 hw => exec_not rfl (zg zz rfl)) hHeld ?_
  refine yv 2 rfl rfl (fun w1 hw => exec_move rfl (zg zz rfl)) hHeld ?_
  refine yv 3 rfl (zw zz rfl rfl rfl (zg zz rfl)) (fun w1 hw => exec_move rfl (zi t3 rfl)) hHeld ?_
  refine yv 4 rfl (zw zz rfl rfl rfl (zg zz rfl)) (fun w1 hw => exec_move rfl (zi t9 rfl)) hHeld ?_
  refine yv 5 rfl (zw zz rfl rfl rfl (zg zz rfl)) (fun w1 hw => exec_indexAt rfl (zg zz rfl) (zg zz rfl) (ix_sp hi hm _)) hHeld ?_
  refine yv 6 rfl (zw zz rfl rfl rfl (zg zz rfl)) (fun w1 hw => exec_load rfl (zg zz rfl) (ld_sp (by rw [hw]; exact h1))) hHeld ?_
  refine yv (v := .bool p.isNone) 7 rfl (zw zz rfl rfl rfl (zg zz rfl)) (fun w1 hw => ex_nils rfl (zg zz rfl) rfl) hHeld ?_
  refine yv 8 rfl (zw zz rfl rfl rfl (zg zz rfl)) (fun w1 hw => exec_move rfl (zi t4 rfl)) hHeld ?_
  refine yv 9 rfl (zw zz rfl rfl rfl (zg zz rfl)) (fun w1 hw => exec_move rfl (zi t9 rfl)) hHeld ?_
  refine yv 10 rfl (zw zz rfl rfl rfl (zg zz rfl)) (fun w1 hw => exec_indexAt rfl (zg zz rfl) (zg zz rfl) (ix_mp hi hm _)) hHeld ?_
  refine yv 11 rfl (zw zz rfl rfl rfl (zg zz rfl)) (fun w1 hw => exec_load rfl (zg zz rfl) (ld_mp (by rw [hw]; exact h2))) hHeld ?_
  refine yv (v := .bool q.isNone) 12 rfl (zw zz rfl rfl rfl (zg zz rfl)) (fun w1 hw => ex_nilm rfl (zg zz rfl) rfl) hHeld ?_
  refine yv (v := .bool false) 13 rfl (zw zz rfl rfl rfl (zg zz rfl)) (fun w1 hw => ex_neqB (g := p.isNone) rfl (zg zz rfl) ((zg zz rfl).trans (by rw [hpq]))) hHeld ?_
  refine yv 14 rfl rfl (fun w1 hw => exec_pickF rfl (zg zz rfl) (zg zz rfl)) hHeld ?_
  exact ye rfl (h _ _ (hHeld) rfl)
def ply33_o0 : Oper := ⟨some 166, .move (.tmp 3), 25, "law.go:78", #[], none⟩
def ply33_o1 : Oper := ⟨some 167, .move (.tmp 10), 3, "law.go:78", #[], none⟩
def ply33_o2 : Oper := ⟨some 168, .indexAddr 25 (.tmp 166) (.tmp 167), 0, "law.go:78", #[⟨0, .data⟩, ⟨1, .data⟩], none⟩
def ply33_o3 : Oper := ⟨some 169, .load 23 (.tmp 168), 23, "law.go:78", #[⟨2, .data⟩], none⟩
def ply33_o4 : Oper := ⟨some 170, .move (.tmp 4), 28, "law.go:78", #[], none⟩
def ply33_o5 : Oper := ⟨some 171, .move (.tmp 10), 3, "law.go:78", #[], none⟩
def ply33_o6 : Oper := ⟨some 172, .indexAddr 28 (.tmp 170) (.tmp 171), 0, "law.go:78", #[⟨4, .data⟩, ⟨5, .data⟩], none⟩
def ply33_o7 : Oper := ⟨some 173, .load 26 (.tmp 172), 26, "law.go:78", #[⟨6, .data⟩], none⟩
def ply33_o8 : Oper := ⟨some 174, .call { callee := Callee.value (Operand.func 20), args := #[.tmp 169, .tmp 173], argTypes := #[23, 26] }, 4, "law.go:78", #[⟨3, .data⟩, ⟨7, .data⟩], none⟩
def ply33_o9 : Oper := ⟨some 175, .unOp UnOp.not 4 (.tmp 174), 4, "law.go:78", #[⟨8, .data⟩], none⟩
def ply33_ops : Array Oper := #[ply33_o0, ply33_o1, ply33_o2, ply33_o3, ply33_o4, ply33_o5, ply33_o6, ply33_o7, ply33_o8, ply33_o9]
theorem ply33 {ssb msb m sc mc i : Nat} {p q : Option Addr} (Fin : World → Prop) (a : Act) (w : World) (Q : Exit → Act → World → Prop) (zz : a.tmps.size = 176)
    (t3 : a.tmps.getD 3 undef = .slice (some ⟨ssb, 0, none⟩) m sc)
    (t4 : a.tmps.getD 4 undef = .slice (some ⟨msb, 0, none⟩) m mc)
    (t10 : a.tmps.getD 10 undef = .int .i64 (i : Int))
    (hi : i < m) (hm : m ≤ 1400000000001) (h0 : w.drew.cell? ⟨ssb, i, none⟩ = some (.pointer p) ∧ w.drew.cell? ⟨msb, i, none⟩ = some (.pointer q)) (CL : Calls Try.prog 20 #[.pointer p, .pointer q] w.drew fun e w' => e = .returned (.bool true) ∧ (w'.cell? ⟨ssb, i, none⟩ = some (.pointer p) ∧ w'.cell? ⟨msb, i, none⟩ = some (.pointer q)) ∧ Fin w')
    (h : ∀ (a' : Act) (w' : World), Fin w' → a' = ((((((((((a).put (some 166) (.slice (some ⟨ssb, 0, none⟩) m sc)).put (some 167) (.int .i64 (i : Int))).put (some 168) (.pointer (some ⟨ssb, i, none⟩))).put (some 169) (.pointer p)).put (some 170) (.slice (some ⟨msb, 0, none⟩) m mc)).put (some 171) (.int .i64 (i : Int))).put (some 172) (.pointer (some ⟨msb, i, none⟩))).put (some 173) (.pointer q)).put (some 174) (.bool true)).put (some 175) (.bool false) → Q .normal a' w') :
    (Code.region 33 ply33_ops true).wp Try.prog Q a w := by
  refine y0 (fun w' => w'.cell? ⟨ssb, i, none⟩ = some (.pointer p) ∧ w'.cell? ⟨msb, i, none⟩ = some (.pointer q)) (h0) (fun hHeld => ?_)
  refine yv 0 rfl rfl (fun w1 hw => exec_move rfl (zi t3 rfl)) hHeld ?_
  refine yv 1 rfl rfl (fun w1 hw => exec_move rfl (zi t10 rfl)) hHeld ?_
  refine yv 2 rfl rfl (fun w1 hw => exec_indexAt rfl (zg zz rfl) (zg zz rfl) (ix_sp hi hm _)) hHeld ?_
  refine yv 3 rfl rfl (fun w1 hw => exec_load rfl (zg zz rfl) (ld_sp hw.1)) hHeld ?_
  refine yv 4 rfl rfl (fun w1 hw => exec_move rfl (zi t4 rfl)) hHeld ?_
  refine yv 5 rfl rfl (fun w1 hw => exec_move rfl (zi t10 rfl)) hHeld ?_
  refine yv 6 rfl rfl (fun w1 hw => exec_indexAt rfl (zg zz rfl) (zg zz rfl) (ix_mp hi hm _)) hHeld ?_
  refine yv 7 rfl rfl (fun w1 hw => exec_load rfl (zg zz rfl) (ld_mp hw.2)) hHeld ?_
  refine yc 8 rfl rfl (exec_c2 rfl (zg zz rfl) (zg zz rfl)) (CL) (fun e x8 hx => ?_)
  obtain ⟨rfl, HF⟩ := hx
  refine ⟨_, rfl, HF.1, fun hHeld => ?_⟩
  refine yv 9 rfl rfl (fun w1 hw => exec_not rfl (zg zz rfl)) hHeld ?_
  exact ye rfl (h _ _ (HF.2) rfl)
end Go.Proofs.Ytpdepbakopdgpaa
