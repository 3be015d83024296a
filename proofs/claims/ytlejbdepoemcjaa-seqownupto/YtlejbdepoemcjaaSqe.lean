import Derived.Test.YtlejbdepoemcjaaSqd
namespace Go.Proofs.Ytlejbdepoemcjaa
open Go.RowKit Sq
set_option linter.unusedVariables false
set_option linter.unusedSimpArgs false

theorem countP_filter_ne {E : List Elt} {k x : IdK} (nd : (E.map (·.id)).Nodup) {e : Elt} (he : e ∈ E) (hk : e.id = k) : folE E x = (if e.bh = x then 1 else 0) + folE (remE E k) x := by
  induction E with
  | nil => cases he
  | cons a E ih =>
    rw [List.map_cons, List.nodup_cons] at nd
    unfold folE remE at ih ⊢
    rcases List.mem_cons.1 he with rfl | he
    · have hE : E.filter (fun y => !decide (y.id = k)) = E := List.filter_eq_self.2 fun y hy => by
        have : y.id ≠ k := fun q => nd.1 (by rw [hk, ← q]; exact List.mem_map.2 ⟨y, hy, rfl⟩)
        simpa using this
      rw [List.filter_cons, hk]
      simp only [decide_true, Bool.not_true, Bool.false_eq_true, if_false]
      rw [hE, List.countP_cons, Nat.add_comm]
      congr 1
      simp
    · have hak : a.id ≠ k := fun q => nd.1 (by rw [q, ← hk]; exact List.mem_map.2 ⟨e, he, rfl⟩)
      rw [List.filter_cons, if_pos (show (!decide (a.id = k)) = true by simpa using hak), List.countP_cons, List.countP_cons, ih nd.2 he]
      omega
theorem ids_of {s : Sx} {E : List Elt} (h : Lk s E) : E.map (·.id) = s.t.ids.map (fun j => (gt s.L j).kp.id) := by
  rw [h.e, elts, List.map_map]
  rfl
/-- Take: what comes of it. -/
theorem Lk.take {s : Sx} {E : List Elt} (h : Lk s E) (hN : (s.N.map (·.1)).Nodup) {k : IdK} {i j n : Nat} (hk : hasE E k = true) (hf : folE E k = 0) (hi : spotOf s k = i) (hj : spotOf s (gt s.L i).kp.bh = j) (hn : s.L.length = n + 1) {L' : List Sp} {t' : T}
    (o : Outs (setFol s.L j ((gt s.L j).kp.fol - 1)) s.t i n L' t') : Lk { s with L := L', t := t', N := if i < n then M.put (M.del s.N k) (gt L' i).kp.id i else M.del s.N k } (remE E k) := by
  obtain ⟨hs1, hs2⟩ := h.spot hk
  rw [hi] at hs1 hs2
  obtain ⟨hg, hl, ⟨A, B, e1, e2⟩, hkp⟩ := o
  obtain ⟨hi0, hil⟩ := h.good.lt hs1
  have hbh : (gt s.L i).kp.bh = zId ∨ hasE E (gt s.L i).kp.bh = true := h.ok.bh (eltAt s.L i) (by rw [h.e, elts]; exact List.mem_map.2 ⟨i, hs1, rfl⟩)
  obtain ⟨hj1, hj2⟩ := h.spotIs hbh
  rw [hj] at hj1 hj2
  have hbk : (gt s.L i).kp.bh ≠ k := fun q => by
    have : 0 < folE E k := List.countP_pos_iff.2 ⟨eltAt s.L i, by rw [h.e, elts]; exact List.mem_map.2 ⟨i, hs1, rfl⟩, decide_eq_true q⟩
    omega
  have hji : j ≠ i := fun q => by rw [q, hs2] at hj2; exact hbk hj2.symm
  have nd := h.good.nodup
  have ndi : ∀ x ∈ A ++ B, x ≠ i := fun x hx q => by
    rw [e1, List.nodup_append] at nd
    rcases List.mem_append.1 hx with hx | hx
    · exact nd.2.2 x hx i (by simp) q
    · have := nd.2.1
      rw [List.nodup_cons] at this
      exact this.1 (q ▸ hx)
  have memAB : ∀ x, x ∈ s.t.ids ↔ x = i ∨ x ∈ A ++ B := fun x => by
    rw [e1]
    simp only [List.mem_append, List.mem_cons]
    constructor
    · rintro (q | q | q)
      · exact .inr (.inl q)
      · exact .inl q
      · exact .inr (.inr q)
    · rintro (q | q | q)
      · exact .inr (.inl q)
      · exact .inl q
      · exact .inr (.inr q)
  obtain ⟨src, hsrc⟩ : ∃ src : Nat → Nat, src = fun m => if m = i then n else m := ⟨_, rfl⟩
  have new : ∀ m, m < n → (gt L' m).kp.id = (gt s.L (src m)).kp.id ∧ eltAt L' m = eltAt s.L (src m) ∧ (gt L' m).kp.fol = if j = src m then (gt s.L j).kp.fol - 1 else (gt s.L (src m)).kp.fol := fun m hm => by
    obtain ⟨k1, k2⟩ := hkp m hm
    have es : (if m = i then n else m) = src m := by rw [hsrc]
    rw [es] at k1 k2
    obtain ⟨f1, f2, _, _, f5, f6⟩ := setFol_gt s.L j ((gt s.L j).kp.fol - 1) (src m)
    refine ⟨by rw [k1, f1], by unfold eltAt; rw [k1, k2, f1, f2, f5], ?_⟩
    rw [k1, f6]
    by_cases q : j = src m
    · rw [if_pos ⟨q, by
        rcases hj1 with rfl | q
        · omega
        · exact (h.good.lt q).2⟩, if_pos q]
    · rw [if_neg (fun q2 => q q2.1), if_neg q]
  -- where the spots of the tree come from
  have mem' : ∀ m, m ∈ t'.ids → m < n ∧ src m ∈ s.t.ids ∧ src m ≠ i := fun m hm => by
    have hmn : m < n := by rw [← hl]; exact (hg.lt hm).2
    rw [e2] at hm
    obtain ⟨x, hx, rfl⟩ := List.mem_map.1 hm
    refine ⟨hmn, ?_⟩
    have hxi := ndi x hx
    by_cases q : x = n
    · have : src (if x = n then i else x) = n := by rw [hsrc, if_pos q]; simp
      rw [this]
      exact ⟨(memAB n).2 (.inr (q ▸ hx)), fun q2 => hxi (q.trans q2)⟩
    · have : src (if x = n then i else x) = x := by rw [hsrc, if_neg q]; simp [hxi]
      rw [this]
      exact ⟨(memAB x).2 (.inr hx), hxi⟩
  have mem2 : ∀ x, x ∈ s.t.ids → x ≠ i → ∃ m, m ∈ t'.ids ∧ src m = x ∧ m = if x = n then i else x := fun x hx hxi => by
    have hx' : x ∈ A ++ B := ((memAB x).1 hx).resolve_left hxi
    refine ⟨if x = n then i else x, by rw [e2]; exact List.mem_map.2 ⟨x, hx', rfl⟩, ?_, rfl⟩
    rw [hsrc]
    by_cases q : x = n
    · rw [if_pos q]; simp [q]
    · rw [if_neg q]; simp [hxi]
  have hE : remE E k = elts L' t' := by
    have eE : E = A.map (eltAt s.L) ++ eltAt s.L i :: B.map (eltAt s.L) := by rw [h.e, elts, e1, List.map_append, List.map_cons]
    have keep : ∀ l : List Nat, (∀ x ∈ l, x ∈ A ++ B) → (l.map (eltAt s.L)).filter (fun e => !decide (e.id = k)) = l.map (eltAt s.L) := fun l hl => List.filter_eq_self.2 fun y hy => by
      obtain ⟨x, hx, rfl⟩ := List.mem_map.1 hy
      have : (eltAt s.L x).id ≠ k := fun q => ndi x (hl x hx) (h.inj ((memAB x).2 (.inr (hl x hx))) hs1 (q.trans hs2.symm))
      simpa using this
    have e3 : elts L' t' = (A ++ B).map (eltAt s.L) := by
      unfold elts
      rw [e2, List.map_map]
      refine List.map_congr_left fun x hx => ?_
      have hm : (if x = n then i else x) ∈ t'.ids := by rw [e2]; exact List.mem_map.2 ⟨x, hx, rfl⟩
      simp only [Function.comp]
      rw [(new _ (mem' _ hm).1).2.1]
      congr 1
      obtain ⟨m, _, q1, q2⟩ := mem2 x ((memAB x).2 (.inr hx)) (ndi x hx)
      rw [← q2]
      exact q1
    rw [e3, eE]
    unfold remE
    rw [List.filter_append, List.filter_cons, keep A (fun x hx => by simp [hx]), keep B (fun x hx => by simp [hx])]
    have : (!decide ((eltAt s.L i).id = k)) = false := by rw [decide_eq_true (show (eltAt s.L i).id = k from hs2)]; rfl
    rw [this]
    simp
  have hdel := fun k' => M.del_look s.N k hN k'
  have hdn := M.del_keys s.N k hN
  have hzn : 0 < n := by omega
  have src0 : src 0 = 0 := by rw [hsrc]; simp [Ne.symm hi0]
  refine ⟨hg, hE, h.ok.rem hf, fun k' m => ?_, ?_, fun m hm => ?_⟩
  · show M.look (if i < n then M.put (M.del s.N k) (gt L' i).kp.id i else M.del s.N k) k' = some m ↔ m ∈ t'.ids ∧ (gt L' m).kp.id = k'
    have back : (m ∈ t'.ids ∧ (gt L' m).kp.id = k') → ∃ x, x ∈ s.t.ids ∧ x ≠ i ∧ (gt s.L x).kp.id = k' ∧ src m = x := fun ⟨q1, q2⟩ => by
      obtain ⟨a1, a2, a3⟩ := mem' m q1
      exact ⟨src m, a2, a3, by rw [← (new m a1).1]; exact q2, rfl⟩
    by_cases hin : i < n
    · rw [if_pos hin, M.put_look _ _ _ hdn, hdel]
      have sri : src i = n := by rw [hsrc]; simp
      have hid : (gt L' i).kp.id = (gt s.L n).kp.id := by rw [(new i hin).1, sri]
      have hnt : n ∈ s.t.ids := h.good.all n (by omega) (by omega)
      rw [hid]
      by_cases q : k' = (gt s.L n).kp.id
      · rw [if_pos q]
        constructor
        · intro q2
          simp only [Option.some.injEq] at q2
          subst q2
          obtain ⟨m, q3, q4, q5⟩ := mem2 n hnt (by omega)
          rw [if_pos rfl] at q5
          subst q5
          exact ⟨q3, hid.trans q.symm⟩
        · intro q2
          obtain ⟨x, b1, b2, b3, b4⟩ := back q2
          have := h.inj b1 hnt (b3.trans q)
          subst this
          have hm1 := (mem' m q2.1).1
          rw [hsrc] at b4
          simp only at b4
          by_cases q6 : m = i
          · rw [q6]
          · rw [if_neg q6] at b4; omega
      · rw [if_neg q]
        by_cases q7 : k' = k
        · rw [if_pos q7]
          constructor
          · intro q2; cases q2
          · intro q2
            obtain ⟨x, b1, b2, b3, b4⟩ := back q2
            exact absurd (h.inj b1 hs1 (b3.trans (q7.trans hs2.symm))) b2
        · rw [if_neg q7, h.map]
          constructor
          · rintro ⟨q1, q2⟩
            have hmi : m ≠ i := fun q3 => q7 (by rw [← q2, q3, hs2])
            have hmn : m ≠ n := fun q3 => q (by rw [← q2, q3])
            obtain ⟨m2, q3, q4, q5⟩ := mem2 m q1 hmi
            rw [if_neg hmn] at q5
            subst q5
            exact ⟨q3, by rw [(new m2 (mem' m2 q3).1).1, q4]; exact q2⟩
          · intro q2
            obtain ⟨x, b1, b2, b3, b4⟩ := back q2
            rw [hsrc] at b4
            simp only at b4
            by_cases q6 : m = i
            · rw [if_pos q6] at b4
              subst b4
              exact absurd b3.symm q
            · rw [if_neg q6] at b4
              subst b4
              exact ⟨b1, b3⟩
    · rw [if_neg hin, hdel]
      have hin' : i = n := by omega
      by_cases q7 : k' = k
      · rw [if_pos q7]
        constructor
        · intro q2; cases q2
        · intro q2
          obtain ⟨x, b1, b2, b3, b4⟩ := back q2
          exact absurd (h.inj b1 hs1 (b3.trans (q7.trans hs2.symm))) b2
      · rw [if_neg q7, h.map]
        constructor
        · rintro ⟨q1, q2⟩
          have hmi : m ≠ i := fun q3 => q7 (by rw [← q2, q3, hs2])
          obtain ⟨m2, q3, q4, q5⟩ := mem2 m q1 hmi
          rw [if_neg (by omega)] at q5
          subst q5
          exact ⟨q3, by rw [(new m2 (mem' m2 q3).1).1, q4]; exact q2⟩
        · intro q2
          obtain ⟨x, b1, b2, b3, b4⟩ := back q2
          have hm1 := (mem' m q2.1).1
          rw [hsrc] at b4
          simp only at b4
          rw [if_neg (by omega)] at b4
          subst b4
          exact ⟨b1, b3⟩
  · show (gt L' 0).kp.id = zId
    rw [(new 0 hzn).1, src0]; exact h.zid
  · show (gt L' m).kp.fol = (folE (remE E k) (gt L' m).kp.id : Int)
    have hm' : m < n ∧ (src m = 0 ∨ src m ∈ s.t.ids) := by
      rcases hm with rfl | q
      · exact ⟨hzn, .inl src0⟩
      · exact ⟨(mem' m q).1, .inr (mem' m q).2.1⟩
    have hfx := fun x => countP_filter_ne (x := x) (e := eltAt s.L i) (h.ok.nd) (by rw [h.e, elts]; exact List.mem_map.2 ⟨i, hs1, rfl⟩) hs2
    rw [(new m hm'.1).2.2, (new m hm'.1).1]
    have fx := h.fol (src m) hm'.2
    have fx2 := hfx (gt s.L (src m)).kp.id
    by_cases q : j = src m
    · rw [if_pos q, q, fx, fx2, if_pos (show (eltAt s.L i).bh = (gt s.L (src m)).kp.id by rw [← q]; exact hj2.symm)]
      omega
    · rw [if_neg q, fx, fx2, if_neg (show ¬ (eltAt s.L i).bh = (gt s.L (src m)).kp.id from fun q2 => q (h.inj0 hj1 hm'.2 (hj2.trans q2)))]
      omega
end Go.Proofs.Ytlejbdepoemcjaa
