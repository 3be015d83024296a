import Derived.Test.YtpdepbakopdgpaaP0
set_option maxRecDepth 100000
set_option maxHeartbeats 4000000
namespace Go.Proofs.Ytpdepbakopdgpaa
open Go.RowKit Sq
set_option linter.unusedVariables false
set_option linter.unusedSimpArgs false
def idsE (E : List Elt) (c : Bool) : List IdK := (visE E c).map (·.id)
structure BK (w : World) (s : Sx) (E : List Elt) (Ls : List (Value × List IdK)) (W : World) : Prop where
  sq : SeqAt W s E
  lo : ∀ j ∈ s.bl, w.heap.size ≤ j
  bel : Below w.heap.size w W
  ls : ∀ p ∈ Ls, OwnI W w.heap.size p.1 p.2 ∧ (∀ x ∈ p.2, x.ok) ∧ p.2.length ≤ 1400000000000 ∧ ∀ k, p.1.ownBlock = some k → k ∉ s.bl
section
variable {w W : World} {s : Sx} {E : List Elt} {Ls : List (Value × List IdK)}
theorem OwnI.lt {w : World} {base : Nat} {v : Value} {l : List IdK} (h : OwnI w base v l) {k : Nat} (hk : v.ownBlock = some k) : k < w.heap.size := by
  obtain ⟨_, c, t, q, e⟩ := h.cells hk
  exact (Array.getElem?_eq_some_iff.1 e).1
theorem BK.below {W' : World} (h : BK w s E Ls W) (b : Below W.heap.size W W') : BK w s E Ls W' :=
  ⟨h.sq.below b, h.lo, h.bel.trans (b.mono h.bel.size), fun p hp => ⟨(h.ls p hp).1.below b, (h.ls p hp).2⟩⟩
theorem BK.nxt {W' : World} {s' : Sx} {E' : List Elt} (h : BK w s E Ls W) (nx : Nxt s W s' E' W') : BK w s' E' Ls W' := by
  have bb : Below w.heap.size W W' := nx.tch.belowS h.bel.size h.lo
  refine ⟨nx.at', fun j hj => ?_, h.bel.trans bb, fun p hp => ?_⟩
  · rcases nx.bl j hj with q | q
    · exact h.lo j q
    · exact Nat.le_trans h.bel.size q
  · obtain ⟨a1, a2, a3, a4⟩ := h.ls p hp
    refine ⟨a1.keep (fun k hk => nx.tch.block k (a1.lt hk) (a4 k hk)), a2, a3, fun k hk hj => ?_⟩
    rcases nx.bl k hj with q | q
    · exact a4 k hk q
    · have := a1.lt hk; omega
theorem BK.add {W' : World} {v : Value} {c : Bool} (h : BK w s E Ls W) (o : OwnI W' W.heap.size v (idsE E c)) (b : Below W.heap.size W W') : BK w s E ((v, idsE E c) :: Ls) W' := by
  have h' := h.below b
  refine ⟨h'.sq, h'.lo, h'.bel, fun p hp => ?_⟩
  rcases List.mem_cons.1 hp with rfl | hp
  · have hl : (visE E c).length ≤ E.length := List.length_filter_le _ _
    have := h.sq.lk.len
    have := h.sq.row.len
    refine ⟨⟨o.1, ?_⟩, fun x hx => ?_, by simp [idsE]; omega, fun k hk hj => ?_⟩
    · rcases o.2 with q | ⟨g, cap, cur, e, hb, r⟩
      · exact .inl q
      · exact .inr ⟨g, cap, cur, e, Nat.le_trans h.bel.size hb, r⟩
    · obtain ⟨e, he, rfl⟩ := List.mem_map.1 hx
      exact (h.sq.lk.ok.ok e (List.mem_filter.1 he).1).1
    · have := h.sq.lt k hj
      have := (o.cells hk).1
      omega
  · exact h'.ls p hp
theorem BK.ids (h : BK w s E Ls W) : Calls Try.prog 24 #[.pointer (some ⟨s.sb, 0, none⟩)] W fun e w' => ∃ v n c, e = .returned (.slice v n c) ∧ (n = (idsE E false).length ∧ n ≤ 1400000000000) ∧ BK w s E ((.slice v n c, idsE E false) :: Ls) w' := by
  refine (ids_any h.sq).mono ?_
  rintro e w' ⟨v, rfl, o, b⟩
  have h2 := h.add o b
  obtain ⟨a, c, rfl, _, _⟩ := o.open (h2.ls (v, idsE E false) (by simp)).2.1
  exact ⟨a, _, c, rfl, ⟨rfl, (h2.ls _ (List.mem_cons_self ..)).2.2.1⟩, h2⟩
theorem BK.same (h : BK w s E Ls W) {u v : Value} {A B : List IdK} (h1 : (u, A) ∈ Ls) (h2 : (v, B) ∈ Ls) : Calls Try.prog 26 #[u, v] W fun e w' => e = .returned (.bool (decide (A = B))) ∧ BK w s E Ls w' := by
  obtain ⟨a1, a2, a3, _⟩ := h.ls _ h1
  obtain ⟨b1, b2, b3, _⟩ := h.ls _ h2
  simp only at a1 a2 a3 b1 b2 b3
  obtain ⟨a, ca, rfl, ia, _⟩ := OwnI.open a1 a2
  obtain ⟨b, cb, rfl, ib, _⟩ := OwnI.open b1 b2
  refine (same_ids a b ca cb A B W ia ib a2 b2 (by omega)).mono ?_
  rintro e w' ⟨rfl, bb⟩
  exact ⟨rfl, h.below bb⟩
end
theorem insC_zero {E : List Elt} {k b : IdK} (h : insC E k b = 0) : 1 ≤ k.n ∧ hasE E k = false ∧ (b = zId ∨ hasE E b = true) := by
  unfold insC at h
  split at h
  · cases h
  · next h1 =>
    split at h
    · cases h
    · next h2 =>
      split at h
      · cases h
      · next h3 =>
        refine ⟨by omega, by simpa using h2, ?_⟩
        by_cases q : b = zId
        · exact .inl q
        · refine .inr ?_
          cases r : hasE E b with
          | true => rfl
          | false => exact absurd ⟨q, r⟩ h3
theorem laid_seqok (l : List PutV) (ok : ∀ x ∈ l, x.ok) : SeqOk (laidP l).1 := by
  revert ok
  refine snoc_ind (P := fun l => (∀ x ∈ l, x.ok) → SeqOk (laidP l).1) (fun _ => ⟨by simp [laidP], by simp [laidP], by simp [laidP]⟩) (fun l p ih ok => ?_) l
  have ih := ih (fun x hx => ok x (by simp [hx]))
  have hp := ok p (by simp)
  rw [laidP_snoc]
  unfold layS
  split
  · next h =>
    obtain ⟨h1, h2, h3⟩ := insC_zero h
    unfold insR
    rw [if_pos h]
    exact ih.put (x := ⟨p.id, p.bh, true⟩) ⟨hp.id, hp.bh, h1⟩ h2 h3
  · exact ih
end Go.Proofs.Ytpdepbakopdgpaa
namespace Go.Proofs.Ytpdepbakopdgpaa
open Go.RowKit Sq
set_option linter.unusedVariables false
set_option linter.unusedSimpArgs false
theorem visE_all (E : List Elt) : visE E false = E := List.filter_eq_self.2 fun x _ => rfl
theorem szIdR (w : World) : (sizeOf 32).run Try.prog w = .ok 33 w := m_sz szId w
theorem IdsAt.take {w : World} {a : Option Addr} {L : List IdK} (h : IdsAt w a L) (n : Nat) : IdsAt w a (L.take n) := by
  rcases h with rfl | ⟨b, o, e, hl, hr⟩
  · exact .inl (by simp)
  · exact .inr ⟨b, o, e, hl, fun i x hx => hr i x (by rw [List.getElem?_take] at hx; split at hx; exact hx; cases hx)⟩
theorem OwnI.upto {w : World} {base : Nat} {v : Value} {L : List IdK} (h : OwnI w base v L) (ok : ∀ x ∈ L, x.ok) {n : Nat} (hn : n ≤ L.length) (hl : L.length ≤ 1400000000000) : ∃ a c, (∀ W, (Instr.sliceAt 47 v none (some (.int .i64 (n : Int))) none).run Try.prog W = .ok (.slice a n c) W) ∧ IdsAt w a (L.take n) := by
  obtain ⟨a, c, rfl, hat, hc⟩ := h.open ok
  have h1 : (0 : Int) ≤ (n : Int) ∧ (n : Int) ≤ (c : Int) := by omega
  refine ⟨a, c, fun W => ?_, hat.take n⟩
  cases a with
  | none =>
    simp only [Instr.sliceAt, Instr.slice, Instr.sliceBounds, Instr.sliceBound, run_underlying Try.underlying47, asIntOf, Sem.run_bind, Sem.run_pure, Result.andThen_ok, szIdR]
    rw [if_pos h1]
    simp only [Sem.run_bind, Sem.run_pure, Result.andThen_ok, Int.toNat_natCast]
    simp
  | some ad =>
    simp only [Instr.sliceAt, Instr.slice, Instr.sliceBounds, Instr.sliceBound, run_underlying Try.underlying47, asIntOf, Sem.run_bind, Sem.run_pure, Result.andThen_ok, szIdR]
    rw [if_pos h1]
    simp only [Sem.run_bind, Sem.run_pure, Result.andThen_ok, Int.toNat_natCast]
    obtain ⟨b, o, sp⟩ := ad
    simp [Addr.add]
theorem OwnI.from {w : World} {base : Nat} {v : Value} {L : List IdK} (h : OwnI w base v L) (ok : ∀ x ∈ L, x.ok) {n : Nat} (hn : n ≤ L.length) (hl : L.length ≤ 1400000000000) : ∃ a c, (∀ W, (Instr.sliceAt 47 v (some (.int .i64 (n : Int))) none none).run Try.prog W = .ok (.slice a (L.length - n) c) W) ∧ IdsAt w a (L.drop n) := by
  obtain ⟨a, c, rfl, hat, hc⟩ := h.open ok
  have h2 : (0 : Int) ≤ (n : Int) ∧ (n : Int) ≤ (L.length : Int) := by omega
  cases a with
  | none =>
    refine ⟨none, c - n, fun W => ?_, ?_⟩
    · simp only [Instr.sliceAt, Instr.slice, Instr.sliceBounds, Instr.sliceBound, run_underlying Try.underlying47, asIntOf, Sem.run_bind, Sem.run_pure, Result.andThen_ok, szIdR]
      rw [if_pos h2]
      simp only [Sem.run_bind, Sem.run_pure, Result.andThen_ok, Int.toNat_natCast]
      simp
    · rcases hat with q | ⟨b, o, e, _⟩
      · exact .inl (by rw [q]; simp)
      · cases e
  | some ad =>
    by_cases e : c = n
    · refine ⟨some ad, c - n, fun W => ?_, .inl (List.drop_of_length_le (by omega))⟩
      simp only [Instr.sliceAt, Instr.slice, Instr.sliceBounds, Instr.sliceBound, run_underlying Try.underlying47, asIntOf, Sem.run_bind, Sem.run_pure, Result.andThen_ok, szIdR]
      rw [if_pos h2]
      simp only [Sem.run_bind, Sem.run_pure, Result.andThen_ok, Int.toNat_natCast]
      rw [if_pos e]
    · refine ⟨some (ad.add (n * 33)), c - n, fun W => ?_, ?_⟩
      · simp only [Instr.sliceAt, Instr.slice, Instr.sliceBounds, Instr.sliceBound, run_underlying Try.underlying47, asIntOf, Sem.run_bind, Sem.run_pure, Result.andThen_ok, szIdR]
        rw [if_pos h2]
        simp only [Sem.run_bind, Sem.run_pure, Result.andThen_ok, Int.toNat_natCast]
        rw [if_neg e]
        simp
      · rcases hat with q | ⟨b, o, e2, hl2, hr⟩
        · exact .inl (by rw [q]; simp)
        · cases e2
          refine .inr ⟨b, o + n * 33, by rw [Addr.add_mid], hl2, fun i x hx => ?_⟩
          rw [List.getElem?_drop] at hx
          have := hr (n + i) x hx
          rw [show o + n * 33 + 33 * i = o + 33 * (n + i) by omega]
          exact this
theorem laid_len_eq (l : List PutV) : (laidP l).1.length = (couldP l).length := by
  rw [(could_laid l).1, List.length_map]
  refine snoc_ind (P := fun l => (laidP l).1.length = (laidP l).2.length) rfl (fun l p ih => ?_) l
  rw [laidP_snoc]
  unfold layS
  split
  · next h =>
    unfold insR
    rw [if_pos h]
    have := (putE_perm (laidP l).1 p.bh ⟨p.id, p.bh, true⟩).length_eq
    simp at this ⊢
    omega
  · exact ih
theorem BK.bare {w W : World} {s : Sx} {E : List Elt} {Ls : List (Value × List IdK)} (h : BK w s E Ls W) : BK w s E [] W := ⟨h.sq, h.lo, h.bel, fun p hp => by cases hp⟩
theorem BK.drew {w W : World} {s : Sx} {E : List Elt} {Ls : List (Value × List IdK)} (h : BK w s E Ls W) : BK w s E Ls W.drew := h.below ((Below.refl _ _).drew)
theorem BK.parts {w W : World} {s : Sx} {E : List Elt} {Ls : List (Value × List IdK)} (h : BK w s E Ls W) {u v : Value} {A B : List IdK} {n : Nat} (h1 : (u, B) ∈ Ls) (h2 : (v, A) ∈ Ls) (hn : n ≤ A.length) (hb : B.length = A.length + 1) (e1 : B.take n = A.take n) (e2 : B.drop (n + 1) = A.drop n) :
    ∃ u1 u2 u3 u4, (∀ W, (Instr.sliceAt 47 u none (some (.int .i64 (n : Int))) none).run Try.prog W = .ok u1 W) ∧ (∀ W, (Instr.sliceAt 47 v none (some (.int .i64 (n : Int))) none).run Try.prog W = .ok u2 W) ∧ (∀ W, (Instr.sliceAt 47 u (some (.int .i64 ((n + 1 : Nat) : Int))) none none).run Try.prog W = .ok u3 W) ∧ (∀ W, (Instr.sliceAt 47 v (some (.int .i64 (n : Int))) none none).run Try.prog W = .ok u4 W) ∧
    Calls Try.prog 26 #[u1, u2] W fun e w' => e = .returned (.bool true) ∧ Calls Try.prog 26 #[u3, u4] w' fun e2 w2 => e2 = .returned (.bool true) ∧ BK w s E [] w2 := by
  obtain ⟨a1, a2, a3, _⟩ := h.ls _ h1
  obtain ⟨b1, b2, b3, _⟩ := h.ls _ h2
  simp only at a1 a2 a3 b1 b2 b3
  obtain ⟨p1, q1, E1, I1⟩ := a1.upto a2 (n := n) (by omega) a3
  obtain ⟨p2, q2, E2, I2⟩ := b1.upto b2 (n := n) hn b3
  obtain ⟨p3, q3, E3, I3⟩ := a1.from a2 (n := n + 1) (by omega) a3
  obtain ⟨p4, q4, E4, I4⟩ := b1.from b2 (n := n) hn b3
  refine ⟨_, _, _, _, E1, E2, E3, E4, ?_⟩
  have l1 : (B.take n).length = n := by rw [List.length_take]; omega
  have l2 : (A.take n).length = n := by rw [List.length_take]; omega
  have l3 : (B.drop (n + 1)).length = B.length - (n + 1) := by rw [List.length_drop]
  have l4 : (A.drop n).length = A.length - n := by rw [List.length_drop]
  have s1 := same_ids p1 p2 q1 q2 (B.take n) (A.take n) W I1 I2 (fun x hx => a2 x (List.mem_of_mem_take hx)) (fun x hx => b2 x (List.mem_of_mem_take hx)) (by omega)
  rw [l1, l2, decide_eq_true e1] at s1
  refine s1.mono ?_
  rintro e w' ⟨rfl, bb⟩
  refine ⟨rfl, ?_⟩
  have s2 := same_ids p3 p4 q3 q4 (B.drop (n + 1)) (A.drop n) w' (I3.below bb) (I4.below bb) (fun x hx => a2 x (List.mem_of_mem_drop hx)) (fun x hx => b2 x (List.mem_of_mem_drop hx)) (by omega)
  rw [l3, l4, decide_eq_true e2] at s2
  refine s2.mono ?_
  rintro e w2 ⟨rfl, b2'⟩
  exact ⟨rfl, ((h.below bb).below b2').bare⟩
theorem ahead_get {F : List Elt} (ok : SeqOk F) (c : Bool) {i : Nat} (hi : i < F.length) : aheadE F c F[i].id = ((F.take i).countP (cE c) : Int) := by
  have hs : F = F.take i ++ F[i] :: F.drop (i + 1) := by rw [List.getElem_cons_drop]; exact (List.take_append_drop i F).symm
  have hh : hasE F F[i].id = true := hasE_iff.2 ⟨F[i], List.getElem_mem hi, rfl⟩
  unfold aheadE
  rw [if_pos hh]
  have e : F.takeWhile (fun e => !decide (e.id = F[i].id)) = F.take i := by
    have nd := ok.nd
    generalize F[i] = x at *
    rw [hs, List.map_append, List.map_cons, List.nodup_append] at nd
    conv => lhs; rw [hs]
    refine takeWhile_mid (fun y hy => ?_) (by simp)
    have : y.id ≠ x.id := nd.2.2 y.id (List.mem_map.2 ⟨y, hy, rfl⟩) x.id (by simp)
    simpa using this
  rw [e]
theorem cnt_all (l : List Elt) : l.countP (cE false) = l.length := List.countP_eq_length.2 fun x _ => rfl
theorem rank_get {F : List Elt} (ok : SeqOk F) {i : Nat} (hi : i < F.length) : aheadE F false F[i].id = (i : Int) := by
  rw [ahead_get ok false hi, cnt_all, List.length_take, Nat.min_eq_left (by omega)]
structure Stays (E F : List Elt) (g : IdK → Prop) : Prop where
  sub : ((E.map (·.id)).filter (fun x => hasE F x)).Sublist (F.map (·.id))
  has : ∀ x, hasE E x = true → hasE F x = false → g x
theorem Stays.refl (E : List Elt) (g : IdK → Prop) : Stays E E g := ⟨List.filter_sublist, fun x h1 h2 => by rw [h1] at h2; cases h2⟩
theorem SeqOk.ins {E : List Elt} (ok : SeqOk E) {k b : IdK} (hk : k.ok) (hb : b.ok) : SeqOk (insR E k b) := by
  unfold insR
  split
  · next h =>
    obtain ⟨h1, h2, h3⟩ := insC_zero h
    exact ok.put (x := ⟨k, b, true⟩) ⟨hk, hb, h1⟩ h2 h3
  · exact ok
theorem laid_shown (l : List PutV) : ∀ e ∈ (laidP l).1, e.sh = true := by
  refine snoc_ind (P := fun l => ∀ e ∈ (laidP l).1, e.sh = true) (by simp [laidP]) (fun l p ih => ?_) l
  rw [laidP_snoc]
  unfold layS
  split
  · next h =>
    unfold insR
    rw [if_pos h]
    intro e he
    rcases List.mem_cons.1 ((putE_perm (laidP l).1 p.bh ⟨p.id, p.bh, true⟩).mem_iff.1 he) with rfl | q
    · rfl
    · exact ih e q
  · exact ih
def hideE (E : List Elt) (l : List IdK) : List Elt := l.foldl (fun E k => showE E k false) E
theorem hideE_snoc (E : List Elt) (l : List IdK) (k : IdK) : hideE E (l ++ [k]) = showE (hideE E l) k false := by simp [hideE]
theorem hideE_is (E : List Elt) (h : ∀ e ∈ E, e.sh = true) (l : List IdK) : hideE E l = E.map (fun e => { e with sh := !decide (e.id ∈ l) }) := by
  refine snoc_ind (P := fun l => hideE E l = E.map (fun e => { e with sh := !decide (e.id ∈ l) })) ?_ (fun l k ih => ?_) l
  · conv => lhs; rw [hideE, List.foldl_nil, ← List.map_id E]
    refine List.map_congr_left fun e he => ?_
    have := h e he
    cases e
    simp at this ⊢
    exact this
  · rw [hideE_snoc, ih]
    unfold showE
    rw [List.map_map]
    refine List.map_congr_left fun e he => ?_
    simp only [Function.comp]
    by_cases q : e.id = k
    · rw [if_pos q]
      simp [q]
    · rw [if_neg q]
      simp [q]
theorem hideE_ids (E : List Elt) (l : List IdK) : (hideE E l).map (·.id) = E.map (·.id) := by
  refine snoc_ind (P := fun l => (hideE E l).map (·.id) = E.map (·.id)) rfl (fun l k ih => ?_) l
  rw [hideE_snoc, showE_ids, ih]
theorem hideE_len (E : List Elt) (l : List IdK) : (hideE E l).length = E.length := by
  have := congrArg List.length (hideE_ids E l)
  simpa using this
theorem SeqOk.hide {E : List Elt} (ok : SeqOk E) (l : List IdK) : SeqOk (hideE E l) := by
  refine snoc_ind (P := fun l => SeqOk (hideE E l)) ok (fun l k ih => ?_) l
  rw [hideE_snoc]; exact ih.show k false
theorem hideE_sh {E : List Elt} (h : ∀ e ∈ E, e.sh = true) (l : List IdK) {i : Nat} (hi : i < (hideE E l).length) : (hideE E l)[i].sh = !decide ((hideE E l)[i].id ∈ l) := by
  have e := hideE_is E h l
  generalize hideE E l = F at *
  subst e
  rw [List.getElem_map]
theorem nth_get {F : List Elt} {i : Nat} (hi : i < F.length) : nthE F false (i : Int) = (F[i].id, true) := by
  unfold nthE
  rw [visE_all, if_pos (by omega), Int.toNat_natCast, List.getD_eq_getElem?_getD, List.getElem?_map, List.getElem?_eq_getElem hi]
  rfl
theorem nth_past (F : List Elt) (c : Bool) {m : Nat} (hm : (visE F c).length = m) : nthE F c (m : Int) = (zId, false) := by
  unfold nthE
  rw [if_neg (by omega)]
theorem vis_get {F : List Elt} {i : Nat} (hi : i < F.length) (hs : F[i].sh = true) : nthE F true (((F.take i).countP (cE true) : Nat) : Int) = (F[i].id, true) := by
  have e : F = F.take i ++ F[i] :: F.drop (i + 1) := by rw [List.getElem_cons_drop]; exact (List.take_append_drop i F).symm
  have hv : visE F true = (F.take i).filter (cE true) ++ F[i] :: (F.drop (i + 1)).filter (cE true) := by
    conv => lhs; rw [e]
    unfold visE
    rw [List.filter_append, List.filter_cons, if_pos (by simp [cE, hs])]
  unfold nthE
  rw [hv, List.countP_eq_length_filter, if_pos (by simp only [List.length_append, List.length_cons]; omega), Int.toNat_natCast, List.map_append, List.map_cons, List.getD_eq_getElem?_getD]
  rw [List.getElem?_append_right (by simp)]
  simp
theorem cnt_take {F : List Elt} (c : Bool) {i : Nat} (hi : i < F.length) : (F.take (i + 1)).countP (cE c) = (F.take i).countP (cE c) + (if cE c F[i] = true then 1 else 0) := by
  rw [List.take_add_one, List.getElem?_eq_getElem hi, Option.toList, List.countP_append, List.countP_cons, List.countP_nil]
  simp
theorem id_zero_at {w : World} {bb : Nat} (h : bb = w.heap.size) : (Instr.alloc 32 true (.tuple #[])).run Try.prog w = .ok (.pointer (some ⟨bb, 0, none⟩)) (w.alloc (.cells zId.c.toArray 32)) := by subst h; exact id_zero w
def fnd7_o0 : Oper := ⟨some 41, .move (.tmp 5), 23, "law.go:221", #[], none⟩
def fnd7_o1 : Oper := ⟨some 42, .move (.tmp 1), 47, "law.go:221", #[], none⟩
def fnd7_o2 : Oper := ⟨some 43, .move (.tmp 7), 3, "law.go:221", #[], none⟩
def fnd7_o3 : Oper := ⟨some 44, .indexAddr 47 (.tmp 42) (.tmp 43), 0, "law.go:221", #[⟨1, .data⟩, ⟨2, .data⟩], none⟩
def fnd7_o4 : Oper := ⟨some 45, .load 32 (.tmp 44), 32, "law.go:221", #[⟨3, .data⟩], none⟩
def fnd7_o5 : Oper := ⟨some 46, .call { callee := Callee.value (Operand.func 16), args := #[.tmp 41, .tmp 45, Operand.const (Value.bool false)], argTypes := #[23, 32, 4] }, 36, "law.go:221", #[⟨0, .data⟩, ⟨4, .data⟩], none⟩
def fnd7_ops : Array Oper := #[fnd7_o0, fnd7_o1, fnd7_o2, fnd7_o3, fnd7_o4, fnd7_o5]
theorem fnd7 {wb wo m wc i : Nat} {x : IdK} {sb : Nat} {c : Int} (Fin : World → Prop) (a : Act) (w : World) (Q : Exit → Act → World → Prop) (hsz : a.tmps.size = 148)
    (t5 : a.tmps.getD 5 undef = .pointer (some ⟨sb, 0, none⟩))
    (t1 : a.tmps.getD 1 undef = .slice (some ⟨wb, wo, none⟩) m wc)
    (t7 : a.tmps.getD 7 undef = .int .i64 (i : Int))
    (hx : x.ok) (hi : i < m) (hm : m ≤ 1400000000000) (h0 : w.rangeAt wb (wo + 33 * i) x.c) (CS : Calls Try.prog 16 #[.pointer (some ⟨sb, 0, none⟩), x.v, .bool false] w fun e w' => e = .returned (.int .i64 c) ∧ Fin w')
    (h : ∀ (a' : Act) (w' : World), Fin w' → a' = ((((((a).put (some 41) (.pointer (some ⟨sb, 0, none⟩))).put (some 42) (.slice (some ⟨wb, wo, none⟩) m wc)).put (some 43) (.int .i64 (i : Int))).put (some 44) (.pointer (some ⟨wb, wo + 33 * i, none⟩))).put (some 45) (x.v)).put (some 46) (.int .i64 c) → Q .normal a' w') :
    (Code.region 7 fnd7_ops false).wp Try.prog Q a w := by
  refine wp_region_list ?_
  change wpList _ _ _ [fnd7_o0, fnd7_o1, fnd7_o2, fnd7_o3, fnd7_o4, fnd7_o5] _ _
  refine qv (v := .pointer (some ⟨sb, 0, none⟩)) (by rfl) (exec_move rfl t5) (fun a0 e0 => ?_)
  rw [← e0] at h
  have z0 := pz e0 hsz
  replace t1 := pk e0 t1
  replace t7 := pk e0 t7
  clear t5
  have t41 := pq e0 hsz
  clear e0 hsz
  refine qv (v := .slice (some ⟨wb, wo, none⟩) m wc) (by rfl) (exec_move rfl t1) (fun a1 e1 => ?_)
  rw [← e1] at h
  have z1 := pz e1 z0
  replace t7 := pk e1 t7
  replace t41 := pk e1 t41
  clear t1
  have t42 := pq e1 z0
  clear e1 z0
  refine qv (v := .int .i64 (i : Int)) (by rfl) (exec_move rfl t7) (fun a2 e2 => ?_)
  rw [← e2] at h
  have z2 := pz e2 z1
  replace t41 := pk e2 t41
  replace t42 := pk e2 t42
  clear t7
  have t43 := pq e2 z1
  clear e2 z1
  refine qv (v := .pointer (some ⟨wb, wo + 33 * i, none⟩)) (by rfl) (exec_indexAt rfl t42 t43 (ix_idl hi hm _)) (fun a3 e3 => ?_)
  rw [← e3] at h
  have z3 := pz e3 z2
  replace t41 := pk e3 t41
  clear t42 t43
  have t44 := pq e3 z2
  clear e3 z2
  refine qv (v := x.v) (by rfl) (exec_load rfl t44 (load_id_at hx h0)) (fun a4 e4 => ?_)
  rw [← e4] at h
  have z4 := pz e4 z3
  replace t41 := pk e4 t41
  clear t44
  have t45 := pq e4 z3
  clear e4 z3
  refine qc (by rfl) (by unfold fnd7_o5; go_simp) (CS) (fun e x5 hx => ?_)
  obtain ⟨rfl, HF⟩ := hx
  refine ⟨_, rfl, fun a5 e5 => ?_⟩
  rw [← e5] at h
  have z5 := pz e5 z4
  clear t41 t45
  clear e5 z4
  exact wpList_nil (h _ _ (HF) rfl)
def fnd13_o0 : Oper := ⟨some 56, .move (.tmp 5), 23, "law.go:226", #[], none⟩
def fnd13_o1 : Oper := ⟨some 57, .move (.tmp 10), 3, "law.go:226", #[], none⟩
def fnd13_o2 : Oper := ⟨some 58, .call { callee := Callee.value (Operand.func 31), args := #[.tmp 56, .tmp 57], argTypes := #[23, 3] }, 59, "law.go:226", #[⟨0, .data⟩, ⟨1, .data⟩], none⟩
def fnd13_o3 : Oper := ⟨some 55, .move (.tmp 58), 59, "law.go:226", #[⟨2, .data⟩], none⟩
def fnd13_o4 : Oper := ⟨some 59, .extract (.tmp 55) 0, 32, "law.go:226", #[⟨3, .data⟩], none⟩
def fnd13_o5 : Oper := ⟨some 60, .extract (.tmp 55) 1, 4, "law.go:226", #[⟨3, .data⟩, { on := 7, ground := Ground.gcOnly Departure.lateStores }], none⟩
def fnd13_o6 : Oper := ⟨some 11, .alloc 32, 0, "law.go:226", #[], none⟩
def fnd13_o7 : Oper := ⟨none, .store 32 (.tmp 11) (.tmp 59), 0, "law.go:226", #[⟨6, .data⟩, ⟨4, .data⟩, ⟨2, .chain⟩, ⟨0, .phase⟩, ⟨1, .phase⟩, ⟨2, .phase⟩, ⟨3, .phase⟩, ⟨4, .phase⟩, { on := 5, ground := Ground.textOnly Departure.lateStores }, ⟨6, .phase⟩], none⟩
def fnd13_o8 : Oper := ⟨some 12, .assign (.tmp 60), 4, "law.go:226", #[⟨5, .data⟩, ⟨7, .chain⟩, ⟨0, .phase⟩, ⟨1, .phase⟩, ⟨2, .phase⟩, ⟨3, .phase⟩, ⟨4, .phase⟩, ⟨5, .phase⟩, ⟨6, .phase⟩, ⟨7, .phase⟩], none⟩
def fnd13_ops : Array Oper := #[fnd13_o0, fnd13_o1, fnd13_o2, fnd13_o3, fnd13_o4, fnd13_o5, fnd13_o6, fnd13_o7, fnd13_o8]
theorem fnd13 {sb : Nat} {z : Int} {x : IdK} {g : Bool} (Fin : Nat → World → Prop) (a : Act) (w : World) (Q : Exit → Act → World → Prop) (hsz : a.tmps.size = 148)
    (t5 : a.tmps.getD 5 undef = .pointer (some ⟨sb, 0, none⟩))
    (t10 : a.tmps.getD 10 undef = .int .i64 z)
    (CA : Calls Try.prog 31 #[.pointer (some ⟨sb, 0, none⟩), .int .i64 z] w fun e w' => e = .returned (.tuple #[x.v, .bool g]) ∧ ∃ bb, bb = w'.heap.size ∧ ∃ w2, (Instr.storeAt 32 (.pointer (some ⟨bb, 0, none⟩)) x.v).run Try.prog (w'.alloc (.cells zId.c.toArray 32)) = .ok () w2 ∧ Fin bb w2)
    (h : ∀ (bb : Nat) (a' : Act) (w' : World), Fin bb w' → a' = ((((((((a).put (some 56) (.pointer (some ⟨sb, 0, none⟩))).put (some 57) (.int .i64 z)).put (some 58) (.tuple #[x.v, .bool g])).put (some 55) (.tuple #[x.v, .bool g])).put (some 59) (x.v)).put (some 60) (.bool g)).put (some 11) (.pointer (some ⟨bb, 0, none⟩))).put (some 12) (.bool g) → Q .normal a' w') :
    (Code.region 13 fnd13_ops false).wp Try.prog Q a w := by
  refine wp_region_list ?_
  change wpList _ _ _ [fnd13_o0, fnd13_o1, fnd13_o2, fnd13_o3, fnd13_o4, fnd13_o5, fnd13_o6, fnd13_o7, fnd13_o8] _ _
  refine qv (v := .pointer (some ⟨sb, 0, none⟩)) (by rfl) (exec_move rfl t5) (fun a0 e0 => ?_)
  rw [← e0] at h
  have z0 := pz e0 hsz
  replace t10 := pk e0 t10
  clear t5
  have t56 := pq e0 hsz
  clear e0 hsz
  refine qv (v := .int .i64 z) (by rfl) (exec_move rfl t10) (fun a1 e1 => ?_)
  rw [← e1] at h
  have z1 := pz e1 z0
  replace t56 := pk e1 t56
  clear t10
  have t57 := pq e1 z0
  clear e1 z0
  refine qc (by rfl) (by unfold fnd13_o2; go_simp) (CA) (fun e x2 hx => ?_)
  obtain ⟨rfl, bb, hbb, w2, E1, HF⟩ := hx
  replace h := h bb
  refine ⟨_, rfl, fun a2 e2 => ?_⟩
  rw [← e2] at h
  have z2 := pz e2 z1
  clear t56 t57
  have t58 := pq e2 z1
  clear e2 z1
  refine qv (v := .tuple #[x.v, .bool g]) (by rfl) (exec_move rfl t58) (fun a3 e3 => ?_)
  rw [← e3] at h
  have z3 := pz e3 z2
  clear t58
  have t55 := pq e3 z2
  clear e3 z2
  refine qv (v := x.v) (by rfl) (exec_extract rfl t55 rfl) (fun a4 e4 => ?_)
  rw [← e4] at h
  have z4 := pz e4 z3
  replace t55 := pk e4 t55
  have t59 := pq e4 z3
  clear e4 z3
  refine qv (v := .bool g) (by rfl) (exec_extract rfl t55 rfl) (fun a5 e5 => ?_)
  rw [← e5] at h
  have z5 := pz e5 z4
  replace t59 := pk e5 t59
  clear t55
  have t60 := pq e5 z4
  clear e5 z4
  refine qk (v := .pointer (some ⟨bb, 0, none⟩)) (by rfl) (exec_alloc rfl (id_zero_at hbb)) (fun a6 e6 => ?_)
  rw [← e6] at h
  have z6 := pz e6 z5
  replace t59 := pk e6 t59
  replace t60 := pk e6 t60
  have t11 := pq e6 z5
  clear e6 z5
  refine qs (by rfl) (exec_store rfl t11 t59 E1) ?_
  refine qv (v := .bool g) (by rfl) (exec_assign rfl t60) (fun a8 e8 => ?_)
  rw [← e8] at h
  have z8 := pz e8 z6
  clear t59 t60 t11
  clear e8 z6
  exact wpList_nil (h _ _ (HF) rfl)
def fnd22_o0 : Oper := ⟨some 102, .move (.tmp 5), 23, "law.go:237", #[], none⟩
def fnd22_o1 : Oper := ⟨some 103, .move (.tmp 9), 3, "law.go:237", #[], none⟩
def fnd22_o2 : Oper := ⟨some 104, .call { callee := Callee.value (Operand.func 33), args := #[.tmp 102, .tmp 103], argTypes := #[23, 3] }, 59, "law.go:237", #[⟨0, .data⟩, ⟨1, .data⟩], none⟩
def fnd22_o3 : Oper := ⟨some 101, .move (.tmp 104), 59, "law.go:237", #[⟨2, .data⟩], none⟩
def fnd22_o4 : Oper := ⟨some 105, .extract (.tmp 101) 0, 32, "law.go:237", #[⟨3, .data⟩], none⟩
def fnd22_o5 : Oper := ⟨some 106, .extract (.tmp 101) 1, 4, "law.go:237", #[⟨3, .data⟩, { on := 7, ground := Ground.gcOnly Departure.lateStores }], none⟩
def fnd22_o6 : Oper := ⟨some 15, .alloc 32, 0, "law.go:237", #[], none⟩
def fnd22_o7 : Oper := ⟨none, .store 32 (.tmp 15) (.tmp 105), 0, "law.go:237", #[⟨6, .data⟩, ⟨4, .data⟩, ⟨2, .chain⟩, ⟨0, .phase⟩, ⟨1, .phase⟩, ⟨2, .phase⟩, ⟨3, .phase⟩, ⟨4, .phase⟩, { on := 5, ground := Ground.textOnly Departure.lateStores }, ⟨6, .phase⟩], none⟩
def fnd22_o8 : Oper := ⟨some 16, .assign (.tmp 106), 4, "law.go:237", #[⟨5, .data⟩, ⟨7, .chain⟩, ⟨0, .phase⟩, ⟨1, .phase⟩, ⟨2, .phase⟩, ⟨3, .phase⟩, ⟨4, .phase⟩, ⟨5, .phase⟩, ⟨6, .phase⟩, ⟨7, .phase⟩], none⟩
def fnd22_ops : Array Oper := #[fnd22_o0, fnd22_o1, fnd22_o2, fnd22_o3, fnd22_o4, fnd22_o5, fnd22_o6, fnd22_o7, fnd22_o8]
theorem fnd22 {sb : Nat} {z : Int} {x : IdK} {g : Bool} (Fin : Nat → World → Prop) (a : Act) (w : World) (Q : Exit → Act → World → Prop) (hsz : a.tmps.size = 148)
    (t5 : a.tmps.getD 5 undef = .pointer (some ⟨sb, 0, none⟩))
    (t9 : a.tmps.getD 9 undef = .int .i64 z)
    (CA : Calls Try.prog 33 #[.pointer (some ⟨sb, 0, none⟩), .int .i64 z] w fun e w' => e = .returned (.tuple #[x.v, .bool g]) ∧ ∃ bb, bb = w'.heap.size ∧ ∃ w2, (Instr.storeAt 32 (.pointer (some ⟨bb, 0, none⟩)) x.v).run Try.prog (w'.alloc (.cells zId.c.toArray 32)) = .ok () w2 ∧ Fin bb w2)
    (h : ∀ (bb : Nat) (a' : Act) (w' : World), Fin bb w' → a' = ((((((((a).put (some 102) (.pointer (some ⟨sb, 0, none⟩))).put (some 103) (.int .i64 z)).put (some 104) (.tuple #[x.v, .bool g])).put (some 101) (.tuple #[x.v, .bool g])).put (some 105) (x.v)).put (some 106) (.bool g)).put (some 15) (.pointer (some ⟨bb, 0, none⟩))).put (some 16) (.bool g) → Q .normal a' w') :
    (Code.region 22 fnd22_ops false).wp Try.prog Q a w := by
  refine wp_region_list ?_
  change wpList _ _ _ [fnd22_o0, fnd22_o1, fnd22_o2, fnd22_o3, fnd22_o4, fnd22_o5, fnd22_o6, fnd22_o7, fnd22_o8] _ _
  refine qv (v := .pointer (some ⟨sb, 0, none⟩)) (by rfl) (exec_move rfl t5) (fun a0 e0 => ?_)
  rw [← e0] at h
  have z0 := pz e0 hsz
  replace t9 := pk e0 t9
  clear t5
  have t102 := pq e0 hsz
  clear e0 hsz
  refine qv (v := .int .i64 z) (by rfl) (exec_move rfl t9) (fun a1 e1 => ?_)
  rw [← e1] at h
  have z1 := pz e1 z0
  replace t102 := pk e1 t102
  clear t9
  have t103 := pq e1 z0
  clear e1 z0
  refine qc (by rfl) (by unfold fnd22_o2; go_simp) (CA) (fun e x2 hx => ?_)
  obtain ⟨rfl, bb, hbb, w2, E1, HF⟩ := hx
  replace h := h bb
  refine ⟨_, rfl, fun a2 e2 => ?_⟩
  rw [← e2] at h
  have z2 := pz e2 z1
  clear t102 t103
  have t104 := pq e2 z1
  clear e2 z1
  refine qv (v := .tuple #[x.v, .bool g]) (by rfl) (exec_move rfl t104) (fun a3 e3 => ?_)
  rw [← e3] at h
  have z3 := pz e3 z2
  clear t104
  have t101 := pq e3 z2
  clear e3 z2
  refine qv (v := x.v) (by rfl) (exec_extract rfl t101 rfl) (fun a4 e4 => ?_)
  rw [← e4] at h
  have z4 := pz e4 z3
  replace t101 := pk e4 t101
  have t105 := pq e4 z3
  clear e4 z3
  refine qv (v := .bool g) (by rfl) (exec_extract rfl t101 rfl) (fun a5 e5 => ?_)
  rw [← e5] at h
  have z5 := pz e5 z4
  replace t105 := pk e5 t105
  clear t101
  have t106 := pq e5 z4
  clear e5 z4
  refine qk (v := .pointer (some ⟨bb, 0, none⟩)) (by rfl) (exec_alloc rfl (id_zero_at hbb)) (fun a6 e6 => ?_)
  rw [← e6] at h
  have z6 := pz e6 z5
  replace t105 := pk e6 t105
  replace t106 := pk e6 t106
  have t15 := pq e6 z5
  clear e6 z5
  refine qs (by rfl) (exec_store rfl t15 t105 E1) ?_
  refine qv (v := .bool g) (by rfl) (exec_assign rfl t106) (fun a8 e8 => ?_)
  rw [← e8] at h
  have z8 := pz e8 z6
  clear t105 t106 t15
  clear e8 z6
  exact wpList_nil (h _ _ (HF) rfl)
def fnd27_o0 : Oper := ⟨some 124, .move (.tmp 5), 23, "law.go:243", #[], none⟩
def fnd27_o1 : Oper := ⟨some 125, .move (.tmp 9), 3, "law.go:243", #[], none⟩
def fnd27_o2 : Oper := ⟨some 126, .call { callee := Callee.value (Operand.func 33), args := #[.tmp 124, .tmp 125], argTypes := #[23, 3] }, 59, "law.go:243", #[⟨0, .data⟩, ⟨1, .data⟩], none⟩
def fnd27_o3 : Oper := ⟨some 123, .move (.tmp 126), 59, "law.go:243", #[⟨2, .data⟩], none⟩
def fnd27_o4 : Oper := ⟨some 127, .extract (.tmp 123) 0, 32, "law.go:243", #[⟨3, .data⟩], none⟩
def fnd27_o5 : Oper := ⟨some 128, .extract (.tmp 123) 1, 4, "law.go:243", #[⟨3, .data⟩, { on := 7, ground := Ground.gcOnly Departure.lateStores }], none⟩
def fnd27_o6 : Oper := ⟨some 19, .alloc 32, 0, "law.go:243", #[], none⟩
def fnd27_o7 : Oper := ⟨none, .store 32 (.tmp 19) (.tmp 127), 0, "law.go:243", #[⟨6, .data⟩, ⟨4, .data⟩, ⟨2, .chain⟩, ⟨0, .phase⟩, ⟨1, .phase⟩, ⟨2, .phase⟩, ⟨3, .phase⟩, ⟨4, .phase⟩, { on := 5, ground := Ground.textOnly Departure.lateStores }, ⟨6, .phase⟩], none⟩
def fnd27_o8 : Oper := ⟨some 20, .assign (.tmp 128), 4, "law.go:243", #[⟨5, .data⟩, ⟨7, .chain⟩, ⟨0, .phase⟩, ⟨1, .phase⟩, ⟨2, .phase⟩, ⟨3, .phase⟩, ⟨4, .phase⟩, ⟨5, .phase⟩, ⟨6, .phase⟩, ⟨7, .phase⟩], none⟩
def fnd27_ops : Array Oper := #[fnd27_o0, fnd27_o1, fnd27_o2, fnd27_o3, fnd27_o4, fnd27_o5, fnd27_o6, fnd27_o7, fnd27_o8]
theorem fnd27 {sb : Nat} {z : Int} {x : IdK} {g : Bool} (Fin : Nat → World → Prop) (a : Act) (w : World) (Q : Exit → Act → World → Prop) (hsz : a.tmps.size = 148)
    (t5 : a.tmps.getD 5 undef = .pointer (some ⟨sb, 0, none⟩))
    (t9 : a.tmps.getD 9 undef = .int .i64 z)
    (CA : Calls Try.prog 33 #[.pointer (some ⟨sb, 0, none⟩), .int .i64 z] w fun e w' => e = .returned (.tuple #[x.v, .bool g]) ∧ ∃ bb, bb = w'.heap.size ∧ ∃ w2, (Instr.storeAt 32 (.pointer (some ⟨bb, 0, none⟩)) x.v).run Try.prog (w'.alloc (.cells zId.c.toArray 32)) = .ok () w2 ∧ Fin bb w2)
    (h : ∀ (bb : Nat) (a' : Act) (w' : World), Fin bb w' → a' = ((((((((a).put (some 124) (.pointer (some ⟨sb, 0, none⟩))).put (some 125) (.int .i64 z)).put (some 126) (.tuple #[x.v, .bool g])).put (some 123) (.tuple #[x.v, .bool g])).put (some 127) (x.v)).put (some 128) (.bool g)).put (some 19) (.pointer (some ⟨bb, 0, none⟩))).put (some 20) (.bool g) → Q .normal a' w') :
    (Code.region 27 fnd27_ops false).wp Try.prog Q a w := by
  refine wp_region_list ?_
  change wpList _ _ _ [fnd27_o0, fnd27_o1, fnd27_o2, fnd27_o3, fnd27_o4, fnd27_o5, fnd27_o6, fnd27_o7, fnd27_o8] _ _
  refine qv (v := .pointer (some ⟨sb, 0, none⟩)) (by rfl) (exec_move rfl t5) (fun a0 e0 => ?_)
  rw [← e0] at h
  have z0 := pz e0 hsz
  replace t9 := pk e0 t9
  clear t5
  have t124 := pq e0 hsz
  clear e0 hsz
  refine qv (v := .int .i64 z) (by rfl) (exec_move rfl t9) (fun a1 e1 => ?_)
  rw [← e1] at h
  have z1 := pz e1 z0
  replace t124 := pk e1 t124
  clear t9
  have t125 := pq e1 z0
  clear e1 z0
  refine qc (by rfl) (by unfold fnd27_o2; go_simp) (CA) (fun e x2 hx => ?_)
  obtain ⟨rfl, bb, hbb, w2, E1, HF⟩ := hx
  replace h := h bb
  refine ⟨_, rfl, fun a2 e2 => ?_⟩
  rw [← e2] at h
  have z2 := pz e2 z1
  clear t124 t125
  have t126 := pq e2 z1
  clear e2 z1
  refine qv (v := .tuple #[x.v, .bool g]) (by rfl) (exec_move rfl t126) (fun a3 e3 => ?_)
  rw [← e3] at h
  have z3 := pz e3 z2
  clear t126
  have t123 := pq e3 z2
  clear e3 z2
  refine qv (v := x.v) (by rfl) (exec_extract rfl t123 rfl) (fun a4 e4 => ?_)
  rw [← e4] at h
  have z4 := pz e4 z3
  replace t123 := pk e4 t123
  have t127 := pq e4 z3
  clear e4 z3
  refine qv (v := .bool g) (by rfl) (exec_extract rfl t123 rfl) (fun a5 e5 => ?_)
  rw [← e5] at h
  have z5 := pz e5 z4
  replace t127 := pk e5 t127
  clear t123
  have t128 := pq e5 z4
  clear e5 z4
  refine qk (v := .pointer (some ⟨bb, 0, none⟩)) (by rfl) (exec_alloc rfl (id_zero_at hbb)) (fun a6 e6 => ?_)
  rw [← e6] at h
  have z6 := pz e6 z5
  replace t127 := pk e6 t127
  replace t128 := pk e6 t128
  have t19 := pq e6 z5
  clear e6 z5
  refine qs (by rfl) (exec_store rfl t19 t127 E1) ?_
  refine qv (v := .bool g) (by rfl) (exec_assign rfl t128) (fun a8 e8 => ?_)
  rw [← e8] at h
  have z8 := pz e8 z6
  clear t127 t128 t19
  clear e8 z6
  exact wpList_nil (h _ _ (HF) rfl)
def fnd26_o0 : Oper := ⟨some 117, .move (.tmp 5), 23, "law.go:242", #[], none⟩
def fnd26_o1 : Oper := ⟨some 118, .move (.tmp 8), 47, "law.go:242", #[], none⟩
def fnd26_o2 : Oper := ⟨some 119, .call { callee := Callee.builtin Builtin.len, args := #[.tmp 118], argTypes := #[47] }, 3, "law.go:242", #[⟨1, .data⟩], none⟩
def fnd26_o3 : Oper := ⟨some 120, .call { callee := Callee.value (Operand.func 31), args := #[.tmp 117, .tmp 119], argTypes := #[23, 3] }, 59, "law.go:242", #[⟨0, .data⟩, ⟨2, .data⟩], none⟩
def fnd26_o4 : Oper := ⟨some 116, .move (.tmp 120), 59, "law.go:242", #[⟨3, .data⟩], none⟩
def fnd26_o5 : Oper := ⟨some 121, .extract (.tmp 116) 0, 32, "law.go:242", #[⟨4, .data⟩], none⟩
def fnd26_o6 : Oper := ⟨some 122, .extract (.tmp 116) 1, 4, "law.go:242", #[⟨4, .data⟩, { on := 8, ground := Ground.gcOnly Departure.lateStores }], none⟩
def fnd26_o7 : Oper := ⟨some 17, .alloc 32, 0, "law.go:242", #[], none⟩
def fnd26_o8 : Oper := ⟨none, .store 32 (.tmp 17) (.tmp 121), 0, "law.go:242", #[⟨7, .data⟩, ⟨5, .data⟩, ⟨3, .chain⟩, ⟨0, .phase⟩, ⟨1, .phase⟩, ⟨2, .phase⟩, ⟨3, .phase⟩, ⟨4, .phase⟩, ⟨5, .phase⟩, { on := 6, ground := Ground.textOnly Departure.lateStores }, ⟨7, .phase⟩], none⟩
def fnd26_o9 : Oper := ⟨some 18, .assign (.tmp 122), 4, "law.go:242", #[⟨6, .data⟩, ⟨8, .chain⟩, ⟨0, .phase⟩, ⟨1, .phase⟩, ⟨2, .phase⟩, ⟨3, .phase⟩, ⟨4, .phase⟩, ⟨5, .phase⟩, ⟨6, .phase⟩, ⟨7, .phase⟩, ⟨8, .phase⟩], none⟩
def fnd26_ops : Array Oper := #[fnd26_o0, fnd26_o1, fnd26_o2, fnd26_o3, fnd26_o4, fnd26_o5, fnd26_o6, fnd26_o7, fnd26_o8, fnd26_o9]
theorem fnd26 {sb m wc : Nat} {wa : Option Addr} {x : IdK} {g : Bool} (Fin : Nat → World → Prop) (a : Act) (w : World) (Q : Exit → Act → World → Prop) (hsz : a.tmps.size = 148)
    (t5 : a.tmps.getD 5 undef = .pointer (some ⟨sb, 0, none⟩))
    (t8 : a.tmps.getD 8 undef = .slice wa m wc)
    (CA : Calls Try.prog 31 #[.pointer (some ⟨sb, 0, none⟩), .int .i64 (m : Int)] w fun e w' => e = .returned (.tuple #[x.v, .bool g]) ∧ ∃ bb, bb = w'.heap.size ∧ ∃ w2, (Instr.storeAt 32 (.pointer (some ⟨bb, 0, none⟩)) x.v).run Try.prog (w'.alloc (.cells zId.c.toArray 32)) = .ok () w2 ∧ Fin bb w2)
    (h : ∀ (bb : Nat) (a' : Act) (w' : World), Fin bb w' → a' = (((((((((a).put (some 117) (.pointer (some ⟨sb, 0, none⟩))).put (some 118) (.slice wa m wc)).put (some 119) (.int .i64 (m : Int))).put (some 120) (.tuple #[x.v, .bool g])).put (some 116) (.tuple #[x.v, .bool g])).put (some 121) (x.v)).put (some 122) (.bool g)).put (some 17) (.pointer (some ⟨bb, 0, none⟩))).put (some 18) (.bool g) → Q .normal a' w') :
    (Code.region 26 fnd26_ops false).wp Try.prog Q a w := by
  refine wp_region_list ?_
  change wpList _ _ _ [fnd26_o0, fnd26_o1, fnd26_o2, fnd26_o3, fnd26_o4, fnd26_o5, fnd26_o6, fnd26_o7, fnd26_o8, fnd26_o9] _ _
  refine qv (v := .pointer (some ⟨sb, 0, none⟩)) (by rfl) (exec_move rfl t5) (fun a0 e0 => ?_)
  rw [← e0] at h
  have z0 := pz e0 hsz
  replace t8 := pk e0 t8
  clear t5
  have t117 := pq e0 hsz
  clear e0 hsz
  refine qv (v := .slice wa m wc) (by rfl) (exec_move rfl t8) (fun a1 e1 => ?_)
  rw [← e1] at h
  have z1 := pz e1 z0
  replace t117 := pk e1 t117
  clear t8
  have t118 := pq e1 z0
  clear e1 z0
  refine qv (v := .int .i64 (m : Int)) (by rfl) (exec_len rfl t118 (len_ids _ _ _ _ _)) (fun a2 e2 => ?_)
  rw [← e2] at h
  have z2 := pz e2 z1
  replace t117 := pk e2 t117
  clear t118
  have t119 := pq e2 z1
  clear e2 z1
  refine qc (by rfl) (by unfold fnd26_o3; go_simp) (CA) (fun e x3 hx => ?_)
  obtain ⟨rfl, bb, hbb, w2, E1, HF⟩ := hx
  replace h := h bb
  refine ⟨_, rfl, fun a3 e3 => ?_⟩
  rw [← e3] at h
  have z3 := pz e3 z2
  clear t117 t119
  have t120 := pq e3 z2
  clear e3 z2
  refine qv (v := .tuple #[x.v, .bool g]) (by rfl) (exec_move rfl t120) (fun a4 e4 => ?_)
  rw [← e4] at h
  have z4 := pz e4 z3
  clear t120
  have t116 := pq e4 z3
  clear e4 z3
  refine qv (v := x.v) (by rfl) (exec_extract rfl t116 rfl) (fun a5 e5 => ?_)
  rw [← e5] at h
  have z5 := pz e5 z4
  replace t116 := pk e5 t116
  have t121 := pq e5 z4
  clear e5 z4
  refine qv (v := .bool g) (by rfl) (exec_extract rfl t116 rfl) (fun a6 e6 => ?_)
  rw [← e6] at h
  have z6 := pz e6 z5
  replace t121 := pk e6 t121
  clear t116
  have t122 := pq e6 z5
  clear e6 z5
  refine qk (v := .pointer (some ⟨bb, 0, none⟩)) (by rfl) (exec_alloc rfl (id_zero_at hbb)) (fun a7 e7 => ?_)
  rw [← e7] at h
  have z7 := pz e7 z6
  replace t121 := pk e7 t121
  replace t122 := pk e7 t122
  have t17 := pq e7 z6
  clear e7 z6
  refine qs (by rfl) (exec_store rfl t17 t121 E1) ?_
  refine qv (v := .bool g) (by rfl) (exec_assign rfl t122) (fun a9 e9 => ?_)
  rw [← e9] at h
  have z9 := pz e9 z7
  clear t121 t122 t17
  clear e9 z7
  exact wpList_nil (h _ _ (HF) rfl)
def fnd14_o0 : Oper := ⟨some 61, .move (.tmp 12), 4, "law.go:227", #[], none⟩
def fnd14_o1 : Oper := ⟨some 62, .unOp UnOp.not 4 (.tmp 61), 4, "law.go:227", #[⟨0, .data⟩], none⟩
def fnd14_o2 : Oper := ⟨some 63, .move (.tmp 62), 4, "law.go:227", #[⟨1, .data⟩], none⟩
def fnd14_o3 : Oper := ⟨some 64, .load 32 (.tmp 11), 32, "law.go:227", #[⟨2, .guard⟩], some (2, false)⟩
def fnd14_o4 : Oper := ⟨some 65, .move (.tmp 8), 47, "law.go:227", #[⟨2, .guard⟩], some (2, false)⟩
def fnd14_o5 : Oper := ⟨some 66, .move (.tmp 10), 3, "law.go:227", #[⟨2, .guard⟩], some (2, false)⟩
def fnd14_o6 : Oper := ⟨some 67, .indexAddr 47 (.tmp 65) (.tmp 66), 0, "law.go:227", #[⟨4, .data⟩, ⟨5, .data⟩, ⟨2, .guard⟩], some (2, false)⟩
def fnd14_o7 : Oper := ⟨some 68, .load 32 (.tmp 67), 32, "law.go:227", #[⟨6, .data⟩, ⟨2, .guard⟩], some (2, false)⟩
def fnd14_o8 : Oper := ⟨some 69, .binOp BinOp.neq 32 (.tmp 64) (.tmp 68) 32, 4, "law.go:227", #[⟨3, .data⟩, ⟨7, .data⟩, ⟨2, .guard⟩], some (2, false)⟩
def fnd14_o9 : Oper := ⟨some 70, .pick (.tmp 63) (Operand.const (Value.bool true)) (.tmp 69), 4, "law.go:227", #[⟨2, .data⟩, ⟨8, .data⟩], none⟩
def fnd14_o10 : Oper := ⟨some 71, .move (.tmp 70), 4, "law.go:227", #[⟨9, .data⟩, ⟨2, .chain⟩], none⟩
def fnd14_o11 : Oper := ⟨some 72, .move (.tmp 5), 23, "law.go:227", #[⟨10, .guard⟩], some (10, false)⟩
def fnd14_o12 : Oper := ⟨some 73, .load 32 (.tmp 11), 32, "law.go:227", #[⟨10, .guard⟩], some (10, false)⟩
def fnd14_o13 : Oper := ⟨some 74, .call { callee := Callee.value (Operand.func 27), args := #[.tmp 72, .tmp 73], argTypes := #[23, 32] }, 3, "law.go:227", #[⟨11, .data⟩, ⟨12, .data⟩, ⟨10, .chain⟩, ⟨10, .guard⟩], some (10, false)⟩
def fnd14_o14 : Oper := ⟨some 75, .move (.tmp 10), 3, "law.go:227", #[⟨10, .guard⟩], some (10, false)⟩
def fnd14_o15 : Oper := ⟨some 76, .binOp BinOp.neq 3 (.tmp 74) (.tmp 75) 3, 4, "law.go:227", #[⟨13, .data⟩, ⟨14, .data⟩, ⟨10, .guard⟩], some (10, false)⟩
def fnd14_o16 : Oper := ⟨some 77, .pick (.tmp 71) (Operand.const (Value.bool true)) (.tmp 76), 4, "law.go:227", #[⟨10, .data⟩, ⟨15, .data⟩], none⟩
def fnd14_o17 : Oper := ⟨some 78, .move (.tmp 77), 4, "law.go:227", #[⟨16, .data⟩, ⟨13, .chain⟩], none⟩
def fnd14_o18 : Oper := ⟨some 79, .move (.tmp 5), 23, "law.go:227", #[⟨17, .guard⟩], some (17, false)⟩
def fnd14_o19 : Oper := ⟨some 80, .load 32 (.tmp 11), 32, "law.go:227", #[⟨17, .guard⟩], some (17, false)⟩
def fnd14_o20 : Oper := ⟨some 81, .call { callee := Callee.value (Operand.func 32), args := #[.tmp 79, .tmp 80], argTypes := #[23, 32] }, 3, "law.go:227", #[⟨18, .data⟩, ⟨19, .data⟩, ⟨17, .chain⟩, ⟨17, .guard⟩], some (17, false)⟩
def fnd14_o21 : Oper := ⟨some 82, .move (.tmp 9), 3, "law.go:227", #[⟨17, .guard⟩], some (17, false)⟩
def fnd14_o22 : Oper := ⟨some 83, .binOp BinOp.neq 3 (.tmp 81) (.tmp 82) 3, 4, "law.go:227", #[⟨20, .data⟩, ⟨21, .data⟩, ⟨17, .guard⟩], some (17, false)⟩
def fnd14_o23 : Oper := ⟨some 84, .pick (.tmp 78) (Operand.const (Value.bool true)) (.tmp 83), 4, "law.go:227", #[⟨17, .data⟩, ⟨22, .data⟩], none⟩
def fnd14_ops : Array Oper := #[fnd14_o0, fnd14_o1, fnd14_o2, fnd14_o3, fnd14_o4, fnd14_o5, fnd14_o6, fnd14_o7, fnd14_o8, fnd14_o9, fnd14_o10, fnd14_o11, fnd14_o12, fnd14_o13, fnd14_o14, fnd14_o15, fnd14_o16, fnd14_o17, fnd14_o18, fnd14_o19, fnd14_o20, fnd14_o21, fnd14_o22, fnd14_o23]
theorem fnd14 {wb wo m wc i : Nat} {x : IdK} {sb bb : Nat} {q : Int} (S : World → Prop) (a : Act) (w : World) (Q : Exit → Act → World → Prop) (hsz : a.tmps.size = 148)
    (t12 : a.tmps.getD 12 undef = .bool true)
    (t11 : a.tmps.getD 11 undef = .pointer (some ⟨bb, 0, none⟩))
    (t8 : a.tmps.getD 8 undef = .slice (some ⟨wb, wo, none⟩) m wc)
    (t10 : a.tmps.getD 10 undef = .int .i64 (i : Int))
    (t5 : a.tmps.getD 5 undef = .pointer (some ⟨sb, 0, none⟩))
    (t9 : a.tmps.getD 9 undef = .int .i64 q)
    (hx : x.ok) (hi : i < m) (hm : m ≤ 1400000000000) (h0 : S w.drew) (hrow : ∀ X, S X → X.rangeAt wb (wo + 33 * i) x.c) (hbox : ∀ X, S X → IdAt X bb x) (CR : ∀ X, S X → Calls Try.prog 27 #[.pointer (some ⟨sb, 0, none⟩), x.v] X fun e w' => e = .returned (.int .i64 (i : Int)) ∧ S w') (CX : ∀ X, S X → Calls Try.prog 32 #[.pointer (some ⟨sb, 0, none⟩), x.v] X fun e w' => e = .returned (.int .i64 q) ∧ S w')
    (h : ∀ (a' : Act) (w' : World), S w' → a' = ((((((((((((((((((((((((a).put (some 61) (.bool true)).put (some 62) (.bool false)).put (some 63) (.bool false)).put (some 64) (x.v)).put (some 65) (.slice (some ⟨wb, wo, none⟩) m wc)).put (some 66) (.int .i64 (i : Int))).put (some 67) (.pointer (some ⟨wb, wo + 33 * i, none⟩))).put (some 68) (x.v)).put (some 69) (.bool false)).put (some 70) (.bool false)).put (some 71) (.bool false)).put (some 72) (.pointer (some ⟨sb, 0, none⟩))).put (some 73) (x.v)).put (some 75) (.int .i64 (i : Int))).put (some 74) (.int .i64 (i : Int))).put (some 76) (.bool false)).put (some 77) (.bool false)).put (some 78) (.bool false)).put (some 79) (.pointer (some ⟨sb, 0, none⟩))).put (some 80) (x.v)).put (some 82) (.int .i64 q)).put (some 81) (.int .i64 q)).put (some 83) (.bool false)).put (some 84) (.bool false) → Q .normal a' w') :
    (Code.region 14 fnd14_ops true).wp Try.prog Q a w := by
  refine wp_region_noPanic ?_
  refine wp_region_held_drew (S := fun w' => S w') (by kernel_rfl) (h0) (fun hHeld => ?_)
  refine wpAnyH_take (i := 0) (oi := fnd14_o0) (v := .bool true) rfl (by kernel_rfl) (by kernel_rfl) (by kernel_rfl) (fun _ _ _ h => h) (Or.inl ⟨by rfl, fun w1 hw => exec_move rfl t12⟩) hHeld ?_
  change wpAnyH _ _ _ _ _ _ _ (a.put (some 61) (.bool true)) _
  obtain ⟨a0, e0⟩ : ∃ act, act = a.put (some 61) (.bool true) := ⟨_, rfl⟩
  rw [← e0] at h ⊢
  have z0 := pz e0 hsz
  replace t11 := pk e0 t11
  replace t8 := pk e0 t8
  replace t10 := pk e0 t10
  replace t5 := pk e0 t5
  replace t9 := pk e0 t9
  clear t12
  have t61 := pq e0 hsz
  clear e0 hsz
  refine wpAnyH_take (i := 1) (oi := fnd14_o1) (v := .bool false) rfl (by kernel_rfl) (by kernel_rfl) (by kernel_rfl) (fun _ _ _ h => h) (Or.inl ⟨by rfl, fun w1 hw => by unfold fnd14_o1; go_simp⟩) hHeld ?_
  change wpAnyH _ _ _ _ _ _ _ (a0.put (some 62) (.bool false)) _
  obtain ⟨a1, e1⟩ : ∃ act, act = a0.put (some 62) (.bool false) := ⟨_, rfl⟩
  rw [← e1] at h ⊢
  have z1 := pz e1 z0
  replace t11 := pk e1 t11
  replace t8 := pk e1 t8
  replace t10 := pk e1 t10
  replace t5 := pk e1 t5
  replace t9 := pk e1 t9
  clear t61
  have t62 := pq e1 z0
  clear e1 z0
  refine wpAnyH_take (i := 2) (oi := fnd14_o2) (v := .bool false) rfl (by kernel_rfl) (by kernel_rfl) (by kernel_rfl) (fun _ _ _ h => h) (Or.inl ⟨by rfl, fun w1 hw => exec_move rfl t62⟩) hHeld ?_
  change wpAnyH _ _ _ _ _ _ _ (a1.put (some 63) (.bool false)) _
  obtain ⟨a2, e2⟩ : ∃ act, act = a1.put (some 63) (.bool false) := ⟨_, rfl⟩
  rw [← e2] at h ⊢
  have z2 := pz e2 z1
  replace t11 := pk e2 t11
  replace t8 := pk e2 t8
  replace t10 := pk e2 t10
  replace t5 := pk e2 t5
  replace t9 := pk e2 t9
  clear t62
  have t63 := pq e2 z1
  clear e2 z1
  refine wpAnyH_take (i := 3) (oi := fnd14_o3) (v := x.v) rfl (by kernel_rfl) (by kernel_rfl) (by kernel_rfl) (fun _ _ _ h => h) (Or.inl ⟨by simp [Region.wanted, yielded, fnd14_ops, fnd14_o3, fnd14_o2, tget z2 (by decide) t63], fun w1 hw => exec_load rfl t11 (load_id hx (hbox _ hw))⟩) hHeld ?_
  change wpAnyH _ _ _ _ _ _ _ (a2.put (some 64) (x.v)) _
  obtain ⟨a3, e3⟩ : ∃ act, act = a2.put (some 64) (x.v) := ⟨_, rfl⟩
  rw [← e3] at h ⊢
  have z3 := pz e3 z2
  replace t11 := pk e3 t11
  replace t8 := pk e3 t8
  replace t10 := pk e3 t10
  replace t5 := pk e3 t5
  replace t9 := pk e3 t9
  replace t63 := pk e3 t63
  have t64 := pq e3 z2
  clear e3 z2
  refine wpAnyH_take (i := 4) (oi := fnd14_o4) (v := .slice (some ⟨wb, wo, none⟩) m wc) rfl (by kernel_rfl) (by kernel_rfl) (by kernel_rfl) (fun _ _ _ h => h) (Or.inl ⟨by simp [Region.wanted, yielded, fnd14_ops, fnd14_o4, fnd14_o2, tget z3 (by decide) t63], fun w1 hw => exec_move rfl t8⟩) hHeld ?_
  change wpAnyH _ _ _ _ _ _ _ (a3.put (some 65) (.slice (some ⟨wb, wo, none⟩) m wc)) _
  obtain ⟨a4, e4⟩ : ∃ act, act = a3.put (some 65) (.slice (some ⟨wb, wo, none⟩) m wc) := ⟨_, rfl⟩
  rw [← e4] at h ⊢
  have z4 := pz e4 z3
  replace t11 := pk e4 t11
  replace t10 := pk e4 t10
  replace t5 := pk e4 t5
  replace t9 := pk e4 t9
  replace t63 := pk e4 t63
  replace t64 := pk e4 t64
  clear t8
  have t65 := pq e4 z3
  clear e4 z3
  refine wpAnyH_take (i := 5) (oi := fnd14_o5) (v := .int .i64 (i : Int)) rfl (by kernel_rfl) (by kernel_rfl) (by kernel_rfl) (fun _ _ _ h => h) (Or.inl ⟨by simp [Region.wanted, yielded, fnd14_ops, fnd14_o5, fnd14_o2, tget z4 (by decide) t63], fun w1 hw => exec_move rfl t10⟩) hHeld ?_
  change wpAnyH _ _ _ _ _ _ _ (a4.put (some 66) (.int .i64 (i : Int))) _
  obtain ⟨a5, e5⟩ : ∃ act, act = a4.put (some 66) (.int .i64 (i : Int)) := ⟨_, rfl⟩
  rw [← e5] at h ⊢
  have z5 := pz e5 z4
  replace t11 := pk e5 t11
  replace t10 := pk e5 t10
  replace t5 := pk e5 t5
  replace t9 := pk e5 t9
  replace t63 := pk e5 t63
  replace t64 := pk e5 t64
  replace t65 := pk e5 t65
  have t66 := pq e5 z4
  clear e5 z4
  refine wpAnyH_take (i := 6) (oi := fnd14_o6) (v := .pointer (some ⟨wb, wo + 33 * i, none⟩)) rfl (by kernel_rfl) (by kernel_rfl) (by kernel_rfl) (fun _ _ _ h => h) (Or.inl ⟨by simp [Region.wanted, yielded, fnd14_ops, fnd14_o6, fnd14_o2, tget z5 (by decide) t63], fun w1 hw => exec_indexAt rfl t65 t66 (ix_idl hi hm _)⟩) hHeld ?_
  change wpAnyH _ _ _ _ _ _ _ (a5.put (some 67) (.pointer (some ⟨wb, wo + 33 * i, none⟩))) _
  obtain ⟨a6, e6⟩ : ∃ act, act = a5.put (some 67) (.pointer (some ⟨wb, wo + 33 * i, none⟩)) := ⟨_, rfl⟩
  rw [← e6] at h ⊢
  have z6 := pz e6 z5
  replace t11 := pk e6 t11
  replace t10 := pk e6 t10
  replace t5 := pk e6 t5
  replace t9 := pk e6 t9
  replace t63 := pk e6 t63
  replace t64 := pk e6 t64
  clear t65 t66
  have t67 := pq e6 z5
  clear e6 z5
  refine wpAnyH_take (i := 7) (oi := fnd14_o7) (v := x.v) rfl (by kernel_rfl) (by kernel_rfl) (by kernel_rfl) (fun _ _ _ h => h) (Or.inl ⟨by simp [Region.wanted, yielded, fnd14_ops, fnd14_o7, fnd14_o2, tget z6 (by decide) t63], fun w1 hw => exec_load rfl t67 (load_id_at hx (hrow _ hw))⟩) hHeld ?_
  change wpAnyH _ _ _ _ _ _ _ (a6.put (some 68) (x.v)) _
  obtain ⟨a7, e7⟩ : ∃ act, act = a6.put (some 68) (x.v) := ⟨_, rfl⟩
  rw [← e7] at h ⊢
  have z7 := pz e7 z6
  replace t11 := pk e7 t11
  replace t10 := pk e7 t10
  replace t5 := pk e7 t5
  replace t9 := pk e7 t9
  replace t63 := pk e7 t63
  replace t64 := pk e7 t64
  clear t67
  have t68 := pq e7 z6
  clear e7 z6
  refine wpAnyH_take (i := 8) (oi := fnd14_o8) (v := .bool false) rfl (by kernel_rfl) (by kernel_rfl) (by kernel_rfl) (fun _ _ _ h => h) (Or.inl ⟨by simp [Region.wanted, yielded, fnd14_ops, fnd14_o8, fnd14_o2, tget z7 (by decide) t63], fun w1 hw => ex_neqI rfl t64 t68 hx hx (by simp)⟩) hHeld ?_
  change wpAnyH _ _ _ _ _ _ _ (a7.put (some 69) (.bool false)) _
  obtain ⟨a8, e8⟩ : ∃ act, act = a7.put (some 69) (.bool false) := ⟨_, rfl⟩
  rw [← e8] at h ⊢
  have z8 := pz e8 z7
  replace t11 := pk e8 t11
  replace t10 := pk e8 t10
  replace t5 := pk e8 t5
  replace t9 := pk e8 t9
  replace t63 := pk e8 t63
  clear t64 t68
  have t69 := pq e8 z7
  clear e8 z7
  refine wpAnyH_take (i := 9) (oi := fnd14_o9) (v := .bool false) rfl (by kernel_rfl) (by kernel_rfl) (by kernel_rfl) (fun _ _ _ h => h) (Or.inl ⟨by rfl, fun w1 hw => by unfold fnd14_o9; go_simp⟩) hHeld ?_
  change wpAnyH _ _ _ _ _ _ _ (a8.put (some 70) (.bool false)) _
  obtain ⟨a9, e9⟩ : ∃ act, act = a8.put (some 70) (.bool false) := ⟨_, rfl⟩
  rw [← e9] at h ⊢
  have z9 := pz e9 z8
  replace t11 := pk e9 t11
  replace t10 := pk e9 t10
  replace t5 := pk e9 t5
  replace t9 := pk e9 t9
  clear t63 t69
  have t70 := pq e9 z8
  clear e9 z8
  refine wpAnyH_take (i := 10) (oi := fnd14_o10) (v := .bool false) rfl (by kernel_rfl) (by kernel_rfl) (by kernel_rfl) (fun _ _ _ h => h) (Or.inl ⟨by rfl, fun w1 hw => exec_move rfl t70⟩) hHeld ?_
  change wpAnyH _ _ _ _ _ _ _ (a9.put (some 71) (.bool false)) _
  obtain ⟨a10, e10⟩ : ∃ act, act = a9.put (some 71) (.bool false) := ⟨_, rfl⟩
  rw [← e10] at h ⊢
  have z10 := pz e10 z9
  replace t11 := pk e10 t11
  replace t10 := pk e10 t10
  replace t5 := pk e10 t5
  replace t9 := pk e10 t9
  clear t70
  have t71 := pq e10 z9
  clear e10 z9
  refine wpAnyH_take (i := 11) (oi := fnd14_o11) (v := .pointer (some ⟨sb, 0, none⟩)) rfl (by kernel_rfl) (by kernel_rfl) (by kernel_rfl) (fun _ _ _ h => h) (Or.inl ⟨by simp [Region.wanted, yielded, fnd14_ops, fnd14_o11, fnd14_o10, tget z10 (by decide) t71], fun w1 hw => exec_move rfl t5⟩) hHeld ?_
  change wpAnyH _ _ _ _ _ _ _ (a10.put (some 72) (.pointer (some ⟨sb, 0, none⟩))) _
  obtain ⟨a11, e11⟩ : ∃ act, act = a10.put (some 72) (.pointer (some ⟨sb, 0, none⟩)) := ⟨_, rfl⟩
  rw [← e11] at h ⊢
  have z11 := pz e11 z10
  replace t11 := pk e11 t11
  replace t10 := pk e11 t10
  replace t5 := pk e11 t5
  replace t9 := pk e11 t9
  replace t71 := pk e11 t71
  have t72 := pq e11 z10
  clear e11 z10
  refine wpAnyH_take (i := 12) (oi := fnd14_o12) (v := x.v) rfl (by kernel_rfl) (by kernel_rfl) (by kernel_rfl) (fun _ _ _ h => h) (Or.inl ⟨by simp [Region.wanted, yielded, fnd14_ops, fnd14_o12, fnd14_o10, tget z11 (by decide) t71], fun w1 hw => exec_load rfl t11 (load_id hx (hbox _ hw))⟩) hHeld ?_
  change wpAnyH _ _ _ _ _ _ _ (a11.put (some 73) (x.v)) _
  obtain ⟨a12, e12⟩ : ∃ act, act = a11.put (some 73) (x.v) := ⟨_, rfl⟩
  rw [← e12] at h ⊢
  have z12 := pz e12 z11
  replace t11 := pk e12 t11
  replace t10 := pk e12 t10
  replace t5 := pk e12 t5
  replace t9 := pk e12 t9
  replace t71 := pk e12 t71
  replace t72 := pk e12 t72
  have t73 := pq e12 z11
  clear e12 z11
  refine wpAnyH_take (i := 14) (oi := fnd14_o14) (v := .int .i64 (i : Int)) rfl (by kernel_rfl) (by kernel_rfl) (by kernel_rfl) (fun _ _ _ h => h) (Or.inl ⟨by simp [Region.wanted, yielded, fnd14_ops, fnd14_o14, fnd14_o10, tget z12 (by decide) t71], fun w1 hw => exec_move rfl t10⟩) hHeld ?_
  change wpAnyH _ _ _ _ _ _ _ (a12.put (some 75) (.int .i64 (i : Int))) _
  obtain ⟨a14, e14⟩ : ∃ act, act = a12.put (some 75) (.int .i64 (i : Int)) := ⟨_, rfl⟩
  rw [← e14] at h ⊢
  have z14 := pz e14 z12
  replace t11 := pk e14 t11
  replace t5 := pk e14 t5
  replace t9 := pk e14 t9
  replace t71 := pk e14 t71
  replace t72 := pk e14 t72
  replace t73 := pk e14 t73
  clear t10
  have t75 := pq e14 z12
  clear e14 z12
  refine wpAnyH_ready (rs := [13]) (by kernel_rfl) (by simp) ?_
  refine AllReadyH.cons (o := fnd14_o13) rfl (fun K hK => ?_) AllReadyH.nil
  rw [if_pos (by simp [Region.wanted, yielded, fnd14_ops, fnd14_o13, fnd14_o10, tget z14 (by decide) t71])]
  unfold fnd14_o13 at hK ⊢
  go_simp
  refine (CR _ hHeld).mono ?_
  rintro e x13 ⟨rfl, hs⟩
  try go_wp2_with fail
  refine hK.out _ _ (hs) (fun hHeld => ?_)
  clear hK K
  change wpAnyH _ _ _ _ _ _ _ (a14.put (some 74) (.int .i64 (i : Int))) _
  obtain ⟨a13, e13⟩ : ∃ act, act = a14.put (some 74) (.int .i64 (i : Int)) := ⟨_, rfl⟩
  rw [← e13] at h ⊢
  have z13 := pz e13 z14
  replace t11 := pk e13 t11
  replace t5 := pk e13 t5
  replace t9 := pk e13 t9
  replace t71 := pk e13 t71
  replace t75 := pk e13 t75
  clear t72 t73
  have t74 := pq e13 z14
  clear e13 z14
  refine wpAnyH_take (i := 15) (oi := fnd14_o15) (v := .bool false) rfl (by kernel_rfl) (by kernel_rfl) (by kernel_rfl) (fun _ _ _ h => h) (Or.inl ⟨by simp [Region.wanted, yielded, fnd14_ops, fnd14_o15, fnd14_o10, tget z13 (by decide) t71], fun w1 hw => ex_neq rfl t74 t75 (by simp)⟩) hHeld ?_
  change wpAnyH _ _ _ _ _ _ _ (a13.put (some 76) (.bool false)) _
  obtain ⟨a15, e15⟩ : ∃ act, act = a13.put (some 76) (.bool false) := ⟨_, rfl⟩
  rw [← e15] at h ⊢
  have z15 := pz e15 z13
  replace t11 := pk e15 t11
  replace t5 := pk e15 t5
  replace t9 := pk e15 t9
  replace t71 := pk e15 t71
  clear t75 t74
  have t76 := pq e15 z13
  clear e15 z13
  refine wpAnyH_take (i := 16) (oi := fnd14_o16) (v := .bool false) rfl (by kernel_rfl) (by kernel_rfl) (by kernel_rfl) (fun _ _ _ h => h) (Or.inl ⟨by rfl, fun w1 hw => by unfold fnd14_o16; go_simp⟩) hHeld ?_
  change wpAnyH _ _ _ _ _ _ _ (a15.put (some 77) (.bool false)) _
  obtain ⟨a16, e16⟩ : ∃ act, act = a15.put (some 77) (.bool false) := ⟨_, rfl⟩
  rw [← e16] at h ⊢
  have z16 := pz e16 z15
  replace t11 := pk e16 t11
  replace t5 := pk e16 t5
  replace t9 := pk e16 t9
  clear t71 t76
  have t77 := pq e16 z15
  clear e16 z15
  refine wpAnyH_take (i := 17) (oi := fnd14_o17) (v := .bool false) rfl (by kernel_rfl) (by kernel_rfl) (by kernel_rfl) (fun _ _ _ h => h) (Or.inl ⟨by rfl, fun w1 hw => exec_move rfl t77⟩) hHeld ?_
  change wpAnyH _ _ _ _ _ _ _ (a16.put (some 78) (.bool false)) _
  obtain ⟨a17, e17⟩ : ∃ act, act = a16.put (some 78) (.bool false) := ⟨_, rfl⟩
  rw [← e17] at h ⊢
  have z17 := pz e17 z16
  replace t11 := pk e17 t11
  replace t5 := pk e17 t5
  replace t9 := pk e17 t9
  clear t77
  have t78 := pq e17 z16
  clear e17 z16
  refine wpAnyH_take (i := 18) (oi := fnd14_o18) (v := .pointer (some ⟨sb, 0, none⟩)) rfl (by kernel_rfl) (by kernel_rfl) (by kernel_rfl) (fun _ _ _ h => h) (Or.inl ⟨by simp [Region.wanted, yielded, fnd14_ops, fnd14_o18, fnd14_o17, tget z17 (by decide) t78], fun w1 hw => exec_move rfl t5⟩) hHeld ?_
  change wpAnyH _ _ _ _ _ _ _ (a17.put (some 79) (.pointer (some ⟨sb, 0, none⟩))) _
  obtain ⟨a18, e18⟩ : ∃ act, act = a17.put (some 79) (.pointer (some ⟨sb, 0, none⟩)) := ⟨_, rfl⟩
  rw [← e18] at h ⊢
  have z18 := pz e18 z17
  replace t11 := pk e18 t11
  replace t9 := pk e18 t9
  replace t78 := pk e18 t78
  clear t5
  have t79 := pq e18 z17
  clear e18 z17
  refine wpAnyH_take (i := 19) (oi := fnd14_o19) (v := x.v) rfl (by kernel_rfl) (by kernel_rfl) (by kernel_rfl) (fun _ _ _ h => h) (Or.inl ⟨by simp [Region.wanted, yielded, fnd14_ops, fnd14_o19, fnd14_o17, tget z18 (by decide) t78], fun w1 hw => exec_load rfl t11 (load_id hx (hbox _ hw))⟩) hHeld ?_
  change wpAnyH _ _ _ _ _ _ _ (a18.put (some 80) (x.v)) _
  obtain ⟨a19, e19⟩ : ∃ act, act = a18.put (some 80) (x.v) := ⟨_, rfl⟩
  rw [← e19] at h ⊢
  have z19 := pz e19 z18
  replace t9 := pk e19 t9
  replace t78 := pk e19 t78
  replace t79 := pk e19 t79
  clear t11
  have t80 := pq e19 z18
  clear e19 z18
  refine wpAnyH_take (i := 21) (oi := fnd14_o21) (v := .int .i64 q) rfl (by kernel_rfl) (by kernel_rfl) (by kernel_rfl) (fun _ _ _ h => h) (Or.inl ⟨by simp [Region.wanted, yielded, fnd14_ops, fnd14_o21, fnd14_o17, tget z19 (by decide) t78], fun w1 hw => exec_move rfl t9⟩) hHeld ?_
  change wpAnyH _ _ _ _ _ _ _ (a19.put (some 82) (.int .i64 q)) _
  obtain ⟨a21, e21⟩ : ∃ act, act = a19.put (some 82) (.int .i64 q) := ⟨_, rfl⟩
  rw [← e21] at h ⊢
  have z21 := pz e21 z19
  replace t78 := pk e21 t78
  replace t79 := pk e21 t79
  replace t80 := pk e21 t80
  clear t9
  have t82 := pq e21 z19
  clear e21 z19
  refine wpAnyH_ready (rs := [20]) (by kernel_rfl) (by simp) ?_
  refine AllReadyH.cons (o := fnd14_o20) rfl (fun K hK => ?_) AllReadyH.nil
  rw [if_pos (by simp [Region.wanted, yielded, fnd14_ops, fnd14_o20, fnd14_o17, tget z21 (by decide) t78])]
  unfold fnd14_o20 at hK ⊢
  go_simp
  refine (CX _ hHeld).mono ?_
  rintro e x20 ⟨rfl, hs⟩
  try go_wp2_with fail
  refine hK.out _ _ (hs) (fun hHeld => ?_)
  clear hK K
  change wpAnyH _ _ _ _ _ _ _ (a21.put (some 81) (.int .i64 q)) _
  obtain ⟨a20, e20⟩ : ∃ act, act = a21.put (some 81) (.int .i64 q) := ⟨_, rfl⟩
  rw [← e20] at h ⊢
  have z20 := pz e20 z21
  replace t78 := pk e20 t78
  replace t82 := pk e20 t82
  clear t79 t80
  have t81 := pq e20 z21
  clear e20 z21
  refine wpAnyH_take (i := 22) (oi := fnd14_o22) (v := .bool false) rfl (by kernel_rfl) (by kernel_rfl) (by kernel_rfl) (fun _ _ _ h => h) (Or.inl ⟨by simp [Region.wanted, yielded, fnd14_ops, fnd14_o22, fnd14_o17, tget z20 (by decide) t78], fun w1 hw => ex_neq rfl t81 t82 (by simp)⟩) hHeld ?_
  change wpAnyH _ _ _ _ _ _ _ (a20.put (some 83) (.bool false)) _
  obtain ⟨a22, e22⟩ : ∃ act, act = a20.put (some 83) (.bool false) := ⟨_, rfl⟩
  rw [← e22] at h ⊢
  have z22 := pz e22 z20
  replace t78 := pk e22 t78
  clear t82 t81
  have t83 := pq e22 z20
  clear e22 z20
  refine wpAnyH_take (i := 23) (oi := fnd14_o23) (v := .bool false) rfl (by kernel_rfl) (by kernel_rfl) (by kernel_rfl) (fun _ _ _ h => h) (Or.inl ⟨by rfl, fun w1 hw => by unfold fnd14_o23; go_simp⟩) hHeld ?_
  change wpAnyH _ _ _ _ _ _ _ (a22.put (some 84) (.bool false)) _
  obtain ⟨a23, e23⟩ : ∃ act, act = a22.put (some 84) (.bool false) := ⟨_, rfl⟩
  rw [← e23] at h ⊢
  have z23 := pz e23 z22
  clear t78 t83
  clear e23 z22
  exact wpAnyH_done (by kernel_rfl) (NoPanic.normal (h _ _ (hHeld) rfl)) _
def fnd20_o0 : Oper := ⟨some 91, .move (.tmp 13), 4, "law.go:232", #[], none⟩
def fnd20_o1 : Oper := ⟨some 92, .move (.tmp 91), 4, "law.go:232", #[⟨0, .data⟩], none⟩
def fnd20_o2 : Oper := ⟨some 93, .move (.tmp 1), 47, "law.go:232", #[⟨1, .guard⟩], some (1, false)⟩
def fnd20_o3 : Oper := ⟨some 94, .move (.tmp 14), 3, "law.go:232", #[⟨1, .guard⟩], some (1, false)⟩
def fnd20_o4 : Oper := ⟨some 95, .indexAddr 47 (.tmp 93) (.tmp 94), 0, "law.go:232", #[⟨2, .data⟩, ⟨3, .data⟩, ⟨1, .guard⟩], some (1, false)⟩
def fnd20_o5 : Oper := ⟨some 96, .load 32 (.tmp 95), 32, "law.go:232", #[⟨4, .data⟩, ⟨1, .guard⟩], some (1, false)⟩
def fnd20_o6 : Oper := ⟨some 97, .load 32 (.tmp 11), 32, "law.go:232", #[⟨1, .guard⟩], some (1, false)⟩
def fnd20_o7 : Oper := ⟨some 98, .binOp BinOp.eql 32 (.tmp 96) (.tmp 97) 32, 4, "law.go:232", #[⟨5, .data⟩, ⟨6, .data⟩, ⟨1, .guard⟩], some (1, false)⟩
def fnd20_o8 : Oper := ⟨some 99, .pick (.tmp 92) (Operand.const (Value.bool true)) (.tmp 98), 4, "law.go:232", #[⟨1, .data⟩, ⟨7, .data⟩], none⟩
def fnd20_o9 : Oper := ⟨some 13, .assign (.tmp 99), 4, "law.go:232", #[⟨8, .data⟩, ⟨1, .chain⟩, ⟨0, .phase⟩, ⟨1, .phase⟩, ⟨2, .phase⟩, ⟨3, .phase⟩, ⟨4, .phase⟩, ⟨5, .phase⟩, ⟨6, .phase⟩, ⟨7, .phase⟩, ⟨8, .phase⟩], none⟩
def fnd20_ops : Array Oper := #[fnd20_o0, fnd20_o1, fnd20_o2, fnd20_o3, fnd20_o4, fnd20_o5, fnd20_o6, fnd20_o7, fnd20_o8, fnd20_o9]
theorem fnd20a {wb wo m wc i : Nat} {x : IdK} {bb : Nat} (a : Act) (w : World) (Q : Exit → Act → World → Prop) (hsz : a.tmps.size = 148)
    (t13 : a.tmps.getD 13 undef = .bool true)
    (t1 : a.tmps.getD 1 undef = .slice (some ⟨wb, wo, none⟩) m wc)
    (t14 : a.tmps.getD 14 undef = .int .i64 (i : Int))
    (t11 : a.tmps.getD 11 undef = .pointer (some ⟨bb, 0, none⟩))
    (h : ∀ (a' : Act) (w' : World), w' = w.drew → a' = ((((((((((a).put (some 91) (.bool true)).put (some 92) (.bool true)).put (some 93) (undef)).put (some 94) (undef)).put (some 95) (undef)).put (some 96) (undef)).put (some 97) (undef)).put (some 98) (undef)).put (some 99) (.bool true)).put (some 13) (.bool true) → Q .normal a' w') :
    (Code.region 20 fnd20_ops true).wp Try.prog Q a w := by
  refine wp_region_noPanic ?_
  refine wp_region_held_drew (S := fun w' => w' = w.drew) (by kernel_rfl) (rfl) (fun hHeld => ?_)
  refine wpAnyH_take (i := 0) (oi := fnd20_o0) (v := .bool true) rfl (by kernel_rfl) (by kernel_rfl) (by kernel_rfl) (fun _ _ _ h => h) (Or.inl ⟨by rfl, fun w1 hw => exec_move rfl t13⟩) hHeld ?_
  change wpAnyH _ _ _ _ _ _ _ (a.put (some 91) (.bool true)) _
  obtain ⟨a0, e0⟩ : ∃ act, act = a.put (some 91) (.bool true) := ⟨_, rfl⟩
  rw [← e0] at h ⊢
  have z0 := pz e0 hsz
  replace t1 := pk e0 t1
  replace t14 := pk e0 t14
  replace t11 := pk e0 t11
  clear t13
  have t91 := pq e0 hsz
  clear e0 hsz
  refine wpAnyH_take (i := 1) (oi := fnd20_o1) (v := .bool true) rfl (by kernel_rfl) (by kernel_rfl) (by kernel_rfl) (fun _ _ _ h => h) (Or.inl ⟨by rfl, fun w1 hw => exec_move rfl t91⟩) hHeld ?_
  change wpAnyH _ _ _ _ _ _ _ (a0.put (some 92) (.bool true)) _
  obtain ⟨a1, e1⟩ : ∃ act, act = a0.put (some 92) (.bool true) := ⟨_, rfl⟩
  rw [← e1] at h ⊢
  have z1 := pz e1 z0
  replace t1 := pk e1 t1
  replace t14 := pk e1 t14
  replace t11 := pk e1 t11
  clear t91
  have t92 := pq e1 z0
  clear e1 z0
  refine wpAnyH_take (i := 2) (oi := fnd20_o2) (v := undef) rfl (by kernel_rfl) (by kernel_rfl) (by kernel_rfl) (fun _ _ _ h => h) (Or.inr ⟨by simp [Region.wanted, yielded, fnd20_ops, fnd20_o2, fnd20_o1, tget z1 (by decide) t92], rfl⟩) hHeld ?_
  change wpAnyH _ _ _ _ _ _ _ (a1.put (some 93) (undef)) _
  obtain ⟨a2, e2⟩ : ∃ act, act = a1.put (some 93) (undef) := ⟨_, rfl⟩
  rw [← e2] at h ⊢
  have z2 := pz e2 z1
  replace t14 := pk e2 t14
  replace t11 := pk e2 t11
  replace t92 := pk e2 t92
  clear t1
  have t93 := pq e2 z1
  clear e2 z1
  refine wpAnyH_take (i := 3) (oi := fnd20_o3) (v := undef) rfl (by kernel_rfl) (by kernel_rfl) (by kernel_rfl) (fun _ _ _ h => h) (Or.inr ⟨by simp [Region.wanted, yielded, fnd20_ops, fnd20_o3, fnd20_o1, tget z2 (by decide) t92], rfl⟩) hHeld ?_
  change wpAnyH _ _ _ _ _ _ _ (a2.put (some 94) (undef)) _
  obtain ⟨a3, e3⟩ : ∃ act, act = a2.put (some 94) (undef) := ⟨_, rfl⟩
  rw [← e3] at h ⊢
  have z3 := pz e3 z2
  replace t11 := pk e3 t11
  replace t92 := pk e3 t92
  replace t93 := pk e3 t93
  clear t14
  have t94 := pq e3 z2
  clear e3 z2
  refine wpAnyH_take (i := 4) (oi := fnd20_o4) (v := undef) rfl (by kernel_rfl) (by kernel_rfl) (by kernel_rfl) (fun _ _ _ h => h) (Or.inr ⟨by simp [Region.wanted, yielded, fnd20_ops, fnd20_o4, fnd20_o1, tget z3 (by decide) t92], rfl⟩) hHeld ?_
  change wpAnyH _ _ _ _ _ _ _ (a3.put (some 95) (undef)) _
  obtain ⟨a4, e4⟩ : ∃ act, act = a3.put (some 95) (undef) := ⟨_, rfl⟩
  rw [← e4] at h ⊢
  have z4 := pz e4 z3
  replace t11 := pk e4 t11
  replace t92 := pk e4 t92
  clear t93 t94
  have t95 := pq e4 z3
  clear e4 z3
  refine wpAnyH_take (i := 5) (oi := fnd20_o5) (v := undef) rfl (by kernel_rfl) (by kernel_rfl) (by kernel_rfl) (fun _ _ _ h => h) (Or.inr ⟨by simp [Region.wanted, yielded, fnd20_ops, fnd20_o5, fnd20_o1, tget z4 (by decide) t92], rfl⟩) hHeld ?_
  change wpAnyH _ _ _ _ _ _ _ (a4.put (some 96) (undef)) _
  obtain ⟨a5, e5⟩ : ∃ act, act = a4.put (some 96) (undef) := ⟨_, rfl⟩
  rw [← e5] at h ⊢
  have z5 := pz e5 z4
  replace t11 := pk e5 t11
  replace t92 := pk e5 t92
  clear t95
  have t96 := pq e5 z4
  clear e5 z4
  refine wpAnyH_take (i := 6) (oi := fnd20_o6) (v := undef) rfl (by kernel_rfl) (by kernel_rfl) (by kernel_rfl) (fun _ _ _ h => h) (Or.inr ⟨by simp [Region.wanted, yielded, fnd20_ops, fnd20_o6, fnd20_o1, tget z5 (by decide) t92], rfl⟩) hHeld ?_
  change wpAnyH _ _ _ _ _ _ _ (a5.put (some 97) (undef)) _
  obtain ⟨a6, e6⟩ : ∃ act, act = a5.put (some 97) (undef) := ⟨_, rfl⟩
  rw [← e6] at h ⊢
  have z6 := pz e6 z5
  replace t92 := pk e6 t92
  replace t96 := pk e6 t96
  clear t11
  have t97 := pq e6 z5
  clear e6 z5
  refine wpAnyH_take (i := 7) (oi := fnd20_o7) (v := undef) rfl (by kernel_rfl) (by kernel_rfl) (by kernel_rfl) (fun _ _ _ h => h) (Or.inr ⟨by simp [Region.wanted, yielded, fnd20_ops, fnd20_o7, fnd20_o1, tget z6 (by decide) t92], rfl⟩) hHeld ?_
  change wpAnyH _ _ _ _ _ _ _ (a6.put (some 98) (undef)) _
  obtain ⟨a7, e7⟩ : ∃ act, act = a6.put (some 98) (undef) := ⟨_, rfl⟩
  rw [← e7] at h ⊢
  have z7 := pz e7 z6
  replace t92 := pk e7 t92
  clear t96 t97
  have t98 := pq e7 z6
  clear e7 z6
  refine wpAnyH_take (i := 8) (oi := fnd20_o8) (v := .bool true) rfl (by kernel_rfl) (by kernel_rfl) (by kernel_rfl) (fun _ _ _ h => h) (Or.inl ⟨by rfl, fun w1 hw => by unfold fnd20_o8; go_simp⟩) hHeld ?_
  change wpAnyH _ _ _ _ _ _ _ (a7.put (some 99) (.bool true)) _
  obtain ⟨a8, e8⟩ : ∃ act, act = a7.put (some 99) (.bool true) := ⟨_, rfl⟩
  rw [← e8] at h ⊢
  have z8 := pz e8 z7
  clear t92 t98
  have t99 := pq e8 z7
  clear e8 z7
  refine wpAnyH_take (i := 9) (oi := fnd20_o9) (v := .bool true) rfl (by kernel_rfl) (by kernel_rfl) (by kernel_rfl) (fun _ _ _ h => h) (Or.inl ⟨by rfl, fun w1 hw => exec_assign rfl t99⟩) hHeld ?_
  change wpAnyH _ _ _ _ _ _ _ (a8.put (some 13) (.bool true)) _
  obtain ⟨a9, e9⟩ : ∃ act, act = a8.put (some 13) (.bool true) := ⟨_, rfl⟩
  rw [← e9] at h ⊢
  have z9 := pz e9 z8
  clear t99
  clear e9 z8
  exact wpAnyH_done (by kernel_rfl) (NoPanic.normal (h _ _ (hHeld) rfl)) _
theorem fnd20b {wb wo m wc i : Nat} {x : IdK} {bb : Nat} {y : IdK} {g : Bool} (a : Act) (w : World) (Q : Exit → Act → World → Prop) (hsz : a.tmps.size = 148)
    (t13 : a.tmps.getD 13 undef = .bool false)
    (t1 : a.tmps.getD 1 undef = .slice (some ⟨wb, wo, none⟩) m wc)
    (t14 : a.tmps.getD 14 undef = .int .i64 (i : Int))
    (t11 : a.tmps.getD 11 undef = .pointer (some ⟨bb, 0, none⟩))
    (hx : x.ok) (hi : i < m) (hm : m ≤ 1400000000000) (hy : y.ok) (h0 : w.drew.rangeAt wb (wo + 33 * i) y.c) (hb : IdAt w.drew bb x) (he : decide (y = x) = g)
    (h : ∀ (a' : Act) (w' : World), w' = w.drew → a' = ((((((((((a).put (some 91) (.bool false)).put (some 92) (.bool false)).put (some 93) (.slice (some ⟨wb, wo, none⟩) m wc)).put (some 94) (.int .i64 (i : Int))).put (some 95) (.pointer (some ⟨wb, wo + 33 * i, none⟩))).put (some 96) (y.v)).put (some 97) (x.v)).put (some 98) (.bool g)).put (some 99) (.bool g)).put (some 13) (.bool g) → Q .normal a' w') :
    (Code.region 20 fnd20_ops true).wp Try.prog Q a w := by
  refine wp_region_noPanic ?_
  refine wp_region_held_drew (S := fun w' => w' = w.drew) (by kernel_rfl) (rfl) (fun hHeld => ?_)
  refine wpAnyH_take (i := 0) (oi := fnd20_o0) (v := .bool false) rfl (by kernel_rfl) (by kernel_rfl) (by kernel_rfl) (fun _ _ _ h => h) (Or.inl ⟨by rfl, fun w1 hw => exec_move rfl t13⟩) hHeld ?_
  change wpAnyH _ _ _ _ _ _ _ (a.put (some 91) (.bool false)) _
  obtain ⟨a0, e0⟩ : ∃ act, act = a.put (some 91) (.bool false) := ⟨_, rfl⟩
  rw [← e0] at h ⊢
  have z0 := pz e0 hsz
  replace t1 := pk e0 t1
  replace t14 := pk e0 t14
  replace t11 := pk e0 t11
  clear t13
  have t91 := pq e0 hsz
  clear e0 hsz
  refine wpAnyH_take (i := 1) (oi := fnd20_o1) (v := .bool false) rfl (by kernel_rfl) (by kernel_rfl) (by kernel_rfl) (fun _ _ _ h => h) (Or.inl ⟨by rfl, fun w1 hw => exec_move rfl t91⟩) hHeld ?_
  change wpAnyH _ _ _ _ _ _ _ (a0.put (some 92) (.bool false)) _
  obtain ⟨a1, e1⟩ : ∃ act, act = a0.put (some 92) (.bool false) := ⟨_, rfl⟩
  rw [← e1] at h ⊢
  have z1 := pz e1 z0
  replace t1 := pk e1 t1
  replace t14 := pk e1 t14
  replace t11 := pk e1 t11
  clear t91
  have t92 := pq e1 z0
  clear e1 z0
  refine wpAnyH_take (i := 2) (oi := fnd20_o2) (v := .slice (some ⟨wb, wo, none⟩) m wc) rfl (by kernel_rfl) (by kernel_rfl) (by kernel_rfl) (fun _ _ _ h => h) (Or.inl ⟨by simp [Region.wanted, yielded, fnd20_ops, fnd20_o2, fnd20_o1, tget z1 (by decide) t92], fun w1 hw => exec_move rfl t1⟩) hHeld ?_
  change wpAnyH _ _ _ _ _ _ _ (a1.put (some 93) (.slice (some ⟨wb, wo, none⟩) m wc)) _
  obtain ⟨a2, e2⟩ : ∃ act, act = a1.put (some 93) (.slice (some ⟨wb, wo, none⟩) m wc) := ⟨_, rfl⟩
  rw [← e2] at h ⊢
  have z2 := pz e2 z1
  replace t14 := pk e2 t14
  replace t11 := pk e2 t11
  replace t92 := pk e2 t92
  clear t1
  have t93 := pq e2 z1
  clear e2 z1
  refine wpAnyH_take (i := 3) (oi := fnd20_o3) (v := .int .i64 (i : Int)) rfl (by kernel_rfl) (by kernel_rfl) (by kernel_rfl) (fun _ _ _ h => h) (Or.inl ⟨by simp [Region.wanted, yielded, fnd20_ops, fnd20_o3, fnd20_o1, tget z2 (by decide) t92], fun w1 hw => exec_move rfl t14⟩) hHeld ?_
  change wpAnyH _ _ _ _ _ _ _ (a2.put (some 94) (.int .i64 (i : Int))) _
  obtain ⟨a3, e3⟩ : ∃ act, act = a2.put (some 94) (.int .i64 (i : Int)) := ⟨_, rfl⟩
  rw [← e3] at h ⊢
  have z3 := pz e3 z2
  replace t11 := pk e3 t11
  replace t92 := pk e3 t92
  replace t93 := pk e3 t93
  clear t14
  have t94 := pq e3 z2
  clear e3 z2
  refine wpAnyH_take (i := 4) (oi := fnd20_o4) (v := .pointer (some ⟨wb, wo + 33 * i, none⟩)) rfl (by kernel_rfl) (by kernel_rfl) (by kernel_rfl) (fun _ _ _ h => h) (Or.inl ⟨by simp [Region.wanted, yielded, fnd20_ops, fnd20_o4, fnd20_o1, tget z3 (by decide) t92], fun w1 hw => exec_indexAt rfl t93 t94 (ix_idl hi hm _)⟩) hHeld ?_
  change wpAnyH _ _ _ _ _ _ _ (a3.put (some 95) (.pointer (some ⟨wb, wo + 33 * i, none⟩))) _
  obtain ⟨a4, e4⟩ : ∃ act, act = a3.put (some 95) (.pointer (some ⟨wb, wo + 33 * i, none⟩)) := ⟨_, rfl⟩
  rw [← e4] at h ⊢
  have z4 := pz e4 z3
  replace t11 := pk e4 t11
  replace t92 := pk e4 t92
  clear t93 t94
  have t95 := pq e4 z3
  clear e4 z3
  refine wpAnyH_take (i := 5) (oi := fnd20_o5) (v := y.v) rfl (by kernel_rfl) (by kernel_rfl) (by kernel_rfl) (fun _ _ _ h => h) (Or.inl ⟨by simp [Region.wanted, yielded, fnd20_ops, fnd20_o5, fnd20_o1, tget z4 (by decide) t92], fun w1 hw => exec_load rfl t95 (load_id_at hy (by rw [hw]; exact h0))⟩) hHeld ?_
  change wpAnyH _ _ _ _ _ _ _ (a4.put (some 96) (y.v)) _
  obtain ⟨a5, e5⟩ : ∃ act, act = a4.put (some 96) (y.v) := ⟨_, rfl⟩
  rw [← e5] at h ⊢
  have z5 := pz e5 z4
  replace t11 := pk e5 t11
  replace t92 := pk e5 t92
  clear t95
  have t96 := pq e5 z4
  clear e5 z4
  refine wpAnyH_take (i := 6) (oi := fnd20_o6) (v := x.v) rfl (by kernel_rfl) (by kernel_rfl) (by kernel_rfl) (fun _ _ _ h => h) (Or.inl ⟨by simp [Region.wanted, yielded, fnd20_ops, fnd20_o6, fnd20_o1, tget z5 (by decide) t92], fun w1 hw => exec_load rfl t11 (load_id hx (by rw [hw]; exact hb))⟩) hHeld ?_
  change wpAnyH _ _ _ _ _ _ _ (a5.put (some 97) (x.v)) _
  obtain ⟨a6, e6⟩ : ∃ act, act = a5.put (some 97) (x.v) := ⟨_, rfl⟩
  rw [← e6] at h ⊢
  have z6 := pz e6 z5
  replace t92 := pk e6 t92
  replace t96 := pk e6 t96
  clear t11
  have t97 := pq e6 z5
  clear e6 z5
  refine wpAnyH_take (i := 7) (oi := fnd20_o7) (v := .bool g) rfl (by kernel_rfl) (by kernel_rfl) (by kernel_rfl) (fun _ _ _ h => h) (Or.inl ⟨by simp [Region.wanted, yielded, fnd20_ops, fnd20_o7, fnd20_o1, tget z6 (by decide) t92], fun w1 hw => ex_eqlI rfl t96 t97 hy hx he⟩) hHeld ?_
  change wpAnyH _ _ _ _ _ _ _ (a6.put (some 98) (.bool g)) _
  obtain ⟨a7, e7⟩ : ∃ act, act = a6.put (some 98) (.bool g) := ⟨_, rfl⟩
  rw [← e7] at h ⊢
  have z7 := pz e7 z6
  replace t92 := pk e7 t92
  clear t96 t97
  have t98 := pq e7 z6
  clear e7 z6
  refine wpAnyH_take (i := 8) (oi := fnd20_o8) (v := .bool g) rfl (by kernel_rfl) (by kernel_rfl) (by kernel_rfl) (fun _ _ _ h => h) (Or.inl ⟨by rfl, fun w1 hw => by unfold fnd20_o8; go_simp⟩) hHeld ?_
  change wpAnyH _ _ _ _ _ _ _ (a7.put (some 99) (.bool g)) _
  obtain ⟨a8, e8⟩ : ∃ act, act = a7.put (some 99) (.bool g) := ⟨_, rfl⟩
  rw [← e8] at h ⊢
  have z8 := pz e8 z7
  clear t92 t98
  have t99 := pq e8 z7
  clear e8 z7
  refine wpAnyH_take (i := 9) (oi := fnd20_o9) (v := .bool g) rfl (by kernel_rfl) (by kernel_rfl) (by kernel_rfl) (fun _ _ _ h => h) (Or.inl ⟨by rfl, fun w1 hw => exec_assign rfl t99⟩) hHeld ?_
  change wpAnyH _ _ _ _ _ _ _ (a8.put (some 13) (.bool g)) _
  obtain ⟨a9, e9⟩ : ∃ act, act = a8.put (some 13) (.bool g) := ⟨_, rfl⟩
  rw [← e9] at h ⊢
  have z9 := pz e9 z8
  clear t99
  clear e9 z8
  exact wpAnyH_done (by kernel_rfl) (NoPanic.normal (h _ _ (hHeld) rfl)) _
def fnd23_o0 : Oper := ⟨some 107, .move (.tmp 16), 4, "law.go:237", #[], none⟩
def fnd23_o1 : Oper := ⟨some 108, .unOp UnOp.not 4 (.tmp 107), 4, "law.go:237", #[⟨0, .data⟩], none⟩
def fnd23_o2 : Oper := ⟨some 109, .move (.tmp 108), 4, "law.go:237", #[⟨1, .data⟩], none⟩
def fnd23_o3 : Oper := ⟨some 110, .load 32 (.tmp 15), 32, "law.go:237", #[⟨2, .guard⟩], some (2, false)⟩
def fnd23_o4 : Oper := ⟨some 111, .load 32 (.tmp 11), 32, "law.go:237", #[⟨2, .guard⟩], some (2, false)⟩
def fnd23_o5 : Oper := ⟨some 112, .binOp BinOp.neq 32 (.tmp 110) (.tmp 111) 32, 4, "law.go:237", #[⟨3, .data⟩, ⟨4, .data⟩, ⟨2, .guard⟩], some (2, false)⟩
def fnd23_o6 : Oper := ⟨some 113, .pick (.tmp 109) (Operand.const (Value.bool true)) (.tmp 112), 4, "law.go:237", #[⟨2, .data⟩, ⟨5, .data⟩], none⟩
def fnd23_ops : Array Oper := #[fnd23_o0, fnd23_o1, fnd23_o2, fnd23_o3, fnd23_o4, fnd23_o5, fnd23_o6]
theorem fnd23 {bb b2 : Nat} {x y : IdK} (a : Act) (w : World) (Q : Exit → Act → World → Prop) (hsz : a.tmps.size = 148)
    (t16 : a.tmps.getD 16 undef = .bool true)
    (t15 : a.tmps.getD 15 undef = .pointer (some ⟨b2, 0, none⟩))
    (t11 : a.tmps.getD 11 undef = .pointer (some ⟨bb, 0, none⟩))
    (hx : x.ok) (hy : y.ok) (he : y = x) (hb : IdAt w bb x) (hb2 : IdAt w b2 y)
    (h : ∀ (a' : Act) (w' : World), w' = w → a' = (((((((a).put (some 107) (.bool true)).put (some 108) (.bool false)).put (some 109) (.bool false)).put (some 110) (y.v)).put (some 111) (x.v)).put (some 112) (.bool false)).put (some 113) (.bool false) → Q .normal a' w') :
    (Code.region 23 fnd23_ops false).wp Try.prog Q a w := by
  refine wp_region_list ?_
  change wpList _ _ _ [fnd23_o0, fnd23_o1, fnd23_o2, fnd23_o3, fnd23_o4, fnd23_o5, fnd23_o6] _ _
  refine qv (v := .bool true) (by rfl) (exec_move rfl t16) (fun a0 e0 => ?_)
  rw [← e0] at h
  have z0 := pz e0 hsz
  replace t15 := pk e0 t15
  replace t11 := pk e0 t11
  clear t16
  have t107 := pq e0 hsz
  clear e0 hsz
  refine qv (v := .bool false) (by rfl) (by unfold fnd23_o1; go_simp) (fun a1 e1 => ?_)
  rw [← e1] at h
  have z1 := pz e1 z0
  replace t15 := pk e1 t15
  replace t11 := pk e1 t11
  clear t107
  have t108 := pq e1 z0
  clear e1 z0
  refine qv (v := .bool false) (by rfl) (exec_move rfl t108) (fun a2 e2 => ?_)
  rw [← e2] at h
  have z2 := pz e2 z1
  replace t15 := pk e2 t15
  replace t11 := pk e2 t11
  clear t108
  have t109 := pq e2 z1
  clear e2 z1
  refine qv (v := y.v) (by simp [Region.wanted, yielded, fnd23_ops, fnd23_o3, fnd23_o2, tget z2 (by decide) t109]) (exec_load rfl t15 (load_id hy hb2)) (fun a3 e3 => ?_)
  rw [← e3] at h
  have z3 := pz e3 z2
  replace t11 := pk e3 t11
  replace t109 := pk e3 t109
  clear t15
  have t110 := pq e3 z2
  clear e3 z2
  refine qv (v := x.v) (by simp [Region.wanted, yielded, fnd23_ops, fnd23_o4, fnd23_o2, tget z3 (by decide) t109]) (exec_load rfl t11 (load_id hx hb)) (fun a4 e4 => ?_)
  rw [← e4] at h
  have z4 := pz e4 z3
  replace t109 := pk e4 t109
  replace t110 := pk e4 t110
  clear t11
  have t111 := pq e4 z3
  clear e4 z3
  refine qv (v := .bool false) (by simp [Region.wanted, yielded, fnd23_ops, fnd23_o5, fnd23_o2, tget z4 (by decide) t109]) (ex_neqI rfl t110 t111 hy hx (by simp [he])) (fun a5 e5 => ?_)
  rw [← e5] at h
  have z5 := pz e5 z4
  replace t109 := pk e5 t109
  clear t110 t111
  have t112 := pq e5 z4
  clear e5 z4
  refine qv (v := .bool false) (by rfl) (by unfold fnd23_o6; go_simp) (fun a6 e6 => ?_)
  rw [← e6] at h
  have z6 := pz e6 z5
  clear t109 t112
  clear e6 z5
  exact wpList_nil (h _ _ (rfl) rfl)
end Go.Proofs.Ytpdepbakopdgpaa
