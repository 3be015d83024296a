import Derived.Test.YtpdepbakopdgpaaP0
set_option maxRecDepth 100000
set_option maxHeartbeats 4000000
namespace Go.Proofs.Ytpdepbakopdgpaa
open Go.RowKit Sq
set_option linter.unusedVariables false
set_option linter.unusedSimpArgs false
def idsE (E : List Elt) (c : Bool) : List IdK := (visE E c).map (·.id)
structure BK (w : World) (s : Sx) (E : List Elt) (Ls : List (Value × List IdK)) (W : World) : Prop where
  sq : SeqAt W s E
  lo : ∀ j ∈ s.bl, w.heap.size ≤ j
  bel : Below w.heap.size w W
  ls : ∀ p ∈ Ls, OwnI W w.heap.size p.1 p.2 ∧ (∀ x ∈ p.2, x.ok) ∧ p.2.length ≤ 1400000000000 ∧ ∀ k, p.1.ownBlock = some k → k ∉ s.bl
section
variable {w W : World} {s : Sx} {E : List Elt} {Ls : List (Value × List IdK)}
theorem OwnI.lt {w : World} {base : Nat} {v : Value} {l : List IdK} (h : OwnI w base v l) {k : Nat} (hk : v.ownBlock = some k) : k < w.heap.size := by
  obtain ⟨_, c, t, q, e⟩ := h.cells hk
  exact (Array.getElem?_eq_some_iff.1 e).1
theorem BK.below {W' : World} (h : BK w s E Ls W) (b : Below W.heap.size W W') : BK w s E Ls W' :=
  ⟨h.sq.below b, h.lo, h.bel.trans (b.mono h.bel.size), fun p hp => ⟨(h.ls p hp).1.below b, (h.ls p hp).2⟩⟩
theorem BK.nxt {W' : World} {s' : Sx} {E' : List Elt} (h : BK w s E Ls W) (nx : Nxt s W s' E' W') : BK w s' E' Ls W' := by
  have bb : Below w.heap.size W W' := nx.tch.belowS h.bel.size h.lo
  refine ⟨nx.at', fun j hj => ?_, h.bel.trans bb, fun p hp => ?_⟩
  · rcases nx.bl j hj with q | q
    · exact h.lo j q
    · exact Nat.le_trans h.bel.size q
  · obtain ⟨a1, a2, a3, a4⟩ := h.ls p hp
    refine ⟨a1.keep (fun k hk => nx.tch.block k (a1.lt hk) (a4 k hk)), a2, a3, fun k hk hj => ?_⟩
    rcases nx.bl k hj with q | q
    · exact a4 k hk q
    · have := a1.lt hk; omega
theorem BK.add {W' : World} {v : Value} {c : Bool} (h : BK w s E Ls W) (o : OwnI W' W.heap.size v (idsE E c)) (b : Below W.heap.size W W') : BK w s E ((v, idsE E c) :: Ls) W' := by
  have h' := h.below b
  refine ⟨h'.sq, h'.lo, h'.bel, fun p hp => ?_⟩
  rcases List.mem_cons.1 hp with rfl | hp
  · have hl : (visE E c).length ≤ E.length := List.length_filter_le _ _
    have := h.sq.lk.len
    have := h.sq.row.len
    refine ⟨⟨o.1, ?_⟩, fun x hx => ?_, by simp [idsE]; omega, fun k hk hj => ?_⟩
    · rcases o.2 with q | ⟨g, cap, cur, e, hb, r⟩
      · exact .inl q
      · exact .inr ⟨g, cap, cur, e, Nat.le_trans h.bel.size hb, r⟩
    · obtain ⟨e, he, rfl⟩ := List.mem_map.1 hx
      exact (h.sq.lk.ok.ok e (List.mem_filter.1 he).1).1
    · have := h.sq.lt k hj
      have := (o.cells hk).1
      omega
  · exact h'.ls p hp
theorem BK.ids (h : BK w s E Ls W) : Calls Try.prog 24 #[.pointer (some ⟨s.sb, 0, none⟩)] W fun e w' => ∃ v n c, e = .returned (.slice v n c) ∧ (n = (idsE E false).length ∧ n ≤ 1400000000000) ∧ BK w s E ((.slice v n c, idsE E false) :: Ls) w' := by
  refine (ids_any h.sq).mono ?_
  rintro e w' ⟨v, rfl, o, b⟩
  have h2 := h.add o b
  obtain ⟨a, c, rfl, _, _⟩ := o.open (h2.ls (v, idsE E false) (by simp)).2.1
  exact ⟨a, _, c, rfl, ⟨rfl, (h2.ls _ (List.mem_cons_self ..)).2.2.1⟩, h2⟩
theorem BK.same (h : BK w s E Ls W) {u v : Value} {A B : List IdK} (h1 : (u, A) ∈ Ls) (h2 : (v, B) ∈ Ls) : Calls Try.prog 26 #[u, v] W fun e w' => e = .returned (.bool (decide (A = B))) ∧ BK w s E Ls w' := by
  obtain ⟨a1, a2, a3, _⟩ := h.ls _ h1
  obtain ⟨b1, b2, b3, _⟩ := h.ls _ h2
  simp only at a1 a2 a3 b1 b2 b3
  obtain ⟨a, ca, rfl, ia, _⟩ := OwnI.open a1 a2
  obtain ⟨b, cb, rfl, ib, _⟩ := OwnI.open b1 b2
  refine (same_ids a b ca cb A B W ia ib a2 b2 (by omega)).mono ?_
  rintro e w' ⟨rfl, bb⟩
  exact ⟨rfl, h.below bb⟩
end
theorem insC_zero {E : List Elt} {k b : IdK} (h : insC E k b = 0) : 1 ≤ k.n ∧ hasE E k = false ∧ (b = zId ∨ hasE E b = true) := by
  unfold insC at h
  split at h
  · cases h
  · next h1 =>
    split at h
    · cases h
    · next h2 =>
      split at h
      · cases h
      · next h3 =>
        refine ⟨by omega, by simpa using h2, ?_⟩
        by_cases q : b = zId
        · exact .inl q
        · refine .inr ?_
          cases r : hasE E b with
          | true => rfl
          | false => exact absurd ⟨q, r⟩ h3
theorem laid_seqok (l : List PutV) (ok : ∀ x ∈ l, x.ok) : SeqOk (laidP l).1 := by
  revert ok
  refine snoc_ind (P := fun l => (∀ x ∈ l, x.ok) → SeqOk (laidP l).1) (fun _ => ⟨by simp [laidP], by simp [laidP], by simp [laidP]⟩) (fun l p ih ok => ?_) l
  have ih := ih (fun x hx => ok x (by simp [hx]))
  have hp := ok p (by simp)
  rw [laidP_snoc]
  unfold layS
  split
  · next h =>
    obtain ⟨h1, h2, h3⟩ := insC_zero h
    unfold insR
    rw [if_pos h]
    exact ih.put (x := ⟨p.id, p.bh, true⟩) ⟨hp.id, hp.bh, h1⟩ h2 h3
  · exact ih
end Go.Proofs.Ytpdepbakopdgpaa
namespace Go.Proofs.Ytpdepbakopdgpaa
open Go.RowKit Sq
set_option linter.unusedVariables false
set_option linter.unusedSimpArgs false
theorem put_split {E : List Elt} (ok : SeqOk E) {k b : IdK} (h : insC E k b = 0) : ∃ A B, E = A ++ B ∧ insR E k b = A ++ ⟨k, b, true⟩ :: B ∧ (b = zId ∧ A = [] ∨ b ≠ zId ∧ ∃ A' e, A = A' ++ [e] ∧ e.id = b ∧ ∀ y ∈ A', y.id ≠ b) := by
  obtain ⟨h1, h2, h3⟩ := insC_zero h
  unfold insR
  rw [if_pos h]
  by_cases hz : b = zId
  · exact ⟨[], E, rfl, by unfold putE; rw [if_pos hz]; rfl, .inl ⟨hz, rfl⟩⟩
  · have hb := h3.resolve_left hz
    obtain ⟨e, he, hid⟩ := hasE_iff.1 hb
    obtain ⟨A', B, rfl⟩ := List.append_of_mem he
    have hn : ∀ y ∈ A', y.id ≠ e.id := fun y hy q => by
      have nd := ok.nd
      rw [List.map_append, List.map_cons, List.nodup_append] at nd
      exact nd.2.2 y.id (List.mem_map.2 ⟨y, hy, rfl⟩) e.id (by simp) q
    refine ⟨A' ++ [e], B, by simp, ?_, .inr ⟨hz, A', e, rfl, hid, fun y hy => by rw [← hid]; exact hn y hy⟩⟩
    unfold putE
    rw [if_neg hz, ← hid, insE_mid hn]
    simp
theorem visE_all (E : List Elt) : visE E false = E := List.filter_eq_self.2 fun x _ => rfl
theorem szIdR (w : World) : (sizeOf 32).run Try.prog w = .ok 33 w := m_sz szId w
theorem IdsAt.take {w : World} {a : Option Addr} {L : List IdK} (h : IdsAt w a L) (n : Nat) : IdsAt w a (L.take n) := by
  rcases h with rfl | ⟨b, o, e, hl, hr⟩
  · exact .inl (by simp)
  · exact .inr ⟨b, o, e, hl, fun i x hx => hr i x (by rw [List.getElem?_take] at hx; split at hx; exact hx; cases hx)⟩
theorem OwnI.upto {w : World} {base : Nat} {v : Value} {L : List IdK} (h : OwnI w base v L) (ok : ∀ x ∈ L, x.ok) {n : Nat} (hn : n ≤ L.length) (hl : L.length ≤ 1400000000000) : ∃ a c, (∀ W, (Instr.sliceAt 47 v none (some (.int .i64 (n : Int))) none).run Try.prog W = .ok (.slice a n c) W) ∧ IdsAt w a (L.take n) := by
  obtain ⟨a, c, rfl, hat, hc⟩ := h.open ok
  have h1 : (0 : Int) ≤ (n : Int) ∧ (n : Int) ≤ (c : Int) := by omega
  refine ⟨a, c, fun W => ?_, hat.take n⟩
  cases a with
  | none =>
    simp only [Instr.sliceAt, Instr.slice, Instr.sliceBounds, Instr.sliceBound, run_underlying Try.underlying47, asIntOf, Sem.run_bind, Sem.run_pure, Result.andThen_ok, szIdR]
    rw [if_pos h1]
    simp only [Sem.run_bind, Sem.run_pure, Result.andThen_ok, Int.toNat_natCast]
    simp
  | some ad =>
    simp only [Instr.sliceAt, Instr.slice, Instr.sliceBounds, Instr.sliceBound, run_underlying Try.underlying47, asIntOf, Sem.run_bind, Sem.run_pure, Result.andThen_ok, szIdR]
    rw [if_pos h1]
    simp only [Sem.run_bind, Sem.run_pure, Result.andThen_ok, Int.toNat_natCast]
    obtain ⟨b, o, sp⟩ := ad
    simp [Addr.add]
theorem OwnI.from {w : World} {base : Nat} {v : Value} {L : List IdK} (h : OwnI w base v L) (ok : ∀ x ∈ L, x.ok) {n : Nat} (hn : n ≤ L.length) (hl : L.length ≤ 1400000000000) : ∃ a c, (∀ W, (Instr.sliceAt 47 v (some (.int .i64 (n : Int))) none none).run Try.prog W = .ok (.slice a (L.length - n) c) W) ∧ IdsAt w a (L.drop n) := by
  obtain ⟨a, c, rfl, hat, hc⟩ := h.open ok
  have h2 : (0 : Int) ≤ (n : Int) ∧ (n : Int) ≤ (L.length : Int) := by omega
  cases a with
  | none =>
    refine ⟨none, c - n, fun W => ?_, ?_⟩
    · simp only [Instr.sliceAt, Instr.slice, Instr.sliceBounds, Instr.sliceBound, run_underlying Try.underlying47, asIntOf, Sem.run_bind, Sem.run_pure, Result.andThen_ok, szIdR]
      rw [if_pos h2]
      simp only [Sem.run_bind, Sem.run_pure, Result.andThen_ok, Int.toNat_natCast]
      simp
    · rcases hat with q | ⟨b, o, e, _⟩
      · exact .inl (by rw [q]; simp)
      · cases e
  | some ad =>
    by_cases e : c = n
    · refine ⟨some ad, c - n, fun W => ?_, .inl (List.drop_of_length_le (by omega))⟩
      simp only [Instr.sliceAt, Instr.slice, Instr.sliceBounds, Instr.sliceBound, run_underlying Try.underlying47, asIntOf, Sem.run_bind, Sem.run_pure, Result.andThen_ok, szIdR]
      rw [if_pos h2]
      simp only [Sem.run_bind, Sem.run_pure, Result.andThen_ok, Int.toNat_natCast]
      rw [if_pos e]
    · refine ⟨some (ad.add (n * 33)), c - n, fun W => ?_, ?_⟩
      · simp only [Instr.sliceAt, Instr.slice, Instr.sliceBounds, Instr.sliceBound, run_underlying Try.underlying47, asIntOf, Sem.run_bind, Sem.run_pure, Result.andThen_ok, szIdR]
        rw [if_pos h2]
        simp only [Sem.run_bind, Sem.run_pure, Result.andThen_ok, Int.toNat_natCast]
        rw [if_neg e]
        simp
      · rcases hat with q | ⟨b, o, e2, hl2, hr⟩
        · exact .inl (by rw [q]; simp)
        · cases e2
          refine .inr ⟨b, o + n * 33, by rw [Addr.add_mid], hl2, fun i x hx => ?_⟩
          rw [List.getElem?_drop] at hx
          have := hr (n + i) x hx
          rw [show o + n * 33 + 33 * i = o + 33 * (n + i) by omega]
          exact this
theorem BK.bare {w W : World} {s : Sx} {E : List Elt} {Ls : List (Value × List IdK)} (h : BK w s E Ls W) : BK w s E [] W := ⟨h.sq, h.lo, h.bel, fun p hp => by cases hp⟩
theorem BK.drew {w W : World} {s : Sx} {E : List Elt} {Ls : List (Value × List IdK)} (h : BK w s E Ls W) : BK w s E Ls W.drew := h.below ((Below.refl _ _).drew)
theorem BK.parts {w W : World} {s : Sx} {E : List Elt} {Ls : List (Value × List IdK)} (h : BK w s E Ls W) {u v : Value} {A B : List IdK} {n : Nat} (h1 : (u, B) ∈ Ls) (h2 : (v, A) ∈ Ls) (hn : n ≤ A.length) (hb : B.length = A.length + 1) (e1 : B.take n = A.take n) (e2 : B.drop (n + 1) = A.drop n) :
    ∃ u1 u2 u3 u4, (∀ W, (Instr.sliceAt 47 u none (some (.int .i64 (n : Int))) none).run Try.prog W = .ok u1 W) ∧ (∀ W, (Instr.sliceAt 47 v none (some (.int .i64 (n : Int))) none).run Try.prog W = .ok u2 W) ∧ (∀ W, (Instr.sliceAt 47 u (some (.int .i64 ((n + 1 : Nat) : Int))) none none).run Try.prog W = .ok u3 W) ∧ (∀ W, (Instr.sliceAt 47 v (some (.int .i64 (n : Int))) none none).run Try.prog W = .ok u4 W) ∧
    Calls Try.prog 26 #[u1, u2] W fun e w' => e = .returned (.bool true) ∧ Calls Try.prog 26 #[u3, u4] w' fun e2 w2 => e2 = .returned (.bool true) ∧ BK w s E [] w2 := by
  obtain ⟨a1, a2, a3, _⟩ := h.ls _ h1
  obtain ⟨b1, b2, b3, _⟩ := h.ls _ h2
  simp only at a1 a2 a3 b1 b2 b3
  obtain ⟨p1, q1, E1, I1⟩ := a1.upto a2 (n := n) (by omega) a3
  obtain ⟨p2, q2, E2, I2⟩ := b1.upto b2 (n := n) hn b3
  obtain ⟨p3, q3, E3, I3⟩ := a1.from a2 (n := n + 1) (by omega) a3
  obtain ⟨p4, q4, E4, I4⟩ := b1.from b2 (n := n) hn b3
  refine ⟨_, _, _, _, E1, E2, E3, E4, ?_⟩
  have l1 : (B.take n).length = n := by rw [List.length_take]; omega
  have l2 : (A.take n).length = n := by rw [List.length_take]; omega
  have l3 : (B.drop (n + 1)).length = B.length - (n + 1) := by rw [List.length_drop]
  have l4 : (A.drop n).length = A.length - n := by rw [List.length_drop]
  have s1 := same_ids p1 p2 q1 q2 (B.take n) (A.take n) W I1 I2 (fun x hx => a2 x (List.mem_of_mem_take hx)) (fun x hx => b2 x (List.mem_of_mem_take hx)) (by omega)
  rw [l1, l2, decide_eq_true e1] at s1
  refine s1.mono ?_
  rintro e w' ⟨rfl, bb⟩
  refine ⟨rfl, ?_⟩
  have s2 := same_ids p3 p4 q3 q4 (B.drop (n + 1)) (A.drop n) w' (I3.below bb) (I4.below bb) (fun x hx => a2 x (List.mem_of_mem_drop hx)) (fun x hx => b2 x (List.mem_of_mem_drop hx)) (by omega)
  rw [l3, l4, decide_eq_true e2] at s2
  refine s2.mono ?_
  rintro e w2 ⟨rfl, b2'⟩
  exact ⟨rfl, ((h.below bb).below b2').bare⟩
theorem ahead_get {F : List Elt} (ok : SeqOk F) (c : Bool) {i : Nat} (hi : i < F.length) : aheadE F c F[i].id = ((F.take i).countP (cE c) : Int) := by
  have hs : F = F.take i ++ F[i] :: F.drop (i + 1) := by rw [List.getElem_cons_drop]; exact (List.take_append_drop i F).symm
  have hh : hasE F F[i].id = true := hasE_iff.2 ⟨F[i], List.getElem_mem hi, rfl⟩
  unfold aheadE
  rw [if_pos hh]
  have e : F.takeWhile (fun e => !decide (e.id = F[i].id)) = F.take i := by
    have nd := ok.nd
    generalize F[i] = x at *
    rw [hs, List.map_append, List.map_cons, List.nodup_append] at nd
    conv => lhs; rw [hs]
    refine takeWhile_mid (fun y hy => ?_) (by simp)
    have : y.id ≠ x.id := nd.2.2 y.id (List.mem_map.2 ⟨y, hy, rfl⟩) x.id (by simp)
    simpa using this
  rw [e]
theorem cnt_all (l : List Elt) : l.countP (cE false) = l.length := List.countP_eq_length.2 fun x _ => rfl
theorem rank_get {F : List Elt} (ok : SeqOk F) {i : Nat} (hi : i < F.length) : aheadE F false F[i].id = (i : Int) := by
  rw [ahead_get ok false hi, cnt_all, List.length_take, Nat.min_eq_left (by omega)]
theorem rank_neg {F : List Elt} {x : IdK} (h : hasE F x = false) (c : Bool) : aheadE F c x = -1 := by unfold aheadE; rw [h]; rfl
theorem rank_has {F : List Elt} {x : IdK} {c : Bool} (h : 0 ≤ aheadE F c x) : hasE F x = true := by
  cases q : hasE F x with
  | true => rfl
  | false => rw [rank_neg q] at h; omega
theorem rank_pos {F : List Elt} {x : IdK} {c : Bool} (h : hasE F x = true) : 0 ≤ aheadE F c x := by unfold aheadE; rw [if_pos h]; omega
theorem rank_pair {F : List Elt} (ok : SeqOk F) : (F.map (·.id)).Pairwise (fun x y => aheadE F false x < aheadE F false y) := by
  rw [List.pairwise_iff_getElem]
  intro i j hi hj hij
  rw [List.length_map] at hi hj
  rw [List.getElem_map, List.getElem_map, rank_get ok hi, rank_get ok hj]
  omega
structure Stays (E F : List Elt) (g : IdK → Prop) : Prop where
  sub : ((E.map (·.id)).filter (fun x => hasE F x)).Sublist (F.map (·.id))
  has : ∀ x, hasE E x = true → hasE F x = false → g x
theorem Stays.pair {E F : List Elt} {g : IdK → Prop} (h : Stays E F g) (ok : SeqOk F) : (idsE E false).Pairwise (fun x y => 0 ≤ aheadE F false x → 0 ≤ aheadE F false y → aheadE F false x < aheadE F false y) := by
  rw [idsE, visE_all, List.pairwise_iff_forall_sublist]
  intro x y hxy hx hy
  have h1 := rank_has hx
  have h2 := rank_has hy
  have : [x, y].Sublist (F.map (·.id)) := by
    refine List.Sublist.trans ?_ h.sub
    have := hxy.filter (fun x => hasE F x)
    rwa [List.filter_cons, if_pos h1, List.filter_cons, if_pos h2, List.filter_nil] at this
  exact (List.pairwise_iff_forall_sublist.1 (rank_pair ok)) this
theorem Stays.refl (E : List Elt) (g : IdK → Prop) : Stays E E g := ⟨List.filter_sublist, fun x h1 h2 => by rw [h1] at h2; cases h2⟩
theorem stays_ins {E : List Elt} (ok : SeqOk E) (k b : IdK) (g : IdK → Prop) : Stays E (insR E k b) g := by
  by_cases h : insC E k b = 0
  · obtain ⟨A, B, e1, e2, _⟩ := put_split ok h
    refine ⟨List.filter_sublist.trans ?_, fun x h1 h2 => ?_⟩
    · rw [e2, e1, List.map_append, List.map_append, List.map_cons]
      exact List.Sublist.append (List.Sublist.refl _) (List.sublist_cons_self _ _)
    · obtain ⟨e, he, q⟩ := hasE_iff.1 h1
      have : hasE (insR E k b) x = true := hasE_iff.2 ⟨e, by
        rw [e2]; rw [e1] at he
        rcases List.mem_append.1 he with r | r
        · exact List.mem_append_left _ r
        · exact List.mem_append_right _ (List.mem_cons_of_mem _ r), q⟩
      rw [h2] at this; cases this
  · have : insR E k b = E := by unfold insR; rw [if_neg h]
    rw [this]; exact Stays.refl E g
theorem stays_tak (E : List Elt) (k : IdK) : Stays E (takR E k) (fun x => x = k) := by
  unfold takR
  split
  · refine ⟨?_, fun x h1 h2 => ?_⟩
    · rw [List.filter_map]
      refine List.Sublist.map _ ?_
      have hq : ∀ e ∈ E, hasE (remE E k) e.id = true → (!decide (e.id = k)) = true := fun e he q => by
        obtain ⟨f, hf, r⟩ := hasE_iff.1 q
        have := (List.mem_filter.1 hf).2
        rwa [r] at this
      have : List.filter ((fun x => hasE (remE E k) x) ∘ (·.id)) E = List.filter ((fun x => hasE (remE E k) x) ∘ (·.id)) (remE E k) := by
        generalize hasE (remE E k) = P at *
        unfold remE
        rw [List.filter_filter]
        refine List.filter_congr fun e he => ?_
        simp only [Function.comp]
        cases q : P e.id with
        | false => rfl
        | true => rw [hq e he q]; rfl
      rw [this]
      exact List.filter_sublist
    · by_cases q : x = k
      · exact q
      · obtain ⟨e, he, r⟩ := hasE_iff.1 h1
        have : hasE (remE E k) x = true := hasE_iff.2 ⟨e, List.mem_filter.2 ⟨he, by rw [r]; simpa using q⟩, r⟩
        rw [h2] at this; cases this
  · exact Stays.refl E _
theorem stays_show (E : List Elt) (k : IdK) (b : Bool) (g : IdK → Prop) : Stays E (showE E k b) g :=
  ⟨by rw [showE_ids]; exact List.filter_sublist, fun x h1 h2 => by rw [showE_has, h1] at h2; cases h2⟩
theorem SeqOk.ins {E : List Elt} (ok : SeqOk E) {k b : IdK} (hk : k.ok) (hb : b.ok) : SeqOk (insR E k b) := by
  unfold insR
  split
  · next h =>
    obtain ⟨h1, h2, h3⟩ := insC_zero h
    exact ok.put (x := ⟨k, b, true⟩) ⟨hk, hb, h1⟩ h2 h3
  · exact ok
theorem SeqOk.tak {E : List Elt} (ok : SeqOk E) (k : IdK) : SeqOk (takR E k) := by
  unfold takR
  split
  · next h =>
    refine ok.rem ?_
    unfold takC at h
    split at h
    · cases h
    · split at h
      · cases h
      · omega
  · exact ok
theorem insR_len (E : List Elt) (k b : IdK) : (insR E k b).length ≤ E.length + 1 := by
  unfold insR
  split
  · rw [(putE_perm E b _).length_eq]; simp
  · omega
theorem takR_len (E : List Elt) (k : IdK) : (takR E k).length ≤ E.length := by
  unfold takR
  split
  · exact List.length_filter_le _ _
  · omega
theorem showE_len (E : List Elt) (k : IdK) (b : Bool) : (showE E k b).length = E.length := by simp [showE]
def sty6_o0 : Oper := ⟨some 31, .indexAddr 22 (.tmp 27) (.tmp 29), 0, "law.go:143", #[], none⟩
def sty6_o1 : Oper := ⟨some 32, .load 34 (.tmp 31), 34, "law.go:143", #[⟨0, .data⟩], none⟩
def sty6_o2 : Oper := ⟨some 8, .alloc 34, 0, "law.go:143", #[], none⟩
def sty6_o3 : Oper := ⟨none, .store 34 (.tmp 8) (.tmp 32), 0, "law.go:143", #[⟨2, .data⟩, ⟨1, .data⟩, ⟨0, .phase⟩, ⟨1, .phase⟩, ⟨2, .phase⟩], none⟩
def sty6_ops : Array Oper := #[sty6_o0, sty6_o1, sty6_o2, sty6_o3]
theorem sty6 {pb po m pc i : Nat} {o : OpV} {w2 : World} (a : Act) (w : World) (Q : Exit → Act → World → Prop) (hsz : a.tmps.size = 97)
    (t27 : a.tmps.getD 27 undef = .slice (some ⟨pb, po, none⟩) m pc)
    (t29 : a.tmps.getD 29 undef = .int .i64 (i : Int))
    (ho : o.ok) (hi : i < m) (hm : m ≤ 1400000000000) (h0 : w.rangeAt pb (po + 70 * i) o.c) (E1 : (Instr.storeAt 34 (.pointer (some ⟨w.heap.size, 0, none⟩)) (.agg o.c.toArray)).run Try.prog (w.alloc (.cells zOp.c.toArray 34)) = .ok () w2)
    (h : ∀ (a' : Act) (w' : World), w' = w2 → a' = (((a).put (some 31) (.pointer (some ⟨pb, po + 70 * i, none⟩))).put (some 32) (.agg o.c.toArray)).put (some 8) (.pointer (some ⟨w.heap.size, 0, none⟩)) → Q .normal a' w') :
    (Code.region 6 sty6_ops false).wp Try.prog Q a w := by
  refine wp_region_list ?_
  change wpList _ _ _ [sty6_o0, sty6_o1, sty6_o2, sty6_o3] _ _
  refine qv (v := .pointer (some ⟨pb, po + 70 * i, none⟩)) (by rfl) (exec_indexAt rfl t27 t29 (ix_op hi hm _)) (fun a0 e0 => ?_)
  rw [← e0] at h
  have z0 := pz e0 hsz
  clear t27 t29
  have t31 := pq e0 hsz
  clear e0 hsz
  refine qv (v := .agg o.c.toArray) (by rfl) (exec_load rfl t31 (ld_op ho h0)) (fun a1 e1 => ?_)
  rw [← e1] at h
  have z1 := pz e1 z0
  clear t31
  have t32 := pq e1 z0
  clear e1 z0
  refine qk (v := .pointer (some ⟨w.heap.size, 0, none⟩)) (by rfl) (exec_alloc rfl (op_zero _)) (fun a2 e2 => ?_)
  rw [← e2] at h
  have z2 := pz e2 z1
  replace t32 := pk e2 t32
  have t8 := pq e2 z1
  clear e2 z1
  refine qs (by rfl) (exec_store rfl t8 t32 E1) ?_
  exact wpList_nil (h _ _ (rfl) rfl)
def sty8_o0 : Oper := ⟨some 35, .fieldAddr 34 (.tmp 8) 0, 0, "law.go:145", #[], none⟩
def sty8_o1 : Oper := ⟨some 36, .load 3 (.tmp 35), 3, "law.go:145", #[⟨0, .data⟩], none⟩
def sty8_ops : Array Oper := #[sty8_o0, sty8_o1]
theorem sty8 {bo : Nat} {o : OpV} (a : Act) (w : World) (Q : Exit → Act → World → Prop) (hsz : a.tmps.size = 97)
    (t8 : a.tmps.getD 8 undef = .pointer (some ⟨bo, 0, none⟩))
    (h0 : w.rangeAt bo 0 o.c)
    (h : ∀ (a' : Act) (w' : World), w' = w → a' = ((a).put (some 35) (.pointer (some ⟨bo, 0 + 0, none⟩))).put (some 36) (.int .i64 o.kind) → Q .normal a' w') :
    (Code.region 8 sty8_ops false).wp Try.prog Q a w := by
  refine wp_region_list ?_
  change wpList _ _ _ [sty8_o0, sty8_o1] _ _
  refine qv (v := .pointer (some ⟨bo, 0 + 0, none⟩)) (by rfl) (exec_fieldAt rfl t8 (fg_34_0 _ _ _)) (fun a0 e0 => ?_)
  rw [← e0] at h
  have z0 := pz e0 hsz
  clear t8
  have t35 := pq e0 hsz
  clear e0 hsz
  refine qv (v := .int .i64 o.kind) (by rfl) (exec_load rfl t35 (op_kind h0)) (fun a1 e1 => ?_)
  rw [← e1] at h
  have z1 := pz e1 z0
  clear t35
  clear e1 z0
  exact wpList_nil (h _ _ (rfl) rfl)
def sty11_o0 : Oper := ⟨some 45, .move (.tmp 5), 23, "law.go:147", #[], none⟩
def sty11_o1 : Oper := ⟨some 46, .fieldAddr 34 (.tmp 8) 2, 0, "law.go:147", #[], none⟩
def sty11_o2 : Oper := ⟨some 47, .load 32 (.tmp 46), 32, "law.go:147", #[⟨1, .data⟩], none⟩
def sty11_o3 : Oper := ⟨some 48, .fieldAddr 34 (.tmp 8) 3, 0, "law.go:147", #[], none⟩
def sty11_o4 : Oper := ⟨some 49, .load 32 (.tmp 48), 32, "law.go:147", #[⟨3, .data⟩], none⟩
def sty11_o5 : Oper := ⟨some 50, .call { callee := Callee.value (Operand.func 12), args := #[.tmp 45, .tmp 47, .tmp 49], argTypes := #[23, 32, 32] }, 36, "law.go:147", #[⟨0, .data⟩, ⟨2, .data⟩, ⟨4, .data⟩], none⟩
def sty11_ops : Array Oper := #[sty11_o0, sty11_o1, sty11_o2, sty11_o3, sty11_o4, sty11_o5]
theorem sty11 {sb bo : Nat} {o : OpV} {c : Int} (Fin : World → Prop) (a : Act) (w : World) (Q : Exit → Act → World → Prop) (hsz : a.tmps.size = 97)
    (t5 : a.tmps.getD 5 undef = .pointer (some ⟨sb, 0, none⟩))
    (t8 : a.tmps.getD 8 undef = .pointer (some ⟨bo, 0, none⟩))
    (ho : o.ok) (h0 : w.rangeAt bo 0 o.c) (CI : Calls Try.prog 12 #[.pointer (some ⟨sb, 0, none⟩), o.id.v, o.bh.v] w fun e w' => e = .returned (.int .i64 c) ∧ Fin w')
    (h : ∀ (a' : Act) (w' : World), Fin w' → a' = ((((((a).put (some 45) (.pointer (some ⟨sb, 0, none⟩))).put (some 46) (.pointer (some ⟨bo, 0 + 2, none⟩))).put (some 47) (o.id.v)).put (some 48) (.pointer (some ⟨bo, 0 + 35, none⟩))).put (some 49) (o.bh.v)).put (some 50) (.int .i64 c) → Q .normal a' w') :
    (Code.region 11 sty11_ops false).wp Try.prog Q a w := by
  refine wp_region_list ?_
  change wpList _ _ _ [sty11_o0, sty11_o1, sty11_o2, sty11_o3, sty11_o4, sty11_o5] _ _
  refine qv (v := .pointer (some ⟨sb, 0, none⟩)) (by rfl) (exec_move rfl t5) (fun a0 e0 => ?_)
  rw [← e0] at h
  have z0 := pz e0 hsz
  replace t8 := pk e0 t8
  clear t5
  have t45 := pq e0 hsz
  clear e0 hsz
  refine qv (v := .pointer (some ⟨bo, 0 + 2, none⟩)) (by rfl) (exec_fieldAt rfl t8 (fg_34_2 _ _ _)) (fun a1 e1 => ?_)
  rw [← e1] at h
  have z1 := pz e1 z0
  replace t8 := pk e1 t8
  replace t45 := pk e1 t45
  have t46 := pq e1 z0
  clear e1 z0
  refine qv (v := o.id.v) (by rfl) (exec_load rfl t46 (op_id ho h0)) (fun a2 e2 => ?_)
  rw [← e2] at h
  have z2 := pz e2 z1
  replace t8 := pk e2 t8
  replace t45 := pk e2 t45
  clear t46
  have t47 := pq e2 z1
  clear e2 z1
  refine qv (v := .pointer (some ⟨bo, 0 + 35, none⟩)) (by rfl) (exec_fieldAt rfl t8 (fg_34_3 _ _ _)) (fun a3 e3 => ?_)
  rw [← e3] at h
  have z3 := pz e3 z2
  replace t45 := pk e3 t45
  replace t47 := pk e3 t47
  clear t8
  have t48 := pq e3 z2
  clear e3 z2
  refine qv (v := o.bh.v) (by rfl) (exec_load rfl t48 (op_bh ho h0)) (fun a4 e4 => ?_)
  rw [← e4] at h
  have z4 := pz e4 z3
  replace t45 := pk e4 t45
  replace t47 := pk e4 t47
  clear t48
  have t49 := pq e4 z3
  clear e4 z3
  refine qc (by rfl) (by unfold sty11_o5; go_simp) (CI) (fun e x5 hx => ?_)
  obtain ⟨rfl, HF⟩ := hx
  refine ⟨_, rfl, fun a5 e5 => ?_⟩
  rw [← e5] at h
  have z5 := pz e5 z4
  clear t45 t47 t49
  clear e5 z4
  exact wpList_nil (h _ _ (HF) rfl)
def sty13_o0 : Oper := ⟨some 53, .move (.tmp 5), 23, "law.go:149", #[], none⟩
def sty13_o1 : Oper := ⟨some 54, .fieldAddr 34 (.tmp 8) 2, 0, "law.go:149", #[], none⟩
def sty13_o2 : Oper := ⟨some 55, .load 32 (.tmp 54), 32, "law.go:149", #[⟨1, .data⟩], none⟩
def sty13_o3 : Oper := ⟨some 56, .call { callee := Callee.value (Operand.func 14), args := #[.tmp 53, .tmp 55], argTypes := #[23, 32] }, 36, "law.go:149", #[⟨0, .data⟩, ⟨2, .data⟩], none⟩
def sty13_ops : Array Oper := #[sty13_o0, sty13_o1, sty13_o2, sty13_o3]
theorem sty13 {sb bo : Nat} {o : OpV} {c : Int} (Fin : World → Prop) (a : Act) (w : World) (Q : Exit → Act → World → Prop) (hsz : a.tmps.size = 97)
    (t5 : a.tmps.getD 5 undef = .pointer (some ⟨sb, 0, none⟩))
    (t8 : a.tmps.getD 8 undef = .pointer (some ⟨bo, 0, none⟩))
    (ho : o.ok) (h0 : w.rangeAt bo 0 o.c) (CI : Calls Try.prog 14 #[.pointer (some ⟨sb, 0, none⟩), o.id.v] w fun e w' => e = .returned (.int .i64 c) ∧ Fin w')
    (h : ∀ (a' : Act) (w' : World), Fin w' → a' = ((((a).put (some 53) (.pointer (some ⟨sb, 0, none⟩))).put (some 54) (.pointer (some ⟨bo, 0 + 2, none⟩))).put (some 55) (o.id.v)).put (some 56) (.int .i64 c) → Q .normal a' w') :
    (Code.region 13 sty13_ops false).wp Try.prog Q a w := by
  refine wp_region_list ?_
  change wpList _ _ _ [sty13_o0, sty13_o1, sty13_o2, sty13_o3] _ _
  refine qv (v := .pointer (some ⟨sb, 0, none⟩)) (by rfl) (exec_move rfl t5) (fun a0 e0 => ?_)
  rw [← e0] at h
  have z0 := pz e0 hsz
  replace t8 := pk e0 t8
  clear t5
  have t53 := pq e0 hsz
  clear e0 hsz
  refine qv (v := .pointer (some ⟨bo, 0 + 2, none⟩)) (by rfl) (exec_fieldAt rfl t8 (fg_34_2 _ _ _)) (fun a1 e1 => ?_)
  rw [← e1] at h
  have z1 := pz e1 z0
  replace t53 := pk e1 t53
  clear t8
  have t54 := pq e1 z0
  clear e1 z0
  refine qv (v := o.id.v) (by rfl) (exec_load rfl t54 (op_id ho h0)) (fun a2 e2 => ?_)
  rw [← e2] at h
  have z2 := pz e2 z1
  replace t53 := pk e2 t53
  clear t54
  have t55 := pq e2 z1
  clear e2 z1
  refine qc (by rfl) (by unfold sty13_o3; go_simp) (CI) (fun e x3 hx => ?_)
  obtain ⟨rfl, HF⟩ := hx
  refine ⟨_, rfl, fun a3 e3 => ?_⟩
  rw [← e3] at h
  have z3 := pz e3 z2
  clear t53 t55
  clear e3 z2
  exact wpList_nil (h _ _ (HF) rfl)
def sty9_o0 : Oper := ⟨some 37, .move (.tmp 5), 23, "law.go:151", #[], none⟩
def sty9_o1 : Oper := ⟨some 38, .fieldAddr 34 (.tmp 8) 2, 0, "law.go:151", #[], none⟩
def sty9_o2 : Oper := ⟨some 39, .load 32 (.tmp 38), 32, "law.go:151", #[⟨1, .data⟩], none⟩
def sty9_o3 : Oper := ⟨some 40, .fieldAddr 34 (.tmp 8) 4, 0, "law.go:151", #[], none⟩
def sty9_o4 : Oper := ⟨some 41, .load 4 (.tmp 40), 4, "law.go:151", #[⟨3, .data⟩], none⟩
def sty9_o5 : Oper := ⟨some 42, .call { callee := Callee.value (Operand.func 16), args := #[.tmp 37, .tmp 39, .tmp 41], argTypes := #[23, 32, 4] }, 36, "law.go:151", #[⟨0, .data⟩, ⟨2, .data⟩, ⟨4, .data⟩], none⟩
def sty9_ops : Array Oper := #[sty9_o0, sty9_o1, sty9_o2, sty9_o3, sty9_o4, sty9_o5]
theorem sty9 {sb bo : Nat} {o : OpV} {c : Int} (Fin : World → Prop) (a : Act) (w : World) (Q : Exit → Act → World → Prop) (hsz : a.tmps.size = 97)
    (t5 : a.tmps.getD 5 undef = .pointer (some ⟨sb, 0, none⟩))
    (t8 : a.tmps.getD 8 undef = .pointer (some ⟨bo, 0, none⟩))
    (ho : o.ok) (h0 : w.rangeAt bo 0 o.c) (CI : Calls Try.prog 16 #[.pointer (some ⟨sb, 0, none⟩), o.id.v, .bool o.sh] w fun e w' => e = .returned (.int .i64 c) ∧ Fin w')
    (h : ∀ (a' : Act) (w' : World), Fin w' → a' = ((((((a).put (some 37) (.pointer (some ⟨sb, 0, none⟩))).put (some 38) (.pointer (some ⟨bo, 0 + 2, none⟩))).put (some 39) (o.id.v)).put (some 40) (.pointer (some ⟨bo, 0 + 68, none⟩))).put (some 41) (.bool o.sh)).put (some 42) (.int .i64 c) → Q .normal a' w') :
    (Code.region 9 sty9_ops false).wp Try.prog Q a w := by
  refine wp_region_list ?_
  change wpList _ _ _ [sty9_o0, sty9_o1, sty9_o2, sty9_o3, sty9_o4, sty9_o5] _ _
  refine qv (v := .pointer (some ⟨sb, 0, none⟩)) (by rfl) (exec_move rfl t5) (fun a0 e0 => ?_)
  rw [← e0] at h
  have z0 := pz e0 hsz
  replace t8 := pk e0 t8
  clear t5
  have t37 := pq e0 hsz
  clear e0 hsz
  refine qv (v := .pointer (some ⟨bo, 0 + 2, none⟩)) (by rfl) (exec_fieldAt rfl t8 (fg_34_2 _ _ _)) (fun a1 e1 => ?_)
  rw [← e1] at h
  have z1 := pz e1 z0
  replace t8 := pk e1 t8
  replace t37 := pk e1 t37
  have t38 := pq e1 z0
  clear e1 z0
  refine qv (v := o.id.v) (by rfl) (exec_load rfl t38 (op_id ho h0)) (fun a2 e2 => ?_)
  rw [← e2] at h
  have z2 := pz e2 z1
  replace t8 := pk e2 t8
  replace t37 := pk e2 t37
  clear t38
  have t39 := pq e2 z1
  clear e2 z1
  refine qv (v := .pointer (some ⟨bo, 0 + 68, none⟩)) (by rfl) (exec_fieldAt rfl t8 (fg_34_4 _ _ _)) (fun a3 e3 => ?_)
  rw [← e3] at h
  have z3 := pz e3 z2
  replace t37 := pk e3 t37
  replace t39 := pk e3 t39
  clear t8
  have t40 := pq e3 z2
  clear e3 z2
  refine qv (v := .bool o.sh) (by rfl) (exec_load rfl t40 (op_sh ho h0)) (fun a4 e4 => ?_)
  rw [← e4] at h
  have z4 := pz e4 z3
  replace t37 := pk e4 t37
  replace t39 := pk e4 t39
  clear t40
  have t41 := pq e4 z3
  clear e4 z3
  refine qc (by rfl) (by unfold sty9_o5; go_simp) (CI) (fun e x5 hx => ?_)
  obtain ⟨rfl, HF⟩ := hx
  refine ⟨_, rfl, fun a5 e5 => ?_⟩
  rw [← e5] at h
  have z5 := pz e5 z4
  clear t37 t39 t41
  clear e5 z4
  exact wpList_nil (h _ _ (HF) rfl)
def sty18_o0 : Oper := ⟨some 63, .move (.tmp 5), 23, "law.go:155", #[], none⟩
def sty18_o1 : Oper := ⟨some 64, .move (.tmp 9), 47, "law.go:155", #[], none⟩
def sty18_o2 : Oper := ⟨some 65, .move (.tmp 11), 3, "law.go:155", #[], none⟩
def sty18_o3 : Oper := ⟨some 66, .indexAddr 47 (.tmp 64) (.tmp 65), 0, "law.go:155", #[⟨1, .data⟩, ⟨2, .data⟩], none⟩
def sty18_o4 : Oper := ⟨some 67, .load 32 (.tmp 66), 32, "law.go:155", #[⟨3, .data⟩], none⟩
def sty18_o5 : Oper := ⟨some 68, .call { callee := Callee.value (Operand.func 27), args := #[.tmp 63, .tmp 67], argTypes := #[23, 32] }, 3, "law.go:155", #[⟨0, .data⟩, ⟨4, .data⟩], none⟩
def sty18_o6 : Oper := ⟨some 12, .assign (.tmp 68), 3, "law.go:155", #[⟨5, .data⟩, ⟨5, .chain⟩, ⟨0, .phase⟩, ⟨1, .phase⟩, ⟨2, .phase⟩, ⟨3, .phase⟩, ⟨4, .phase⟩, ⟨5, .phase⟩], none⟩
def sty18_ops : Array Oper := #[sty18_o0, sty18_o1, sty18_o2, sty18_o3, sty18_o4, sty18_o5, sty18_o6]
theorem sty18 {wb wo m wc i : Nat} {x : IdK} {sb : Nat} {r : Int} (Fin : World → Prop) (a : Act) (w : World) (Q : Exit → Act → World → Prop) (hsz : a.tmps.size = 97)
    (t5 : a.tmps.getD 5 undef = .pointer (some ⟨sb, 0, none⟩))
    (t9 : a.tmps.getD 9 undef = .slice (some ⟨wb, wo, none⟩) m wc)
    (t11 : a.tmps.getD 11 undef = .int .i64 (i : Int))
    (hx : x.ok) (hi : i < m) (hm : m ≤ 1400000000000) (h0 : w.rangeAt wb (wo + 33 * i) x.c) (CR : Calls Try.prog 27 #[.pointer (some ⟨sb, 0, none⟩), x.v] w fun e w' => e = .returned (.int .i64 r) ∧ Fin w')
    (h : ∀ (a' : Act) (w' : World), Fin w' → a' = (((((((a).put (some 63) (.pointer (some ⟨sb, 0, none⟩))).put (some 64) (.slice (some ⟨wb, wo, none⟩) m wc)).put (some 65) (.int .i64 (i : Int))).put (some 66) (.pointer (some ⟨wb, wo + 33 * i, none⟩))).put (some 67) (x.v)).put (some 68) (.int .i64 r)).put (some 12) (.int .i64 r) → Q .normal a' w') :
    (Code.region 18 sty18_ops false).wp Try.prog Q a w := by
  refine wp_region_list ?_
  change wpList _ _ _ [sty18_o0, sty18_o1, sty18_o2, sty18_o3, sty18_o4, sty18_o5, sty18_o6] _ _
  refine qv (v := .pointer (some ⟨sb, 0, none⟩)) (by rfl) (exec_move rfl t5) (fun a0 e0 => ?_)
  rw [← e0] at h
  have z0 := pz e0 hsz
  replace t9 := pk e0 t9
  replace t11 := pk e0 t11
  clear t5
  have t63 := pq e0 hsz
  clear e0 hsz
  refine qv (v := .slice (some ⟨wb, wo, none⟩) m wc) (by rfl) (exec_move rfl t9) (fun a1 e1 => ?_)
  rw [← e1] at h
  have z1 := pz e1 z0
  replace t11 := pk e1 t11
  replace t63 := pk e1 t63
  clear t9
  have t64 := pq e1 z0
  clear e1 z0
  refine qv (v := .int .i64 (i : Int)) (by rfl) (exec_move rfl t11) (fun a2 e2 => ?_)
  rw [← e2] at h
  have z2 := pz e2 z1
  replace t63 := pk e2 t63
  replace t64 := pk e2 t64
  clear t11
  have t65 := pq e2 z1
  clear e2 z1
  refine qv (v := .pointer (some ⟨wb, wo + 33 * i, none⟩)) (by rfl) (exec_indexAt rfl t64 t65 (ix_idl hi hm _)) (fun a3 e3 => ?_)
  rw [← e3] at h
  have z3 := pz e3 z2
  replace t63 := pk e3 t63
  clear t64 t65
  have t66 := pq e3 z2
  clear e3 z2
  refine qv (v := x.v) (by rfl) (exec_load rfl t66 (load_id_at hx h0)) (fun a4 e4 => ?_)
  rw [← e4] at h
  have z4 := pz e4 z3
  replace t63 := pk e4 t63
  clear t66
  have t67 := pq e4 z3
  clear e4 z3
  refine qc (by rfl) (by unfold sty18_o5; go_simp) (CR) (fun e x5 hx => ?_)
  obtain ⟨rfl, HF⟩ := hx
  refine ⟨_, rfl, fun a5 e5 => ?_⟩
  rw [← e5] at h
  have z5 := pz e5 z4
  clear t63 t67
  have t68 := pq e5 z4
  clear e5 z4
  refine qv (v := .int .i64 r) (by rfl) (exec_assign rfl t68) (fun a6 e6 => ?_)
  rw [← e6] at h
  have z6 := pz e6 z5
  clear t68
  clear e6 z5
  exact wpList_nil (h _ _ (HF) rfl)
def sty19_o0 : Oper := ⟨some 69, .move (.tmp 12), 3, "law.go:156", #[], none⟩
def sty19_o1 : Oper := ⟨some 70, .binOp BinOp.geq 3 (.tmp 69) (Operand.const (Value.int IntKind.i64 0)) 3, 4, "law.go:156", #[⟨0, .data⟩], none⟩
def sty19_o2 : Oper := ⟨some 71, .move (.tmp 70), 4, "law.go:156", #[⟨1, .data⟩], none⟩
def sty19_o3 : Oper := ⟨some 72, .move (.tmp 12), 3, "law.go:156", #[⟨2, .guard⟩], some (2, true)⟩
def sty19_o4 : Oper := ⟨some 73, .move (.tmp 10), 3, "law.go:156", #[⟨2, .guard⟩], some (2, true)⟩
def sty19_o5 : Oper := ⟨some 74, .binOp BinOp.leq 3 (.tmp 72) (.tmp 73) 3, 4, "law.go:156", #[⟨3, .data⟩, ⟨4, .data⟩, ⟨2, .guard⟩], some (2, true)⟩
def sty19_o6 : Oper := ⟨some 75, .pick (.tmp 71) (.tmp 74) (Operand.const (Value.bool false)), 4, "law.go:156", #[⟨2, .data⟩, ⟨5, .data⟩], none⟩
def sty19_ops : Array Oper := #[sty19_o0, sty19_o1, sty19_o2, sty19_o3, sty19_o4, sty19_o5, sty19_o6]
theorem sty19a {r z : Int} (a : Act) (w : World) (Q : Exit → Act → World → Prop) (hsz : a.tmps.size = 97)
    (t12 : a.tmps.getD 12 undef = .int .i64 r)
    (t10 : a.tmps.getD 10 undef = .int .i64 z)
    (hg : decide (r ≥ 0) = true) (hl : decide (r ≤ z) = false)
    (h : ∀ (a' : Act) (w' : World), w' = w → a' = (((((((a).put (some 69) (.int .i64 r)).put (some 70) (.bool true)).put (some 71) (.bool true)).put (some 72) (.int .i64 r)).put (some 73) (.int .i64 z)).put (some 74) (.bool false)).put (some 75) (.bool false) → Q .normal a' w') :
    (Code.region 19 sty19_ops false).wp Try.prog Q a w := by
  refine wp_region_list ?_
  change wpList _ _ _ [sty19_o0, sty19_o1, sty19_o2, sty19_o3, sty19_o4, sty19_o5, sty19_o6] _ _
  refine qv (v := .int .i64 r) (by rfl) (exec_move rfl t12) (fun a0 e0 => ?_)
  rw [← e0] at h
  have z0 := pz e0 hsz
  replace t12 := pk e0 t12
  replace t10 := pk e0 t10
  have t69 := pq e0 hsz
  clear e0 hsz
  refine qv (v := .bool true) (by rfl) (ex_geq rfl t69 rfl hg) (fun a1 e1 => ?_)
  rw [← e1] at h
  have z1 := pz e1 z0
  replace t12 := pk e1 t12
  replace t10 := pk e1 t10
  clear t69
  have t70 := pq e1 z0
  clear e1 z0
  refine qv (v := .bool true) (by rfl) (exec_move rfl t70) (fun a2 e2 => ?_)
  rw [← e2] at h
  have z2 := pz e2 z1
  replace t12 := pk e2 t12
  replace t10 := pk e2 t10
  clear t70
  have t71 := pq e2 z1
  clear e2 z1
  refine qv (v := .int .i64 r) (by simp [Region.wanted, yielded, sty19_ops, sty19_o3, sty19_o2, tget z2 (by decide) t71]) (exec_move rfl t12) (fun a3 e3 => ?_)
  rw [← e3] at h
  have z3 := pz e3 z2
  replace t10 := pk e3 t10
  replace t71 := pk e3 t71
  clear t12
  have t72 := pq e3 z2
  clear e3 z2
  refine qv (v := .int .i64 z) (by simp [Region.wanted, yielded, sty19_ops, sty19_o4, sty19_o2, tget z3 (by decide) t71]) (exec_move rfl t10) (fun a4 e4 => ?_)
  rw [← e4] at h
  have z4 := pz e4 z3
  replace t71 := pk e4 t71
  replace t72 := pk e4 t72
  clear t10
  have t73 := pq e4 z3
  clear e4 z3
  refine qv (v := .bool false) (by simp [Region.wanted, yielded, sty19_ops, sty19_o5, sty19_o2, tget z4 (by decide) t71]) (ex_leq rfl t72 t73 hl) (fun a5 e5 => ?_)
  rw [← e5] at h
  have z5 := pz e5 z4
  replace t71 := pk e5 t71
  clear t72 t73
  have t74 := pq e5 z4
  clear e5 z4
  refine qv (v := .bool false) (by rfl) (by unfold sty19_o6; go_simp) (fun a6 e6 => ?_)
  rw [← e6] at h
  have z6 := pz e6 z5
  clear t71 t74
  clear e6 z5
  exact wpList_nil (h _ _ (rfl) rfl)
theorem sty19b {r z : Int} (a : Act) (w : World) (Q : Exit → Act → World → Prop) (hsz : a.tmps.size = 97)
    (t12 : a.tmps.getD 12 undef = .int .i64 r)
    (t10 : a.tmps.getD 10 undef = .int .i64 z)
    (hg : decide (r ≥ 0) = false)
    (h : ∀ (a' : Act) (w' : World), w' = w → a' = (((((((a).put (some 69) (.int .i64 r)).put (some 70) (.bool false)).put (some 71) (.bool false)).put (some 72) (undef)).put (some 73) (undef)).put (some 74) (undef)).put (some 75) (.bool false) → Q .normal a' w') :
    (Code.region 19 sty19_ops false).wp Try.prog Q a w := by
  refine wp_region_list ?_
  change wpList _ _ _ [sty19_o0, sty19_o1, sty19_o2, sty19_o3, sty19_o4, sty19_o5, sty19_o6] _ _
  refine qv (v := .int .i64 r) (by rfl) (exec_move rfl t12) (fun a0 e0 => ?_)
  rw [← e0] at h
  have z0 := pz e0 hsz
  replace t12 := pk e0 t12
  replace t10 := pk e0 t10
  have t69 := pq e0 hsz
  clear e0 hsz
  refine qv (v := .bool false) (by rfl) (ex_geq rfl t69 rfl hg) (fun a1 e1 => ?_)
  rw [← e1] at h
  have z1 := pz e1 z0
  replace t12 := pk e1 t12
  replace t10 := pk e1 t10
  clear t69
  have t70 := pq e1 z0
  clear e1 z0
  refine qv (v := .bool false) (by rfl) (exec_move rfl t70) (fun a2 e2 => ?_)
  rw [← e2] at h
  have z2 := pz e2 z1
  replace t12 := pk e2 t12
  replace t10 := pk e2 t10
  clear t70
  have t71 := pq e2 z1
  clear e2 z1
  refine qn (by simp [Region.wanted, yielded, sty19_ops, sty19_o3, sty19_o2, tget z2 (by decide) t71]) (fun a3 e3 => ?_)
  rw [← e3] at h
  have z3 := pz e3 z2
  replace t10 := pk e3 t10
  replace t71 := pk e3 t71
  clear t12
  have t72 := pq e3 z2
  clear e3 z2
  refine qn (by simp [Region.wanted, yielded, sty19_ops, sty19_o4, sty19_o2, tget z3 (by decide) t71]) (fun a4 e4 => ?_)
  rw [← e4] at h
  have z4 := pz e4 z3
  replace t71 := pk e4 t71
  replace t72 := pk e4 t72
  clear t10
  have t73 := pq e4 z3
  clear e4 z3
  refine qn (by simp [Region.wanted, yielded, sty19_ops, sty19_o5, sty19_o2, tget z4 (by decide) t71]) (fun a5 e5 => ?_)
  rw [← e5] at h
  have z5 := pz e5 z4
  replace t71 := pk e5 t71
  clear t72 t73
  have t74 := pq e5 z4
  clear e5 z4
  refine qv (v := .bool false) (by rfl) (by unfold sty19_o6; go_simp) (fun a6 e6 => ?_)
  rw [← e6] at h
  have z6 := pz e6 z5
  clear t71 t74
  clear e6 z5
  exact wpList_nil (h _ _ (rfl) rfl)
def sty21_o0 : Oper := ⟨some 76, .move (.tmp 12), 3, "law.go:159", #[], none⟩
def sty21_o1 : Oper := ⟨some 77, .binOp BinOp.lss 3 (.tmp 76) (Operand.const (Value.int IntKind.i64 0)) 3, 4, "law.go:159", #[⟨0, .data⟩], none⟩
def sty21_o2 : Oper := ⟨some 78, .move (.tmp 77), 4, "law.go:159", #[⟨1, .data⟩], none⟩
def sty21_o3 : Oper := ⟨some 79, .fieldAddr 34 (.tmp 8) 0, 0, "law.go:159", #[⟨2, .guard⟩], some (2, true)⟩
def sty21_o4 : Oper := ⟨some 80, .load 3 (.tmp 79), 3, "law.go:159", #[⟨3, .data⟩, ⟨2, .guard⟩], some (2, true)⟩
def sty21_o5 : Oper := ⟨some 81, .binOp BinOp.eql 3 (.tmp 80) (Operand.const (Value.int IntKind.i64 1)) 3, 4, "law.go:159", #[⟨4, .data⟩, ⟨2, .guard⟩], some (2, true)⟩
def sty21_o6 : Oper := ⟨some 82, .move (.tmp 81), 4, "law.go:159", #[⟨5, .data⟩, ⟨2, .chain⟩, ⟨2, .guard⟩], some (2, true)⟩
def sty21_o7 : Oper := ⟨some 83, .move (.tmp 9), 47, "law.go:159", #[⟨6, .guard⟩], some (6, true)⟩
def sty21_o8 : Oper := ⟨some 84, .move (.tmp 11), 3, "law.go:159", #[⟨6, .guard⟩], some (6, true)⟩
def sty21_o9 : Oper := ⟨some 85, .indexAddr 47 (.tmp 83) (.tmp 84), 0, "law.go:159", #[⟨7, .data⟩, ⟨8, .data⟩, ⟨6, .guard⟩], some (6, true)⟩
def sty21_o10 : Oper := ⟨some 86, .load 32 (.tmp 85), 32, "law.go:159", #[⟨9, .data⟩, ⟨6, .guard⟩], some (6, true)⟩
def sty21_o11 : Oper := ⟨some 87, .fieldAddr 34 (.tmp 8) 2, 0, "law.go:159", #[⟨6, .guard⟩], some (6, true)⟩
def sty21_o12 : Oper := ⟨some 88, .load 32 (.tmp 87), 32, "law.go:159", #[⟨11, .data⟩, ⟨6, .guard⟩], some (6, true)⟩
def sty21_o13 : Oper := ⟨some 89, .binOp BinOp.eql 32 (.tmp 86) (.tmp 88) 32, 4, "law.go:159", #[⟨10, .data⟩, ⟨12, .data⟩, ⟨6, .guard⟩], some (6, true)⟩
def sty21_o14 : Oper := ⟨some 90, .pick (.tmp 82) (.tmp 89) (Operand.const (Value.bool false)), 4, "law.go:159", #[⟨6, .data⟩, ⟨13, .data⟩, ⟨2, .guard⟩], some (2, true)⟩
def sty21_o15 : Oper := ⟨some 91, .unOp UnOp.not 4 (.tmp 90), 4, "law.go:159", #[⟨14, .data⟩, ⟨2, .guard⟩], some (2, true)⟩
def sty21_o16 : Oper := ⟨some 92, .pick (.tmp 78) (.tmp 91) (Operand.const (Value.bool false)), 4, "law.go:159", #[⟨2, .data⟩, ⟨15, .data⟩], none⟩
def sty21_ops : Array Oper := #[sty21_o0, sty21_o1, sty21_o2, sty21_o3, sty21_o4, sty21_o5, sty21_o6, sty21_o7, sty21_o8, sty21_o9, sty21_o10, sty21_o11, sty21_o12, sty21_o13, sty21_o14, sty21_o15, sty21_o16]
theorem sty21a {wb wo m wc i : Nat} {x : IdK} {bo : Nat} {r : Int} (a : Act) (w : World) (Q : Exit → Act → World → Prop) (hsz : a.tmps.size = 97)
    (t12 : a.tmps.getD 12 undef = .int .i64 r)
    (t8 : a.tmps.getD 8 undef = .pointer (some ⟨bo, 0, none⟩))
    (t9 : a.tmps.getD 9 undef = .slice (some ⟨wb, wo, none⟩) m wc)
    (t11 : a.tmps.getD 11 undef = .int .i64 (i : Int))
    (hg : decide (r < 0) = false)
    (h : ∀ (a' : Act) (w' : World), w' = w.drew → a' = (((((((((((((((((a).put (some 76) (.int .i64 r)).put (some 77) (.bool false)).put (some 78) (.bool false)).put (some 79) (undef)).put (some 80) (undef)).put (some 81) (undef)).put (some 82) (undef)).put (some 83) (undef)).put (some 84) (undef)).put (some 85) (undef)).put (some 86) (undef)).put (some 87) (undef)).put (some 88) (undef)).put (some 89) (undef)).put (some 90) (undef)).put (some 91) (undef)).put (some 92) (.bool false) → Q .normal a' w') :
    (Code.region 21 sty21_ops true).wp Try.prog Q a w := by
  refine wp_region_noPanic ?_
  refine wp_region_held_drew (S := fun w' => w' = w.drew) (by kernel_rfl) (rfl) (fun hHeld => ?_)
  refine wpAnyH_take (i := 0) (oi := sty21_o0) (v := .int .i64 r) rfl (by kernel_rfl) (by kernel_rfl) (by kernel_rfl) (fun _ _ _ h => h) (Or.inl ⟨by rfl, fun w1 hw => exec_move rfl t12⟩) hHeld ?_
  change wpAnyH _ _ _ _ _ _ _ (a.put (some 76) (.int .i64 r)) _
  obtain ⟨a0, e0⟩ : ∃ act, act = a.put (some 76) (.int .i64 r) := ⟨_, rfl⟩
  rw [← e0] at h ⊢
  have z0 := pz e0 hsz
  replace t8 := pk e0 t8
  replace t9 := pk e0 t9
  replace t11 := pk e0 t11
  clear t12
  have t76 := pq e0 hsz
  clear e0 hsz
  refine wpAnyH_take (i := 1) (oi := sty21_o1) (v := .bool false) rfl (by kernel_rfl) (by kernel_rfl) (by kernel_rfl) (fun _ _ _ h => h) (Or.inl ⟨by rfl, fun w1 hw => ex_lss rfl t76 rfl hg⟩) hHeld ?_
  change wpAnyH _ _ _ _ _ _ _ (a0.put (some 77) (.bool false)) _
  obtain ⟨a1, e1⟩ : ∃ act, act = a0.put (some 77) (.bool false) := ⟨_, rfl⟩
  rw [← e1] at h ⊢
  have z1 := pz e1 z0
  replace t8 := pk e1 t8
  replace t9 := pk e1 t9
  replace t11 := pk e1 t11
  clear t76
  have t77 := pq e1 z0
  clear e1 z0
  refine wpAnyH_take (i := 2) (oi := sty21_o2) (v := .bool false) rfl (by kernel_rfl) (by kernel_rfl) (by kernel_rfl) (fun _ _ _ h => h) (Or.inl ⟨by rfl, fun w1 hw => exec_move rfl t77⟩) hHeld ?_
  change wpAnyH _ _ _ _ _ _ _ (a1.put (some 78) (.bool false)) _
  obtain ⟨a2, e2⟩ : ∃ act, act = a1.put (some 78) (.bool false) := ⟨_, rfl⟩
  rw [← e2] at h ⊢
  have z2 := pz e2 z1
  replace t8 := pk e2 t8
  replace t9 := pk e2 t9
  replace t11 := pk e2 t11
  clear t77
  have t78 := pq e2 z1
  clear e2 z1
  refine wpAnyH_take (i := 3) (oi := sty21_o3) (v := undef) rfl (by kernel_rfl) (by kernel_rfl) (by kernel_rfl) (fun _ _ _ h => h) (Or.inr ⟨by simp [Region.wanted, yielded, sty21_ops, sty21_o3, sty21_o2, tget z2 (by decide) t78], rfl⟩) hHeld ?_
  change wpAnyH _ _ _ _ _ _ _ (a2.put (some 79) (undef)) _
  obtain ⟨a3, e3⟩ : ∃ act, act = a2.put (some 79) (undef) := ⟨_, rfl⟩
  rw [← e3] at h ⊢
  have z3 := pz e3 z2
  replace t8 := pk e3 t8
  replace t9 := pk e3 t9
  replace t11 := pk e3 t11
  replace t78 := pk e3 t78
  have t79 := pq e3 z2
  clear e3 z2
  refine wpAnyH_take (i := 4) (oi := sty21_o4) (v := undef) rfl (by kernel_rfl) (by kernel_rfl) (by kernel_rfl) (fun _ _ _ h => h) (Or.inr ⟨by simp [Region.wanted, yielded, sty21_ops, sty21_o4, sty21_o2, tget z3 (by decide) t78], rfl⟩) hHeld ?_
  change wpAnyH _ _ _ _ _ _ _ (a3.put (some 80) (undef)) _
  obtain ⟨a4, e4⟩ : ∃ act, act = a3.put (some 80) (undef) := ⟨_, rfl⟩
  rw [← e4] at h ⊢
  have z4 := pz e4 z3
  replace t8 := pk e4 t8
  replace t9 := pk e4 t9
  replace t11 := pk e4 t11
  replace t78 := pk e4 t78
  clear t79
  have t80 := pq e4 z3
  clear e4 z3
  refine wpAnyH_take (i := 5) (oi := sty21_o5) (v := undef) rfl (by kernel_rfl) (by kernel_rfl) (by kernel_rfl) (fun _ _ _ h => h) (Or.inr ⟨by simp [Region.wanted, yielded, sty21_ops, sty21_o5, sty21_o2, tget z4 (by decide) t78], rfl⟩) hHeld ?_
  change wpAnyH _ _ _ _ _ _ _ (a4.put (some 81) (undef)) _
  obtain ⟨a5, e5⟩ : ∃ act, act = a4.put (some 81) (undef) := ⟨_, rfl⟩
  rw [← e5] at h ⊢
  have z5 := pz e5 z4
  replace t8 := pk e5 t8
  replace t9 := pk e5 t9
  replace t11 := pk e5 t11
  replace t78 := pk e5 t78
  clear t80
  have t81 := pq e5 z4
  clear e5 z4
  refine wpAnyH_take (i := 6) (oi := sty21_o6) (v := undef) rfl (by kernel_rfl) (by kernel_rfl) (by kernel_rfl) (fun _ _ _ h => h) (Or.inr ⟨by simp [Region.wanted, yielded, sty21_ops, sty21_o6, sty21_o2, tget z5 (by decide) t78], rfl⟩) hHeld ?_
  change wpAnyH _ _ _ _ _ _ _ (a5.put (some 82) (undef)) _
  obtain ⟨a6, e6⟩ : ∃ act, act = a5.put (some 82) (undef) := ⟨_, rfl⟩
  rw [← e6] at h ⊢
  have z6 := pz e6 z5
  replace t8 := pk e6 t8
  replace t9 := pk e6 t9
  replace t11 := pk e6 t11
  replace t78 := pk e6 t78
  clear t81
  have t82 := pq e6 z5
  clear e6 z5
  refine wpAnyH_take (i := 7) (oi := sty21_o7) (v := undef) rfl (by kernel_rfl) (by kernel_rfl) (by kernel_rfl) (fun _ _ _ h => h) (Or.inr ⟨by simp [Region.wanted, yielded, sty21_ops, sty21_o7, sty21_o6, tget z6 (by decide) t82, undef], rfl⟩) hHeld ?_
  change wpAnyH _ _ _ _ _ _ _ (a6.put (some 83) (undef)) _
  obtain ⟨a7, e7⟩ : ∃ act, act = a6.put (some 83) (undef) := ⟨_, rfl⟩
  rw [← e7] at h ⊢
  have z7 := pz e7 z6
  replace t8 := pk e7 t8
  replace t11 := pk e7 t11
  replace t78 := pk e7 t78
  replace t82 := pk e7 t82
  clear t9
  have t83 := pq e7 z6
  clear e7 z6
  refine wpAnyH_take (i := 8) (oi := sty21_o8) (v := undef) rfl (by kernel_rfl) (by kernel_rfl) (by kernel_rfl) (fun _ _ _ h => h) (Or.inr ⟨by simp [Region.wanted, yielded, sty21_ops, sty21_o8, sty21_o6, tget z7 (by decide) t82, undef], rfl⟩) hHeld ?_
  change wpAnyH _ _ _ _ _ _ _ (a7.put (some 84) (undef)) _
  obtain ⟨a8, e8⟩ : ∃ act, act = a7.put (some 84) (undef) := ⟨_, rfl⟩
  rw [← e8] at h ⊢
  have z8 := pz e8 z7
  replace t8 := pk e8 t8
  replace t78 := pk e8 t78
  replace t82 := pk e8 t82
  replace t83 := pk e8 t83
  clear t11
  have t84 := pq e8 z7
  clear e8 z7
  refine wpAnyH_take (i := 9) (oi := sty21_o9) (v := undef) rfl (by kernel_rfl) (by kernel_rfl) (by kernel_rfl) (fun _ _ _ h => h) (Or.inr ⟨by simp [Region.wanted, yielded, sty21_ops, sty21_o9, sty21_o6, tget z8 (by decide) t82, undef], rfl⟩) hHeld ?_
  change wpAnyH _ _ _ _ _ _ _ (a8.put (some 85) (undef)) _
  obtain ⟨a9, e9⟩ : ∃ act, act = a8.put (some 85) (undef) := ⟨_, rfl⟩
  rw [← e9] at h ⊢
  have z9 := pz e9 z8
  replace t8 := pk e9 t8
  replace t78 := pk e9 t78
  replace t82 := pk e9 t82
  clear t83 t84
  have t85 := pq e9 z8
  clear e9 z8
  refine wpAnyH_take (i := 10) (oi := sty21_o10) (v := undef) rfl (by kernel_rfl) (by kernel_rfl) (by kernel_rfl) (fun _ _ _ h => h) (Or.inr ⟨by simp [Region.wanted, yielded, sty21_ops, sty21_o10, sty21_o6, tget z9 (by decide) t82, undef], rfl⟩) hHeld ?_
  change wpAnyH _ _ _ _ _ _ _ (a9.put (some 86) (undef)) _
  obtain ⟨a10, e10⟩ : ∃ act, act = a9.put (some 86) (undef) := ⟨_, rfl⟩
  rw [← e10] at h ⊢
  have z10 := pz e10 z9
  replace t8 := pk e10 t8
  replace t78 := pk e10 t78
  replace t82 := pk e10 t82
  clear t85
  have t86 := pq e10 z9
  clear e10 z9
  refine wpAnyH_take (i := 11) (oi := sty21_o11) (v := undef) rfl (by kernel_rfl) (by kernel_rfl) (by kernel_rfl) (fun _ _ _ h => h) (Or.inr ⟨by simp [Region.wanted, yielded, sty21_ops, sty21_o11, sty21_o6, tget z10 (by decide) t82, undef], rfl⟩) hHeld ?_
  change wpAnyH _ _ _ _ _ _ _ (a10.put (some 87) (undef)) _
  obtain ⟨a11, e11⟩ : ∃ act, act = a10.put (some 87) (undef) := ⟨_, rfl⟩
  rw [← e11] at h ⊢
  have z11 := pz e11 z10
  replace t78 := pk e11 t78
  replace t82 := pk e11 t82
  replace t86 := pk e11 t86
  clear t8
  have t87 := pq e11 z10
  clear e11 z10
  refine wpAnyH_take (i := 12) (oi := sty21_o12) (v := undef) rfl (by kernel_rfl) (by kernel_rfl) (by kernel_rfl) (fun _ _ _ h => h) (Or.inr ⟨by simp [Region.wanted, yielded, sty21_ops, sty21_o12, sty21_o6, tget z11 (by decide) t82, undef], rfl⟩) hHeld ?_
  change wpAnyH _ _ _ _ _ _ _ (a11.put (some 88) (undef)) _
  obtain ⟨a12, e12⟩ : ∃ act, act = a11.put (some 88) (undef) := ⟨_, rfl⟩
  rw [← e12] at h ⊢
  have z12 := pz e12 z11
  replace t78 := pk e12 t78
  replace t82 := pk e12 t82
  replace t86 := pk e12 t86
  clear t87
  have t88 := pq e12 z11
  clear e12 z11
  refine wpAnyH_take (i := 13) (oi := sty21_o13) (v := undef) rfl (by kernel_rfl) (by kernel_rfl) (by kernel_rfl) (fun _ _ _ h => h) (Or.inr ⟨by simp [Region.wanted, yielded, sty21_ops, sty21_o13, sty21_o6, tget z12 (by decide) t82, undef], rfl⟩) hHeld ?_
  change wpAnyH _ _ _ _ _ _ _ (a12.put (some 89) (undef)) _
  obtain ⟨a13, e13⟩ : ∃ act, act = a12.put (some 89) (undef) := ⟨_, rfl⟩
  rw [← e13] at h ⊢
  have z13 := pz e13 z12
  replace t78 := pk e13 t78
  replace t82 := pk e13 t82
  clear t86 t88
  have t89 := pq e13 z12
  clear e13 z12
  refine wpAnyH_take (i := 14) (oi := sty21_o14) (v := undef) rfl (by kernel_rfl) (by kernel_rfl) (by kernel_rfl) (fun _ _ _ h => h) (Or.inr ⟨by simp [Region.wanted, yielded, sty21_ops, sty21_o14, sty21_o2, tget z13 (by decide) t78], rfl⟩) hHeld ?_
  change wpAnyH _ _ _ _ _ _ _ (a13.put (some 90) (undef)) _
  obtain ⟨a14, e14⟩ : ∃ act, act = a13.put (some 90) (undef) := ⟨_, rfl⟩
  rw [← e14] at h ⊢
  have z14 := pz e14 z13
  replace t78 := pk e14 t78
  clear t82 t89
  have t90 := pq e14 z13
  clear e14 z13
  refine wpAnyH_take (i := 15) (oi := sty21_o15) (v := undef) rfl (by kernel_rfl) (by kernel_rfl) (by kernel_rfl) (fun _ _ _ h => h) (Or.inr ⟨by simp [Region.wanted, yielded, sty21_ops, sty21_o15, sty21_o2, tget z14 (by decide) t78], rfl⟩) hHeld ?_
  change wpAnyH _ _ _ _ _ _ _ (a14.put (some 91) (undef)) _
  obtain ⟨a15, e15⟩ : ∃ act, act = a14.put (some 91) (undef) := ⟨_, rfl⟩
  rw [← e15] at h ⊢
  have z15 := pz e15 z14
  replace t78 := pk e15 t78
  clear t90
  have t91 := pq e15 z14
  clear e15 z14
  refine wpAnyH_take (i := 16) (oi := sty21_o16) (v := .bool false) rfl (by kernel_rfl) (by kernel_rfl) (by kernel_rfl) (fun _ _ _ h => h) (Or.inl ⟨by rfl, fun w1 hw => by unfold sty21_o16; go_simp⟩) hHeld ?_
  change wpAnyH _ _ _ _ _ _ _ (a15.put (some 92) (.bool false)) _
  obtain ⟨a16, e16⟩ : ∃ act, act = a15.put (some 92) (.bool false) := ⟨_, rfl⟩
  rw [← e16] at h ⊢
  have z16 := pz e16 z15
  clear t78 t91
  clear e16 z15
  exact wpAnyH_done (by kernel_rfl) (NoPanic.normal (h _ _ (hHeld) rfl)) _
theorem sty21b {wb wo m wc i : Nat} {x : IdK} {bo : Nat} {r : Int} {o : OpV} (a : Act) (w : World) (Q : Exit → Act → World → Prop) (hsz : a.tmps.size = 97)
    (t12 : a.tmps.getD 12 undef = .int .i64 r)
    (t8 : a.tmps.getD 8 undef = .pointer (some ⟨bo, 0, none⟩))
    (t9 : a.tmps.getD 9 undef = .slice (some ⟨wb, wo, none⟩) m wc)
    (t11 : a.tmps.getD 11 undef = .int .i64 (i : Int))
    (hx : x.ok) (hi : i < m) (hm : m ≤ 1400000000000) (ho : o.ok) (hg : decide (r < 0) = true) (hk : decide (o.kind = 1) = true) (he : decide (x = o.id) = true) (h0 : w.drew.rangeAt wb (wo + 33 * i) x.c) (hb : w.drew.rangeAt bo 0 o.c)
    (h : ∀ (a' : Act) (w' : World), w' = w.drew → a' = (((((((((((((((((a).put (some 76) (.int .i64 r)).put (some 77) (.bool true)).put (some 78) (.bool true)).put (some 79) (.pointer (some ⟨bo, 0 + 0, none⟩))).put (some 80) (.int .i64 o.kind)).put (some 81) (.bool true)).put (some 82) (.bool true)).put (some 83) (.slice (some ⟨wb, wo, none⟩) m wc)).put (some 84) (.int .i64 (i : Int))).put (some 85) (.pointer (some ⟨wb, wo + 33 * i, none⟩))).put (some 86) (x.v)).put (some 87) (.pointer (some ⟨bo, 0 + 2, none⟩))).put (some 88) (o.id.v)).put (some 89) (.bool true)).put (some 90) (.bool true)).put (some 91) (.bool false)).put (some 92) (.bool false) → Q .normal a' w') :
    (Code.region 21 sty21_ops true).wp Try.prog Q a w := by
  refine wp_region_noPanic ?_
  refine wp_region_held_drew (S := fun w' => w' = w.drew) (by kernel_rfl) (rfl) (fun hHeld => ?_)
  refine wpAnyH_take (i := 0) (oi := sty21_o0) (v := .int .i64 r) rfl (by kernel_rfl) (by kernel_rfl) (by kernel_rfl) (fun _ _ _ h => h) (Or.inl ⟨by rfl, fun w1 hw => exec_move rfl t12⟩) hHeld ?_
  change wpAnyH _ _ _ _ _ _ _ (a.put (some 76) (.int .i64 r)) _
  obtain ⟨a0, e0⟩ : ∃ act, act = a.put (some 76) (.int .i64 r) := ⟨_, rfl⟩
  rw [← e0] at h ⊢
  have z0 := pz e0 hsz
  replace t8 := pk e0 t8
  replace t9 := pk e0 t9
  replace t11 := pk e0 t11
  clear t12
  have t76 := pq e0 hsz
  clear e0 hsz
  refine wpAnyH_take (i := 1) (oi := sty21_o1) (v := .bool true) rfl (by kernel_rfl) (by kernel_rfl) (by kernel_rfl) (fun _ _ _ h => h) (Or.inl ⟨by rfl, fun w1 hw => ex_lss rfl t76 rfl hg⟩) hHeld ?_
  change wpAnyH _ _ _ _ _ _ _ (a0.put (some 77) (.bool true)) _
  obtain ⟨a1, e1⟩ : ∃ act, act = a0.put (some 77) (.bool true) := ⟨_, rfl⟩
  rw [← e1] at h ⊢
  have z1 := pz e1 z0
  replace t8 := pk e1 t8
  replace t9 := pk e1 t9
  replace t11 := pk e1 t11
  clear t76
  have t77 := pq e1 z0
  clear e1 z0
  refine wpAnyH_take (i := 2) (oi := sty21_o2) (v := .bool true) rfl (by kernel_rfl) (by kernel_rfl) (by kernel_rfl) (fun _ _ _ h => h) (Or.inl ⟨by rfl, fun w1 hw => exec_move rfl t77⟩) hHeld ?_
  change wpAnyH _ _ _ _ _ _ _ (a1.put (some 78) (.bool true)) _
  obtain ⟨a2, e2⟩ : ∃ act, act = a1.put (some 78) (.bool true) := ⟨_, rfl⟩
  rw [← e2] at h ⊢
  have z2 := pz e2 z1
  replace t8 := pk e2 t8
  replace t9 := pk e2 t9
  replace t11 := pk e2 t11
  clear t77
  have t78 := pq e2 z1
  clear e2 z1
  refine wpAnyH_take (i := 3) (oi := sty21_o3) (v := .pointer (some ⟨bo, 0 + 0, none⟩)) rfl (by kernel_rfl) (by kernel_rfl) (by kernel_rfl) (fun _ _ _ h => h) (Or.inl ⟨by simp [Region.wanted, yielded, sty21_ops, sty21_o3, sty21_o2, tget z2 (by decide) t78], fun w1 hw => exec_fieldAt rfl t8 (fg_34_0 _ _ _)⟩) hHeld ?_
  change wpAnyH _ _ _ _ _ _ _ (a2.put (some 79) (.pointer (some ⟨bo, 0 + 0, none⟩))) _
  obtain ⟨a3, e3⟩ : ∃ act, act = a2.put (some 79) (.pointer (some ⟨bo, 0 + 0, none⟩)) := ⟨_, rfl⟩
  rw [← e3] at h ⊢
  have z3 := pz e3 z2
  replace t8 := pk e3 t8
  replace t9 := pk e3 t9
  replace t11 := pk e3 t11
  replace t78 := pk e3 t78
  have t79 := pq e3 z2
  clear e3 z2
  refine wpAnyH_take (i := 4) (oi := sty21_o4) (v := .int .i64 o.kind) rfl (by kernel_rfl) (by kernel_rfl) (by kernel_rfl) (fun _ _ _ h => h) (Or.inl ⟨by simp [Region.wanted, yielded, sty21_ops, sty21_o4, sty21_o2, tget z3 (by decide) t78], fun w1 hw => exec_load rfl t79 (op_kind (by rw [hw]; exact hb))⟩) hHeld ?_
  change wpAnyH _ _ _ _ _ _ _ (a3.put (some 80) (.int .i64 o.kind)) _
  obtain ⟨a4, e4⟩ : ∃ act, act = a3.put (some 80) (.int .i64 o.kind) := ⟨_, rfl⟩
  rw [← e4] at h ⊢
  have z4 := pz e4 z3
  replace t8 := pk e4 t8
  replace t9 := pk e4 t9
  replace t11 := pk e4 t11
  replace t78 := pk e4 t78
  clear t79
  have t80 := pq e4 z3
  clear e4 z3
  refine wpAnyH_take (i := 5) (oi := sty21_o5) (v := .bool true) rfl (by kernel_rfl) (by kernel_rfl) (by kernel_rfl) (fun _ _ _ h => h) (Or.inl ⟨by simp [Region.wanted, yielded, sty21_ops, sty21_o5, sty21_o2, tget z4 (by decide) t78], fun w1 hw => ex_eql rfl t80 rfl hk⟩) hHeld ?_
  change wpAnyH _ _ _ _ _ _ _ (a4.put (some 81) (.bool true)) _
  obtain ⟨a5, e5⟩ : ∃ act, act = a4.put (some 81) (.bool true) := ⟨_, rfl⟩
  rw [← e5] at h ⊢
  have z5 := pz e5 z4
  replace t8 := pk e5 t8
  replace t9 := pk e5 t9
  replace t11 := pk e5 t11
  replace t78 := pk e5 t78
  clear t80
  have t81 := pq e5 z4
  clear e5 z4
  refine wpAnyH_take (i := 6) (oi := sty21_o6) (v := .bool true) rfl (by kernel_rfl) (by kernel_rfl) (by kernel_rfl) (fun _ _ _ h => h) (Or.inl ⟨by simp [Region.wanted, yielded, sty21_ops, sty21_o6, sty21_o2, tget z5 (by decide) t78], fun w1 hw => exec_move rfl t81⟩) hHeld ?_
  change wpAnyH _ _ _ _ _ _ _ (a5.put (some 82) (.bool true)) _
  obtain ⟨a6, e6⟩ : ∃ act, act = a5.put (some 82) (.bool true) := ⟨_, rfl⟩
  rw [← e6] at h ⊢
  have z6 := pz e6 z5
  replace t8 := pk e6 t8
  replace t9 := pk e6 t9
  replace t11 := pk e6 t11
  replace t78 := pk e6 t78
  clear t81
  have t82 := pq e6 z5
  clear e6 z5
  refine wpAnyH_take (i := 7) (oi := sty21_o7) (v := .slice (some ⟨wb, wo, none⟩) m wc) rfl (by kernel_rfl) (by kernel_rfl) (by kernel_rfl) (fun _ _ _ h => h) (Or.inl ⟨by simp [Region.wanted, yielded, sty21_ops, sty21_o7, sty21_o6, tget z6 (by decide) t82], fun w1 hw => exec_move rfl t9⟩) hHeld ?_
  change wpAnyH _ _ _ _ _ _ _ (a6.put (some 83) (.slice (some ⟨wb, wo, none⟩) m wc)) _
  obtain ⟨a7, e7⟩ : ∃ act, act = a6.put (some 83) (.slice (some ⟨wb, wo, none⟩) m wc) := ⟨_, rfl⟩
  rw [← e7] at h ⊢
  have z7 := pz e7 z6
  replace t8 := pk e7 t8
  replace t11 := pk e7 t11
  replace t78 := pk e7 t78
  replace t82 := pk e7 t82
  clear t9
  have t83 := pq e7 z6
  clear e7 z6
  refine wpAnyH_take (i := 8) (oi := sty21_o8) (v := .int .i64 (i : Int)) rfl (by kernel_rfl) (by kernel_rfl) (by kernel_rfl) (fun _ _ _ h => h) (Or.inl ⟨by simp [Region.wanted, yielded, sty21_ops, sty21_o8, sty21_o6, tget z7 (by decide) t82], fun w1 hw => exec_move rfl t11⟩) hHeld ?_
  change wpAnyH _ _ _ _ _ _ _ (a7.put (some 84) (.int .i64 (i : Int))) _
  obtain ⟨a8, e8⟩ : ∃ act, act = a7.put (some 84) (.int .i64 (i : Int)) := ⟨_, rfl⟩
  rw [← e8] at h ⊢
  have z8 := pz e8 z7
  replace t8 := pk e8 t8
  replace t78 := pk e8 t78
  replace t82 := pk e8 t82
  replace t83 := pk e8 t83
  clear t11
  have t84 := pq e8 z7
  clear e8 z7
  refine wpAnyH_take (i := 9) (oi := sty21_o9) (v := .pointer (some ⟨wb, wo + 33 * i, none⟩)) rfl (by kernel_rfl) (by kernel_rfl) (by kernel_rfl) (fun _ _ _ h => h) (Or.inl ⟨by simp [Region.wanted, yielded, sty21_ops, sty21_o9, sty21_o6, tget z8 (by decide) t82], fun w1 hw => exec_indexAt rfl t83 t84 (ix_idl hi hm _)⟩) hHeld ?_
  change wpAnyH _ _ _ _ _ _ _ (a8.put (some 85) (.pointer (some ⟨wb, wo + 33 * i, none⟩))) _
  obtain ⟨a9, e9⟩ : ∃ act, act = a8.put (some 85) (.pointer (some ⟨wb, wo + 33 * i, none⟩)) := ⟨_, rfl⟩
  rw [← e9] at h ⊢
  have z9 := pz e9 z8
  replace t8 := pk e9 t8
  replace t78 := pk e9 t78
  replace t82 := pk e9 t82
  clear t83 t84
  have t85 := pq e9 z8
  clear e9 z8
  refine wpAnyH_take (i := 10) (oi := sty21_o10) (v := x.v) rfl (by kernel_rfl) (by kernel_rfl) (by kernel_rfl) (fun _ _ _ h => h) (Or.inl ⟨by simp [Region.wanted, yielded, sty21_ops, sty21_o10, sty21_o6, tget z9 (by decide) t82], fun w1 hw => exec_load rfl t85 (load_id_at hx (by rw [hw]; exact h0))⟩) hHeld ?_
  change wpAnyH _ _ _ _ _ _ _ (a9.put (some 86) (x.v)) _
  obtain ⟨a10, e10⟩ : ∃ act, act = a9.put (some 86) (x.v) := ⟨_, rfl⟩
  rw [← e10] at h ⊢
  have z10 := pz e10 z9
  replace t8 := pk e10 t8
  replace t78 := pk e10 t78
  replace t82 := pk e10 t82
  clear t85
  have t86 := pq e10 z9
  clear e10 z9
  refine wpAnyH_take (i := 11) (oi := sty21_o11) (v := .pointer (some ⟨bo, 0 + 2, none⟩)) rfl (by kernel_rfl) (by kernel_rfl) (by kernel_rfl) (fun _ _ _ h => h) (Or.inl ⟨by simp [Region.wanted, yielded, sty21_ops, sty21_o11, sty21_o6, tget z10 (by decide) t82], fun w1 hw => exec_fieldAt rfl t8 (fg_34_2 _ _ _)⟩) hHeld ?_
  change wpAnyH _ _ _ _ _ _ _ (a10.put (some 87) (.pointer (some ⟨bo, 0 + 2, none⟩))) _
  obtain ⟨a11, e11⟩ : ∃ act, act = a10.put (some 87) (.pointer (some ⟨bo, 0 + 2, none⟩)) := ⟨_, rfl⟩
  rw [← e11] at h ⊢
  have z11 := pz e11 z10
  replace t78 := pk e11 t78
  replace t82 := pk e11 t82
  replace t86 := pk e11 t86
  clear t8
  have t87 := pq e11 z10
  clear e11 z10
  refine wpAnyH_take (i := 12) (oi := sty21_o12) (v := o.id.v) rfl (by kernel_rfl) (by kernel_rfl) (by kernel_rfl) (fun _ _ _ h => h) (Or.inl ⟨by simp [Region.wanted, yielded, sty21_ops, sty21_o12, sty21_o6, tget z11 (by decide) t82], fun w1 hw => exec_load rfl t87 (op_id ho (by rw [hw]; exact hb))⟩) hHeld ?_
  change wpAnyH _ _ _ _ _ _ _ (a11.put (some 88) (o.id.v)) _
  obtain ⟨a12, e12⟩ : ∃ act, act = a11.put (some 88) (o.id.v) := ⟨_, rfl⟩
  rw [← e12] at h ⊢
  have z12 := pz e12 z11
  replace t78 := pk e12 t78
  replace t82 := pk e12 t82
  replace t86 := pk e12 t86
  clear t87
  have t88 := pq e12 z11
  clear e12 z11
  refine wpAnyH_take (i := 13) (oi := sty21_o13) (v := .bool true) rfl (by kernel_rfl) (by kernel_rfl) (by kernel_rfl) (fun _ _ _ h => h) (Or.inl ⟨by simp [Region.wanted, yielded, sty21_ops, sty21_o13, sty21_o6, tget z12 (by decide) t82], fun w1 hw => ex_eqlI rfl t86 t88 hx ho.id he⟩) hHeld ?_
  change wpAnyH _ _ _ _ _ _ _ (a12.put (some 89) (.bool true)) _
  obtain ⟨a13, e13⟩ : ∃ act, act = a12.put (some 89) (.bool true) := ⟨_, rfl⟩
  rw [← e13] at h ⊢
  have z13 := pz e13 z12
  replace t78 := pk e13 t78
  replace t82 := pk e13 t82
  clear t86 t88
  have t89 := pq e13 z12
  clear e13 z12
  refine wpAnyH_take (i := 14) (oi := sty21_o14) (v := .bool true) rfl (by kernel_rfl) (by kernel_rfl) (by kernel_rfl) (fun _ _ _ h => h) (Or.inl ⟨by simp [Region.wanted, yielded, sty21_ops, sty21_o14, sty21_o2, tget z13 (by decide) t78], fun w1 hw => by unfold sty21_o14; go_simp⟩) hHeld ?_
  change wpAnyH _ _ _ _ _ _ _ (a13.put (some 90) (.bool true)) _
  obtain ⟨a14, e14⟩ : ∃ act, act = a13.put (some 90) (.bool true) := ⟨_, rfl⟩
  rw [← e14] at h ⊢
  have z14 := pz e14 z13
  replace t78 := pk e14 t78
  clear t82 t89
  have t90 := pq e14 z13
  clear e14 z13
  refine wpAnyH_take (i := 15) (oi := sty21_o15) (v := .bool false) rfl (by kernel_rfl) (by kernel_rfl) (by kernel_rfl) (fun _ _ _ h => h) (Or.inl ⟨by simp [Region.wanted, yielded, sty21_ops, sty21_o15, sty21_o2, tget z14 (by decide) t78], fun w1 hw => by unfold sty21_o15; go_simp⟩) hHeld ?_
  change wpAnyH _ _ _ _ _ _ _ (a14.put (some 91) (.bool false)) _
  obtain ⟨a15, e15⟩ : ∃ act, act = a14.put (some 91) (.bool false) := ⟨_, rfl⟩
  rw [← e15] at h ⊢
  have z15 := pz e15 z14
  replace t78 := pk e15 t78
  clear t90
  have t91 := pq e15 z14
  clear e15 z14
  refine wpAnyH_take (i := 16) (oi := sty21_o16) (v := .bool false) rfl (by kernel_rfl) (by kernel_rfl) (by kernel_rfl) (fun _ _ _ h => h) (Or.inl ⟨by rfl, fun w1 hw => by unfold sty21_o16; go_simp⟩) hHeld ?_
  change wpAnyH _ _ _ _ _ _ _ (a15.put (some 92) (.bool false)) _
  obtain ⟨a16, e16⟩ : ∃ act, act = a15.put (some 92) (.bool false) := ⟨_, rfl⟩
  rw [← e16] at h ⊢
  have z16 := pz e16 z15
  clear t78 t91
  clear e16 z15
  exact wpAnyH_done (by kernel_rfl) (NoPanic.normal (h _ _ (hHeld) rfl)) _
def sty23_o0 : Oper := ⟨some 93, .move (.tmp 12), 3, "law.go:162", #[], none⟩
def sty23_o1 : Oper := ⟨some 94, .binOp BinOp.geq 3 (.tmp 93) (Operand.const (Value.int IntKind.i64 0)) 3, 4, "law.go:162", #[⟨0, .data⟩], none⟩
def sty23_ops : Array Oper := #[sty23_o0, sty23_o1]
theorem sty23 {r : Int} {g : Bool} (a : Act) (w : World) (Q : Exit → Act → World → Prop) (hsz : a.tmps.size = 97)
    (t12 : a.tmps.getD 12 undef = .int .i64 r)
    (hg : decide (r ≥ 0) = g)
    (h : ∀ (a' : Act) (w' : World), w' = w → a' = ((a).put (some 93) (.int .i64 r)).put (some 94) (.bool g) → Q .normal a' w') :
    (Code.region 23 sty23_ops false).wp Try.prog Q a w := by
  refine wp_region_list ?_
  change wpList _ _ _ [sty23_o0, sty23_o1] _ _
  refine qv (v := .int .i64 r) (by rfl) (exec_move rfl t12) (fun a0 e0 => ?_)
  rw [← e0] at h
  have z0 := pz e0 hsz
  clear t12
  have t93 := pq e0 hsz
  clear e0 hsz
  refine qv (v := .bool g) (by rfl) (ex_geq rfl t93 rfl hg) (fun a1 e1 => ?_)
  rw [← e1] at h
  have z1 := pz e1 z0
  clear t93
  clear e1 z0
  exact wpList_nil (h _ _ (rfl) rfl)
end Go.Proofs.Ytpdepbakopdgpaa
