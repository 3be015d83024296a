import Derived.Test.YtpdepbakopdgpaaP0
import Derived.Test.YtpdepbakopdgpaaXi
import Derived.Laws.CopyRow
import Derived.Test.YtpdepbakopdgpaaZr
set_option maxRecDepth 100000
set_option maxHeartbeats 4000000
namespace Go.Proofs.Ytpdepbakopdgpaa
open Go.RowKit Sq
set_option linter.unusedVariables false
set_option linter.unusedSimpArgs false
theorem BK.bare {w W : World} {s : Sx} {E : List Elt} {Ls : List (Value × List IdK)} (h : BK w s E Ls W) : BK w s E [] W := ⟨h.sq, h.lo, h.bel, fun p hp => by cases hp⟩
theorem BK.drew {w W : World} {s : Sx} {E : List Elt} {Ls : List (Value × List IdK)} (h : BK w s E Ls W) : BK w s E Ls W.drew := h.below ((Below.refl _ _).drew)
theorem BK.parts {w W : World} {s : Sx} {E : List Elt} {Ls : List (Value × List IdK)} (h : BK w s E Ls W) {u v : Value} {A B : List IdK} {n : Nat} (h1 : (u, B) ∈ Ls) (h2 : (v, A) ∈ Ls) (hn : n ≤ A.length) (hb : B.length = A.length + 1) (e1 : B.take n = A.take n) (e2 : B.drop (n + 1) = A.drop n) :
    ∃ u1 u2 u3 u4, (∀ W, (Instr.sliceAt 47 u none (some (.int .i64 (n : Int))) none).run Try.prog W = .ok u1 W) ∧ (∀ W, (Instr.sliceAt 47 v none (some (.int .i64 (n : Int))) none).run Try.prog W = .ok u2 W) ∧ (∀ W, (Instr.sliceAt 47 u (some (.int .i64 ((n + 1 : Nat) : Int))) none none).run Try.prog W = .ok u3 W) ∧ (∀ W, (Instr.sliceAt 47 v (some (.int .i64 (n : Int))) none none).run Try.prog W = .ok u4 W) ∧
    Calls Try.prog 26 #[u1, u2] W fun e w' => e = .returned (.bool true) ∧ Calls Try.prog 26 #[u3, u4] w' fun e2 w2 => e2 = .returned (.bool true) ∧ BK w s E [] w2 := by
  obtain ⟨a1, a2, a3, _⟩ := h.ls _ h1
  obtain ⟨b1, b2, b3, _⟩ := h.ls _ h2
  simp only at a1 a2 a3 b1 b2 b3
  obtain ⟨p1, q1, E1, I1⟩ := a1.upto a2 (n := n) (by omega) a3
  obtain ⟨p2, q2, E2, I2⟩ := b1.upto b2 (n := n) hn b3
  obtain ⟨p3, q3, E3, I3⟩ := a1.from a2 (n := n + 1) (by omega) a3
  obtain ⟨p4, q4, E4, I4⟩ := b1.from b2 (n := n) hn b3
  refine ⟨_, _, _, _, E1, E2, E3, E4, ?_⟩
  have l1 : (B.take n).length = n := by rw [List.length_take]; omega
  have l2 : (A.take n).length = n := by rw [List.length_take]; omega
  have l3 : (B.drop (n + 1)).length = B.length - (n + 1) := by rw [List.length_drop]
  have l4 : (A.drop n).length = A.length - n := by rw [List.length_drop]
  have s1 := same_ids p1 p2 q1 q2 (B.take n) (A.take n) W I1 I2 (fun x hx => a2 x (List.mem_of_mem_take hx)) (fun x hx => b2 x (List.mem_of_mem_take hx)) (by omega)
  rw [l1, l2, decide_eq_true e1] at s1
  refine s1.mono ?_
  rintro e w' ⟨rfl, bb⟩
  refine ⟨rfl, ?_⟩
  have s2 := same_ids p3 p4 q3 q4 (B.drop (n + 1)) (A.drop n) w' (I3.below bb) (I4.below bb) (fun x hx => a2 x (List.mem_of_mem_drop hx)) (fun x hx => b2 x (List.mem_of_mem_drop hx)) (by omega)
  rw [l3, l4, decide_eq_true e2] at s2
  refine s2.mono ?_
  rintro e w2 ⟨rfl, b2'⟩
  exact ⟨rfl, ((h.below bb).below b2').bare⟩
theorem ahead_get {F : List Elt} (ok : SeqOk F) (c : Bool) {i : Nat} (hi : i < F.length) : aheadE F c F[i].id = ((F.take i).countP (cE c) : Int) := by
  have hs : F = F.take i ++ F[i] :: F.drop (i + 1) := by rw [List.getElem_cons_drop]; exact (List.take_append_drop i F).symm
  have hh : hasE F F[i].id = true := hasE_iff.2 ⟨F[i], List.getElem_mem hi, rfl⟩
  unfold aheadE
  rw [if_pos hh]
  have e : F.takeWhile (fun e => !decide (e.id = F[i].id)) = F.take i := by
    have nd := ok.nd
    generalize F[i] = x at *
    rw [hs, List.map_append, List.map_cons, List.nodup_append] at nd
    conv => lhs; rw [hs]
    refine takeWhile_mid (fun y hy => ?_) (by simp)
    have : y.id ≠ x.id := nd.2.2 y.id (List.mem_map.2 ⟨y, hy, rfl⟩) x.id (by simp)
    simpa using this
  rw [e]
theorem cnt_all (l : List Elt) : l.countP (cE false) = l.length := List.countP_eq_length.2 fun x _ => rfl
theorem rank_get {F : List Elt} (ok : SeqOk F) {i : Nat} (hi : i < F.length) : aheadE F false F[i].id = (i : Int) := by
  rw [ahead_get ok false hi, cnt_all, List.length_take, Nat.min_eq_left (by omega)]
theorem rank_neg {F : List Elt} {x : IdK} (h : hasE F x = false) (c : Bool) : aheadE F c x = -1 := by unfold aheadE; rw [h]; rfl
theorem rank_pos {F : List Elt} {x : IdK} {c : Bool} (h : hasE F x = true) : 0 ≤ aheadE F c x := by unfold aheadE; rw [if_pos h]; omega
structure Stays (E F : List Elt) (g : IdK → Prop) : Prop where
  sub : ((E.map (·.id)).filter (fun x => hasE F x)).Sublist (F.map (·.id))
  has : ∀ x, hasE E x = true → hasE F x = false → g x
theorem Stays.refl (E : List Elt) (g : IdK → Prop) : Stays E E g := ⟨List.filter_sublist, fun x h1 h2 => by rw [h1] at h2; cases h2⟩
theorem SeqOk.ins {E : List Elt} (ok : SeqOk E) {k b : IdK} (hk : k.ok) (hb : b.ok) : SeqOk (insR E k b) := by
  unfold insR
  split
  · next h =>
    obtain ⟨h1, h2, h3⟩ := insC_zero h
    exact ok.put (x := ⟨k, b, true⟩) ⟨hk, hb, h1⟩ h2 h3
  · exact ok
theorem SeqOk.tak {E : List Elt} (ok : SeqOk E) (k : IdK) : SeqOk (takR E k) := by
  unfold takR
  split
  · next h =>
    refine ok.rem ?_
    unfold takC at h
    split at h
    · cases h
    · split at h
      · cases h
      · omega
  · exact ok
theorem takR_len (E : List Elt) (k : IdK) : (takR E k).length ≤ E.length := by
  unfold takR
  split
  · exact List.length_filter_le _ _
  · omega
theorem showE_len (E : List Elt) (k : IdK) (b : Bool) : (showE E k b).length = E.length := by simp [showE]
theorem cnt_take {F : List Elt} (c : Bool) {i : Nat} (hi : i < F.length) : (F.take (i + 1)).countP (cE c) = (F.take i).countP (cE c) + (if cE c F[i] = true then 1 else 0) := by
  rw [List.take_add_one, List.getElem?_eq_getElem hi, Option.toList, List.countP_append, List.countP_cons, List.countP_nil]
  simp
def rowR (R : List Elt) : List Elt := R.foldl (fun l e => putE l e.bh e) []
theorem rowR_snoc (R : List Elt) (e : Elt) : rowR (R ++ [e]) = putE (rowR R) e.bh e := by simp [rowR]
theorem rowR_perm (R : List Elt) : (rowR R).Perm R := by
  refine snoc_ind (P := fun R => (rowR R).Perm R) (List.Perm.refl _) (fun R e ih => ?_) R
  rw [rowR_snoc]
  exact (putE_perm _ _ _).trans ((List.Perm.cons e ih).trans (List.perm_append_comm (l₁ := [e])))
structure RefOk (R : List Elt) : Prop where
  ok : ∀ e ∈ R, e.id.ok ∧ e.bh.ok ∧ 1 ≤ e.id.n
  nd : (R.map (·.id)).Nodup
  bh : ∀ A e B, R = A ++ e :: B → e.bh = zId ∨ hasE A e.bh = true
theorem RefOk.nil : RefOk [] := ⟨fun e he => by simp at he, by simp, fun A e B h => by simp at h⟩
theorem RefOk.all {R : List Elt} (h : RefOk R) : ∀ e ∈ R, e.bh = zId ∨ hasE R e.bh = true := fun e he => by
  obtain ⟨A, B, rfl⟩ := List.append_of_mem he
  refine (h.bh A e B rfl).imp id (fun q => ?_)
  obtain ⟨x, hx, r⟩ := hasE_iff.1 q
  exact hasE_iff.2 ⟨x, List.mem_append_left _ hx, r⟩
theorem RefOk.seq {R : List Elt} (h : RefOk R) : SeqOk R := ⟨h.nd, h.ok, h.all⟩
theorem RefOk.row {R : List Elt} (h : RefOk R) : SeqOk (rowR R) := h.seq.perm (rowR_perm R).symm
theorem RefOk.left {A B : List Elt} (h : RefOk (A ++ B)) : RefOk A := by
  refine ⟨fun e he => h.ok e (List.mem_append_left _ he), ?_, fun C e D q => h.bh C e (D ++ B) (by rw [q]; simp)⟩
  have := h.nd
  rw [List.map_append, List.nodup_append] at this
  exact this.1
theorem has_row (R : List Elt) (k : IdK) : hasE (rowR R) k = hasE R k := hasE_perm (rowR_perm R) k
theorem fol_row (R : List Elt) (k : IdK) : folE (rowR R) k = folE R k := folE_perm (rowR_perm R) k
theorem insC_row (R : List Elt) (k b : IdK) : insC (rowR R) k b = insC R k b := by unfold insC; rw [has_row, has_row]
theorem takC_row (R : List Elt) (k : IdK) : takC (rowR R) k = takC R k := by unfold takC; rw [has_row, fol_row]
theorem showC_row (R : List Elt) (k : IdK) : showC (rowR R) k = showC R k := by unfold showC; rw [has_row]
def insD (R : List Elt) (k b : IdK) : List Elt := if insC R k b = 0 then R ++ [⟨k, b, true⟩] else R
theorem insD_row (R : List Elt) (k b : IdK) : rowR (insD R k b) = insR (rowR R) k b := by
  unfold insD insR
  rw [insC_row]
  split
  · rw [rowR_snoc]
  · rfl
theorem RefOk.ins {R : List Elt} (h : RefOk R) {k b : IdK} (hk : k.ok) (hb : b.ok) : RefOk (insD R k b) := by
  unfold insD
  split
  · next q =>
    obtain ⟨h1, h2, h3⟩ := insC_zero q
    refine ⟨fun e he => ?_, ?_, fun A e B r => ?_⟩
    · rcases List.mem_append.1 he with r | r
      · exact h.ok e r
      · rw [List.mem_singleton.1 r]; exact ⟨hk, hb, h1⟩
    · rw [List.map_append, List.nodup_append]
      refine ⟨h.nd, by simp, fun a ha c hc => ?_⟩
      simp at hc
      rw [hc]
      obtain ⟨e, he, rfl⟩ := List.mem_map.1 ha
      intro r
      have : hasE R k = true := hasE_iff.2 ⟨e, he, r⟩
      rw [h2] at this; cases this
    · rcases List.append_eq_append_iff.1 r with ⟨C, e1, e2⟩ | ⟨C, e1, e2⟩
      · cases C with
        | nil =>
          simp at e1 e2
          subst e1
          rw [← e2.1]; exact h3
        | cons c C =>
          simp at e2
      · cases C with
        | nil =>
          simp at e1 e2
          subst e1
          rw [e2.1]; exact h3
        | cons c C =>
          simp only [List.cons_append, List.cons.injEq] at e2
          exact h.bh A e C (by rw [e1, ← e2.1])
  · exact h
theorem insD_len (R : List Elt) (k b : IdK) : (insD R k b).length ≤ R.length + 1 := by
  unfold insD
  split <;> simp
theorem putE_show (l : List Elt) (b : IdK) (x : Elt) (k : IdK) (s : Bool) : showE (putE l b x) k s = putE (showE l k s) b (if x.id = k then { x with sh := s } else x) := by
  have hi : ∀ l : List Elt, showE (insE l b x) k s = insE (showE l k s) b (if x.id = k then { x with sh := s } else x) := by
    intro l
    induction l with
    | nil => rfl
    | cons e l ih =>
      have hid : ∀ e : Elt, (if e.id = k then { e with sh := s } else e).id = e.id := fun e => by split <;> rfl
      unfold showE at *
      rw [List.map_cons, insE, insE, hid]
      by_cases q : e.id = b
      · rw [if_pos q, if_pos q]; rfl
      · rw [if_neg q, if_neg q, List.map_cons, ih]
  unfold putE
  split
  · rfl
  · exact hi l
theorem show_row (R : List Elt) (k : IdK) (s : Bool) : rowR (showE R k s) = showE (rowR R) k s := by
  refine snoc_ind (P := fun R => rowR (showE R k s) = showE (rowR R) k s) rfl (fun R e ih => ?_) R
  have e1 : showE (R ++ [e]) k s = showE R k s ++ [if e.id = k then { e with sh := s } else e] := by simp [showE]
  rw [e1, rowR_snoc, rowR_snoc, ih, putE_show]
  congr 1
  split <;> rfl
theorem RefOk.show {R : List Elt} (h : RefOk R) (k : IdK) (s : Bool) : RefOk (showE R k s) := by
  have ok := h.seq.show k s
  refine ⟨ok.ok, ok.nd, fun A e B q => ?_⟩
  unfold showE at q
  obtain ⟨A', B', e1, e2, e3⟩ := List.map_eq_append_iff.1 q
  obtain ⟨e', B'', e4, e5, e6⟩ := List.map_eq_cons_iff.1 e3
  have := h.bh A' e' B'' (by rw [e1, e4])
  rw [← e2]
  have hb : e.bh = e'.bh := by rw [← e5]; split <;> rfl
  rw [hb]
  refine this.imp id (fun r => ?_)
  have := showE_has A' k s e'.bh
  unfold showE at this
  rw [this]; exact r
theorem insE_rem (l : List Elt) {b : IdK} {x : Elt} {k : IdK} (hb : b ≠ k) (hx : x.id ≠ k) : remE (insE l b x) k = insE (remE l k) b x := by
  induction l with
  | nil => simp [insE, remE, hx]
  | cons e l ih =>
    unfold remE at *
    by_cases q : e.id = b
    · rw [insE, if_pos q, List.filter_cons, if_pos (by rw [q]; simpa using hb), List.filter_cons, if_pos (by simpa using hx), List.filter_cons, if_pos (by rw [q]; simpa using hb), insE, if_pos q]
    · rw [insE, if_neg q, List.filter_cons, List.filter_cons]
      split
      · rw [insE, if_neg q, ih]
      · exact ih
theorem putE_rem (l : List Elt) {b : IdK} {x : Elt} {k : IdK} (hb : b ≠ k) (hx : x.id ≠ k) : remE (putE l b x) k = putE (remE l k) b x := by
  unfold putE
  split
  · unfold remE; rw [List.filter_cons, if_pos (by simpa using hx)]
  · exact insE_rem l hb hx
theorem putE_rem_same (l : List Elt) {b : IdK} {x : Elt} {k : IdK} (hx : x.id = k) : remE (putE l b x) k = remE l k := by
  have hi : ∀ l : List Elt, remE (insE l b x) k = remE l k := by
    intro l
    induction l with
    | nil => simp [insE, remE, hx]
    | cons e l ih =>
      unfold remE at *
      by_cases q : e.id = b
      · rw [insE, if_pos q, List.filter_cons, List.filter_cons, List.filter_cons, if_neg (by simp [hx] : ¬ (!decide (x.id = k)) = true)]
      · rw [insE, if_neg q, List.filter_cons, List.filter_cons, ih]
  unfold putE
  split
  · unfold remE; rw [List.filter_cons, if_neg (by simp [hx])]
  · exact hi l
theorem rem_row (R : List Elt) (k : IdK) (hf : ∀ e ∈ R, e.bh ≠ k) : rowR (remE R k) = remE (rowR R) k := by
  revert hf
  refine snoc_ind (P := fun R => (∀ e ∈ R, e.bh ≠ k) → rowR (remE R k) = remE (rowR R) k) (fun _ => rfl) (fun R e ih hf => ?_) R
  have ih := ih (fun x hx => hf x (List.mem_append_left _ hx))
  have hb := hf e (by simp)
  rw [rowR_snoc]
  have e1 : remE (R ++ [e]) k = remE R k ++ (if e.id = k then [] else [e]) := by
    unfold remE
    rw [List.filter_append, List.filter_cons, List.filter_nil]
    by_cases q : e.id = k <;> simp [q]
  rw [e1]
  by_cases q : e.id = k
  · rw [if_pos q, List.append_nil, ih, putE_rem_same _ q]
  · rw [if_neg q, rowR_snoc, ih, putE_rem _ hb q]
theorem fol_none {R : List Elt} {k : IdK} (h : folE R k = 0) : ∀ e ∈ R, e.bh ≠ k := fun e he q => by
  have : 0 < folE R k := List.countP_pos_iff.2 ⟨e, he, by simpa using q⟩
  omega
theorem takC_zero {R : List Elt} {k : IdK} (h : takC R k = 0) : hasE R k = true ∧ folE R k = 0 := by
  unfold takC at h
  split at h
  · cases h
  · next q =>
    split at h
    · cases h
    · exact ⟨by simpa using q, by omega⟩
theorem tak_row (R : List Elt) (k : IdK) : rowR (takR R k) = takR (rowR R) k := by
  unfold takR
  rw [takC_row]
  split
  · next h => exact rem_row R k (fol_none (takC_zero h).2)
  · rfl
theorem RefOk.tak {R : List Elt} (h : RefOk R) (k : IdK) : RefOk (takR R k) := by
  have ok := h.seq.tak k
  refine ⟨ok.ok, ok.nd, ?_⟩
  unfold takR
  split
  · next hc =>
    have hf := fol_none (takC_zero hc).2
    intro A e B q
    unfold remE at q
    obtain ⟨A', R', e1, e2, e3⟩ := List.filter_eq_append_iff.1 q
    obtain ⟨C, D, e4, e5, e6, e7⟩ := List.filter_eq_cons_iff.1 e3
    have hr : R = (A' ++ C) ++ e :: D := by rw [e1, e4]; simp
    have := h.bh (A' ++ C) e D hr
    refine this.imp id (fun r => ?_)
    obtain ⟨x, hx, hq⟩ := hasE_iff.1 r
    have hne : x.id ≠ k := by rw [hq]; exact hf e (by rw [hr]; simp)
    have hxk : (!decide (x.id = k)) = true := by simpa using hne
    rcases List.mem_append.1 hx with r | r
    · exact hasE_iff.2 ⟨x, by rw [← e2]; exact List.mem_filter.2 ⟨r, hxk⟩, hq⟩
    · exact absurd hxk (e5 x r)
  · exact h.bh
def AtIs (l : List Elt) (b : IdK) (k at' : Nat) : Prop := (at' = 0 ∧ ∀ j (h : j < l.length), j < k → l[j].id ≠ b) ∨ (∃ j, ∃ h : j < l.length, j < k ∧ at' = j + 1 ∧ l[j].id = b)
theorem AtIs.zero (l : List Elt) (b : IdK) : AtIs l b 0 0 := .inl ⟨rfl, fun j _ h => by omega⟩
theorem AtIs.hit {l : List Elt} {b : IdK} {k : Nat} (hk : k < l.length) (h : l[k].id = b) : AtIs l b (k + 1) (k + 1) := .inr ⟨k, hk, by omega, rfl, h⟩
theorem AtIs.miss {l : List Elt} {b : IdK} {k a : Nat} (hk : k < l.length) (h : l[k].id ≠ b) (q : AtIs l b k a) : AtIs l b (k + 1) a := by
  rcases q with ⟨h1, h2⟩ | ⟨j, hj, h1, h2, h3⟩
  · refine .inl ⟨h1, fun j hj hjk => ?_⟩
    by_cases e : j = k
    · subst e; exact h
    · exact h2 j hj (by omega)
  · exact .inr ⟨j, hj, by omega, h2, h3⟩
theorem AtIs.le {l : List Elt} {b : IdK} {k a : Nat} (q : AtIs l b k a) : a ≤ l.length ∧ a ≤ k := by
  rcases q with ⟨h1, h2⟩ | ⟨j, hj, h1, h2, h3⟩ <;> omega
theorem put_at {l : List Elt} (nd : (l.map (·.id)).Nodup) (h1 : ∀ e ∈ l, 1 ≤ e.id.n) {b : IdK} (hb : b = zId ∨ hasE l b = true) {a : Nat} (q : AtIs l b l.length a) (x : Elt) : putE l b x = l.take a ++ x :: l.drop a := by
  rcases q with ⟨rfl, h2⟩ | ⟨j, hj, _, rfl, h3⟩
  · have hz : b = zId := by
      rcases hb with r | r
      · exact r
      · obtain ⟨e, he, r⟩ := hasE_iff.1 r
        obtain ⟨i, hi, rfl⟩ := List.getElem_of_mem he
        exact absurd r (h2 i hi hi)
    unfold putE
    rw [if_pos hz]; rfl
  · have hz : b ≠ zId := fun r => by
      have := h1 l[j] (List.getElem_mem hj)
      rw [h3, r] at this
      simp [zId] at this
    have e : l = l.take j ++ l[j] :: l.drop (j + 1) := by rw [List.getElem_cons_drop]; exact (List.take_append_drop j l).symm
    have et : l.take (j + 1) = l.take j ++ [l[j]] := by rw [List.take_add_one, List.getElem?_eq_getElem hj]; rfl
    generalize l[j] = z at *
    have hn : ∀ y ∈ l.take j, y.id ≠ z.id := fun y hy => by
      have nd2 := nd
      rw [e, List.map_append, List.map_cons, List.nodup_append] at nd2
      exact nd2.2.2 y.id (List.mem_map.2 ⟨y, hy, rfl⟩) _ (by simp)
    unfold putE
    rw [if_neg hz, ← h3, et]
    conv => lhs; rw [e]
    rw [insE_mid (A := l.take j) (B := l.drop (j + 1)) (e := z) (x := x) hn]
    simp
theorem shift_step {l : List Elt} {k : Nat} (h0 : 0 < k) (hk : k ≤ l.length) (y : Elt) : (l.take k ++ y :: l.drop k).set k l[k - 1] = l.take (k - 1) ++ l[k - 1] :: l.drop (k - 1) := by
  have hl : (l.take k).length = k := by rw [List.length_take]; omega
  have e1 : (l.take k ++ y :: l.drop k).set k l[k - 1] = l.take k ++ l[k - 1] :: l.drop k := by
    rw [List.set_append_right _ _ (by omega), hl]; simp
  have e2 : l.take k = l.take (k - 1) ++ [l[k - 1]] := by
    conv => lhs; rw [show k = (k - 1) + 1 by omega]
    rw [List.take_add_one, List.getElem?_eq_getElem (by omega)]; rfl
  have e3 : l.drop (k - 1) = l[k - 1] :: l.drop k := by
    rw [List.drop_eq_getElem_cons (by omega)]
    congr 2; omega
  rw [e1, e3]
  conv => lhs; rw [e2]
  rw [List.append_assoc]; rfl
theorem shift_last {l : List Elt} {a : Nat} (ha : a ≤ l.length) (y x : Elt) : (l.take a ++ y :: l.drop a).set a x = l.take a ++ x :: l.drop a := by
  have hl : (l.take a).length = a := by rw [List.length_take]; omega
  rw [List.set_append_right _ _ (by omega), hl]; simp
theorem shift_get {l : List Elt} {k : Nat} (h0 : 0 < k) (hk : k ≤ l.length) (y : Elt) : (l.take k ++ y :: l.drop k)[k - 1]? = some l[k - 1] := by
  rw [List.getElem?_append_left (by rw [List.length_take]; omega), List.getElem?_take, if_pos (by omega), List.getElem?_eq_getElem (by omega)]
theorem shift_len (l : List Elt) {k : Nat} (hk : k ≤ l.length) (y : Elt) : (l.take k ++ y :: l.drop k).length = l.length + 1 := by simp; omega
theorem show_set {R : List Elt} (nd : (R.map (·.id)).Nodup) {i : Nat} (hi : i < R.length) (s : Bool) : R.set i { R[i] with sh := s } = showE R R[i].id s := by
  have e : R = R.take i ++ R[i] :: R.drop (i + 1) := by rw [List.getElem_cons_drop]; exact (List.take_append_drop i R).symm
  have hl : (R.take i).length = i := by rw [List.length_take]; omega
  generalize hx : R[i] = x at *
  have nd2 := nd
  rw [e, List.map_append, List.map_cons, List.nodup_append] at nd2
  have hn1 : ∀ y ∈ R.take i, y.id ≠ x.id := fun y hy => nd2.2.2 y.id (List.mem_map.2 ⟨y, hy, rfl⟩) _ (by simp)
  have hn2 : ∀ y ∈ R.drop (i + 1), y.id ≠ x.id := fun y hy q => (List.nodup_cons.1 nd2.2.1).1 (List.mem_map.2 ⟨y, hy, q⟩)
  have hid : ∀ l : List Elt, (∀ y ∈ l, y.id ≠ x.id) → showE l x.id s = l := fun l h => by
    unfold showE
    conv => rhs; rw [← List.map_id l]
    exact List.map_congr_left fun y hy => by rw [if_neg (h y hy)]; rfl
  have e2 : showE R x.id s = showE (R.take i) x.id s ++ { x with sh := s } :: showE (R.drop (i + 1)) x.id s := by
    conv => lhs; rw [e]
    simp [showE]
  rw [e2, hid _ hn1, hid _ hn2]
  conv => lhs; rw [e]
  rw [List.set_append_right _ _ (by omega), hl]; simp
end Go.Proofs.Ytpdepbakopdgpaa
namespace Go.Proofs.Ytpdepbakopdgpaa
open Go.RowKit
set_option linter.unusedVariables false
set_option linter.unusedSimpArgs false
structure RowT (κ : Type) where
  c : κ → List Value
  ok : κ → Prop
  k : Nat
  bytes : Nat
  e : TypeId
  t : TypeId
  z : κ
structure RowT.Is {κ : Type} (R : RowT κ) : Prop where
  zok : R.ok R.z
  len : ∀ x, R.ok x → (R.c x).length = R.k
  one : ∀ x, ∀ v ∈ R.c x, v.oneCell' = true
  und : Try.prog.underlying R.t = some (.slice R.e)
  info : (Try.prog.info? R.e).map (fun i => (i.zero, i.size, i.bytes)) = some (some (.agg (R.c R.z).toArray), R.k, R.bytes)
  row : ∃ d, Try.prog.underlying R.e = some d ∧ d.isRow = true
  kpos : 0 < R.k
  kmax : R.k ≤ 100000
section
variable {κ : Type} {R : RowT κ}
def RowT.At (R : RowT κ) (w : World) (a : Option Addr) (L : List κ) : Prop := L = [] ∨ ∃ b off, a = some ⟨b, off, none⟩ ∧ b < w.heap.size ∧ ∀ i h, L[i]? = some h → w.rangeAt b (off + R.k * i) (R.c h)
theorem RowT.At.keepB {w w' : World} {a : Option Addr} {L : List κ} (h : R.At w a L) (hs : w.heap.size ≤ w'.heap.size) (hk : ∀ b o, a = some ⟨b, o, none⟩ → b < w.heap.size → w'.heap[b]? = w.heap[b]?) : R.At w' a L := by
  rcases h with h | ⟨b, off, e, hl, hr⟩
  · exact .inl h
  · exact .inr ⟨b, off, e, Nat.lt_of_lt_of_le hl hs, fun i x hx => rangeAt_keep (hr i x hx) (hk b off e hl)⟩
theorem RowT.At.below {w w' : World} {a : Option Addr} {L : List κ} (h : R.At w a L) (hb : Below w.heap.size w w') : R.At w' a L := h.keepB hb.size (fun b _ _ hl => hb.block b hl)
theorem RowT.At.get {w : World} {a : Option Addr} {L : List κ} (h : R.At w a L) {i : Nat} (hi : i < L.length) : ∃ b o, a = some ⟨b, o, none⟩ ∧ b < w.heap.size ∧ w.rangeAt b (o + R.k * i) (R.c L[i]) := by
  rcases h with h | ⟨b, off, e, hl, hr⟩
  · subst h; cases hi
  · exact ⟨b, off, e, hl, hr i _ (List.getElem?_eq_getElem hi)⟩
def RowT.flat (R : RowT κ) (L : List κ) : List Value := L.flatMap R.c
theorem RowT.flat_app (L M : List κ) : R.flat (L ++ M) = R.flat L ++ R.flat M := by simp [RowT.flat]
theorem RowT.flat_cons (x : κ) (L : List κ) : R.flat (x :: L) = R.c x ++ R.flat L := rfl
theorem RowT.flat_len (I : R.Is) : ∀ {L : List κ}, (∀ h ∈ L, R.ok h) → (R.flat L).length = R.k * L.length
  | [], _ => rfl
  | x :: L, ok => by
    have := RowT.flat_len I (L := L) (fun h hh => ok h (by simp [hh]))
    rw [RowT.flat_cons, List.length_append, I.len x (ok x (by simp)), this, List.length_cons, Nat.mul_succ, Nat.add_comm]
theorem RowT.flat_get (I : R.Is) : ∀ {L : List κ}, (∀ h ∈ L, R.ok h) → ∀ {i : Nat} {h : κ}, L[i]? = some h → ∀ {j : Nat} {v : Value}, (R.c h)[j]? = some v → (R.flat L)[R.k * i + j]? = some v
  | x :: L, ok, 0, h, hi, j, v, hj => by
    simp only [List.getElem?_cons_zero, Option.some.injEq] at hi
    subst hi
    have hl := (List.getElem?_eq_some_iff.1 hj).1
    rw [Nat.mul_zero, Nat.zero_add, RowT.flat_cons, List.getElem?_append_left hl]
    exact hj
  | x :: L, ok, i + 1, h, hi, j, v, hj => by
    simp only [List.getElem?_cons_succ] at hi
    have := RowT.flat_get I (L := L) (fun h hh => ok h (by simp [hh])) hi hj
    have l := I.len x (ok x (by simp))
    rw [RowT.flat_cons, List.getElem?_append_right (by rw [l, Nat.mul_succ]; omega), l, show R.k * (i + 1) + j - R.k = R.k * i + j by rw [Nat.mul_succ]; omega]
    exact this
  | [], _, i, h, hi, _, _, _ => by simp at hi
theorem RowT.flat_inv (I : R.Is) : ∀ {L : List κ}, (∀ h ∈ L, R.ok h) → ∀ {p : Nat} {u : Value}, (R.flat L)[p]? = some u → ∃ i h j, p = R.k * i + j ∧ L[i]? = some h ∧ (R.c h)[j]? = some u
  | [], _, p, u, hp => by simp [RowT.flat] at hp
  | x :: L, ok, p, u, hp => by
    have l := I.len x (ok x (by simp))
    rw [RowT.flat_cons, List.getElem?_append] at hp
    by_cases h : p < (R.c x).length
    · rw [if_pos h] at hp
      exact ⟨0, x, p, by simp, rfl, hp⟩
    · rw [if_neg h] at hp
      obtain ⟨i, y, j, e, hi, hj⟩ := RowT.flat_inv I (L := L) (fun h hh => ok h (by simp [hh])) hp
      exact ⟨i + 1, y, j, by rw [Nat.mul_succ]; omega, hi, hj⟩
theorem RowT.flat_one (I : R.Is) (L : List κ) : ∀ u ∈ R.flat L, u.oneCell' = true := by
  intro u hu
  simp only [RowT.flat, List.mem_flatMap] at hu
  obtain ⟨h, _, hv⟩ := hu
  exact I.one h u hv
def RowT.Own (R : RowT κ) (w : World) (base : Nat) (v : Value) (L : List κ) : Prop := w.ownsRow base R.e R.k v L.length (R.flat L)
theorem RowT.Own.keep {w w' : World} {base : Nat} {v : Value} {L : List κ} (h : R.Own w base v L) (hk : ∀ k, v.ownBlock = some k → w'.heap[k]? = w.heap[k]?) : R.Own w' base v L := by
  refine ⟨h.1, ?_⟩
  rcases h.2 with hn | ⟨g, cap, cur, rfl, hbg, hg, rest⟩
  · exact .inl hn
  · exact .inr ⟨g, cap, cur, rfl, hbg, by rw [hk g rfl]; exact hg, rest⟩
theorem RowT.Own.cells {w : World} {base : Nat} {v : Value} {L : List κ} (h : R.Own w base v L) {k : Nat} (hk : v.ownBlock = some k) : base ≤ k ∧ ∃ c, w.heap[k]? = some (.cells c R.e (0, 0)) := by
  rcases h.2 with ⟨rfl, _⟩ | ⟨g, cap, cur, rfl, hb, hg, _⟩
  · cases hk
  · simp only [Value.ownBlock, Option.some.injEq] at hk
    subst hk
    exact ⟨hb, _, hg⟩
theorem RowT.Own.lt {w : World} {base : Nat} {v : Value} {L : List κ} (h : R.Own w base v L) {k : Nat} (hk : v.ownBlock = some k) : k < w.heap.size := by
  obtain ⟨_, c, e⟩ := h.cells hk
  exact (Array.getElem?_eq_some_iff.1 e).1
theorem RowT.Own.below {w w' : World} {base : Nat} {v : Value} {L : List κ} (h : R.Own w base v L) (hb : Below w.heap.size w w') : R.Own w' base v L := h.keep (fun k hk => hb.block k (h.lt hk))
theorem RowT.Own.open {w : World} {base : Nat} {v : Value} {L : List κ} (I : R.Is) (h : R.Own w base v L) (ok : ∀ h ∈ L, R.ok h) : ∃ a c, v = .slice a L.length c ∧ R.At w a L ∧ L.length ≤ c ∧ (∀ b o, a = some ⟨b, o, none⟩ → v.ownBlock = some b) := by
  rcases h.2 with ⟨rfl, hn⟩ | ⟨g, cap, cur, rfl, hbg, hg, hnc, hcm, hcs, htake⟩
  · obtain rfl : L = [] := List.eq_nil_of_length_eq_zero hn
    exact ⟨none, 0, rfl, .inl rfl, Nat.le_refl _, fun b o e => by cases e⟩
  · refine ⟨some ⟨g, 0, none⟩, cap, rfl, .inr ⟨g, 0, rfl, (Array.getElem?_eq_some_iff.1 hg).1, fun i x hx j u hj => ?_⟩, hnc, fun b o e => by cases e; rfl⟩
    have e := RowT.flat_get I ok hx hj
    rw [Nat.zero_add, cell_of_row w g _ cur R.e (0, 0) hg]
    rw [← htake, List.getElem?_take] at e
    split at e
    · simpa using e
    · cases e
theorem RowT.own_nil (R : RowT κ) (w : World) (base : Nat) : R.Own w base (.slice none 0 0) [] := ⟨by simp [RowT.flat], .inl ⟨rfl, rfl⟩⟩
theorem RowT.Own.mono {w : World} {base b2 : Nat} {v : Value} {L : List κ} (h : R.Own w base v L) (hb : b2 ≤ base) : R.Own w b2 v L := by
  refine ⟨h.1, ?_⟩
  rcases h.2 with hn | ⟨g, cap, cur, rfl, hbg, rest⟩
  · exact .inl hn
  · exact .inr ⟨g, cap, cur, rfl, Nat.le_trans hb hbg, rest⟩
theorem RowT.run_app (I : R.Is) (w : World) (base : Nat) (v : Value) (L : List κ) (a : Option Addr) (M : List κ) (c : Nat) (hown : R.Own w base v L) (hb : R.At w a M) (ok : ∀ h ∈ M, R.ok h) (h63 : L.length + M.length ≤ maxLen) (h : ((L.length + M.length) + (L.length + M.length) / 4 + 192) * R.bytes ≤ 281474976710656) (hbase : base ≤ w.heap.size) :
    ∃ v' w', (Builtin.append_ #[R.t, R.t] R.t #[v, .slice a M.length c]).run Try.prog w = .ok v' w' ∧ R.Own w' base v' (L ++ M) ∧ w.grownBy w' v.ownBlock ∧ (v'.ownBlock = v.ownBlock ∨ v'.ownBlock = some w.heap.size) := by
  obtain ⟨i, hi, hz, hs, hby⟩ := info_parts I.info
  have zc : (Value.agg (R.c R.z).toArray).cells.size = R.k := by
    show (R.c R.z).toArray.size = R.k
    rw [List.size_toArray, I.len _ I.zok]
  cases a with
  | some ad =>
    have hnews : ∀ j u, (R.flat M)[j]? = some u → w.cell? (ad.add j) = some u := fun j u hj => by
      rcases hb with rfl | ⟨b, off, e, _, hc⟩
      · simp [RowT.flat] at hj
      · cases e
        obtain ⟨k, x, r, rfl, hx, hr⟩ := RowT.flat_inv I ok hj
        rw [Addr.add_mid, ← Nat.add_assoc]
        exact hc k x hx r u hr
    obtain ⟨v', w', hr, h2, h3, h5⟩ := app_at (P := Try.prog) w base R.t R.t R.e i _ R.k R.bytes I.und hi hz hs hby zc I.kpos v L.length (R.flat L) hown ad M.length c (R.flat M) (by rw [RowT.flat_len I ok, Nat.mul_comm]) hnews (RowT.flat_one I M) h63 h hbase
    refine ⟨v', w', hr, ?_, h3, h5⟩
    unfold RowT.Own
    rw [List.length_append, RowT.flat_app]
    exact h2
  | none =>
    obtain rfl : M = [] := by
      rcases hb with rfl | ⟨b, off, e, _⟩
      · rfl
      · cases e
    rcases hown.2 with ⟨rfl, hn⟩ | ⟨g, cap, cur, rfl, hbg, hg, hnc, rest⟩
    · refine ⟨.slice none 0 0, w, ?_, by rw [List.append_nil]; exact hown, ⟨rfl, rfl, rfl, Nat.le_refl _, fun _ _ _ => rfl⟩, .inl rfl⟩
      simp [Builtin.append_, run_underlying I.und, sizeOf, typeInfo, hi, Builtin.lenOf, Builtin.firstCells, loadCells, loadCellsFrom]
    · refine ⟨.slice (some ⟨g, 0, none⟩) L.length cap, w, ?_, by rw [List.append_nil]; exact hown, ⟨rfl, rfl, rfl, Nat.le_refl _, fun _ _ _ => rfl⟩, .inl rfl⟩
      simp [Builtin.append_, run_underlying I.und, sizeOf, typeInfo, hi, Builtin.lenOf, Builtin.firstCells, hnc, storeCells]
theorem RowT.lit (R : RowT κ) (w : World) (h : κ) (t : TypeId) : R.At (w.alloc (.cells (R.c h).toArray t)) (some ⟨w.heap.size, 0, none⟩) [h] :=
  .inr ⟨w.heap.size, 0, rfl, by simp, fun i x hx j v hj => by
    have hl := (List.getElem?_eq_some_iff.1 hx).1
    obtain rfl : i = 0 := by simp at hl; omega
    simp at hx
    subst hx
    rw [Nat.mul_zero, Nat.add_zero, Nat.zero_add]
    exact cell_new w (R.c h) t j v hj⟩
theorem RowT.run_bs (I : R.Is) (h : κ) (ok : R.ok h) (w : World) : (Instr.buildSlice R.t 1 #[(0, .agg (R.c h).toArray)]).run Try.prog w = .ok (.slice (some ⟨w.heap.size, 0, none⟩) 1 1) (w.alloc (.cells (R.c h).toArray R.e)) := by
  obtain ⟨ie, hi, hz, hs, hby⟩ := info_parts I.info
  refine run_buildSlice w R.t R.e 1 _ (R.c h).toArray ie _ I.und hi hz (by rw [hs]; have := I.kmax; have := I.kpos; omega) (by rw [hs]; have := I.kmax; have := I.kpos; omega) ?_
  rw [hs]
  have := Go.Great.fill_whole (s := R.k) I.kpos [.agg (R.c h).toArray] ((Array.range (1 * R.k)).map ((Value.agg (R.c R.z).toArray).cells[· % (Value.agg (R.c R.z).toArray).cells.size]!)) (by intro v hv; simp at hv; subst hv; show (R.c h).toArray.size = R.k; rw [List.size_toArray, I.len _ ok]) (by simp)
  simpa [Value.cells] using this
theorem RowT.run_push (I : R.Is) (w : World) (base : Nat) (v : Value) (L : List κ) (x : κ) (hown : R.Own w base v L) (ok : R.ok x) (h63 : L.length + 1 ≤ maxLen) (h : ((L.length + 1) + (L.length + 1) / 4 + 192) * R.bytes ≤ 281474976710656) (hbase : base ≤ w.heap.size) :
    ∃ sv w1 v' w', (Instr.buildSlice R.t 1 #[(0, .agg (R.c x).toArray)]).run Try.prog w = .ok sv w1 ∧ (Builtin.append_ #[R.t, R.t] R.t #[v, sv]).run Try.prog w1 = .ok v' w' ∧ R.Own w' base v' (L ++ [x]) ∧ Below w.heap.size w w1 ∧ w1.heap.size = w.heap.size + 1 ∧ w1.grownBy w' v.ownBlock ∧ (v'.ownBlock = v.ownBlock ∨ v'.ownBlock = some w1.heap.size) := by
  have b1 : Below w.heap.size w (w.alloc (.cells (R.c x).toArray R.e)) := (Below.refl _ _).alloc (Nat.le_refl _) _
  obtain ⟨v', w', e, o, g, q⟩ := RowT.run_app I _ base v L _ [x] 1 (hown.below b1) (RowT.lit R w x R.e) (fun y hy => by rw [List.mem_singleton.1 hy]; exact ok) h63 h (Nat.le_trans hbase b1.size)
  exact ⟨_, _, v', w', RowT.run_bs I x ok w, e, o, b1, by simp, g, q⟩
theorem RowT.sz (I : R.Is) : (Try.prog.info? R.e).map (·.size) = some R.k := by
  have := I.info
  cases q : Try.prog.info? R.e with
  | none => rw [q] at this; cases this
  | some i => rw [q] at this; simp at this ⊢; exact this.2.1
theorem RowT.ld (I : R.Is) {w : World} {b o : Nat} {x : κ} (hx : R.ok x) (h : w.rangeAt b o (R.c x)) : (Instr.loadAt R.e (.pointer (some ⟨b, o, none⟩))).run Try.prog w = .ok (.agg (R.c x).toArray) w := by
  obtain ⟨d, hd, hr⟩ := I.row
  exact run_loadAt_mid (P := Try.prog) w b o R.e (R.c x) d h hd hr (by rw [I.len x hx]; exact RowT.sz I)
theorem RowT.take_seg {α : Type} {cur FA y FB x : List α} {N o : Nat} (h : cur.take N = FA ++ y ++ FB) (hN : N = FA.length + y.length + FB.length) (ho : FA.length = o) (hx : x.length = y.length) : (cur.take o ++ x ++ cur.drop (o + x.length)).take N = FA ++ x ++ FB := by
  obtain ⟨R, hR⟩ : ∃ R, cur = FA ++ y ++ FB ++ R := ⟨cur.drop N, by rw [← h, List.take_append_drop]⟩
  subst hR
  have e1 : (FA ++ y ++ FB ++ R).take o = FA := by rw [← ho]; simp [List.append_assoc]
  have e2 : (FA ++ y ++ FB ++ R).drop (o + x.length) = FB ++ R := by
    rw [← ho, hx, ← List.length_append, List.append_assoc (FA ++ y), List.drop_left]
  rw [e1, e2, hN]
  rw [show FA ++ x ++ (FB ++ R) = (FA ++ x ++ FB) ++ R by simp]
  rw [show FA.length + y.length + FB.length = (FA ++ x ++ FB).length by simp [hx]; omega]
  exact List.take_left
theorem RowT.own_set (I : R.Is) {w : World} {base : Nat} {v : Value} {L : List κ} (own : R.Own w base v L) (ok : ∀ x ∈ L, R.ok x) {i : Nat} (hi : i < L.length) {x : κ} (hx : R.ok x) :
    ∃ g cap, v = .slice (some ⟨g, 0, none⟩) L.length cap ∧ g < w.heap.size ∧ ∃ w', (Instr.storeAt R.e (.pointer (some ⟨g, R.k * i, none⟩)) (.agg (R.c x).toArray)).run Try.prog w = .ok () w' ∧ R.Own w' base v (L.set i x) ∧ Tch (fun j => v.ownBlock = some j) w w' ∧ w'.heap.size = w.heap.size := by
  rcases own.2 with ⟨rfl, hn⟩ | ⟨g, cap, cur, rfl, hbg, hg, hnc, hcm, hcs, htake⟩
  · omega
  · have hkn : R.k * i + R.k ≤ R.k * cap := by rw [← Nat.mul_succ]; exact Nat.mul_le_mul_left _ (by omega)
    refine ⟨g, cap, rfl, (Array.getElem?_eq_some_iff.1 hg).1, w.setRow g (cur.toList.take (R.k * i) ++ R.c x ++ cur.toList.drop (R.k * i + (R.c x).length)).toArray, ?_, ?_, setRow_tch w g _, by simp [World.setRow]⟩
    · have hlen := I.len x hx
      have hb : R.k * i + R.k ≤ cur.size := by rw [hcs, Nat.mul_comm cap]; exact hkn
      have h := run_storeCells_at Try.prog g (R.k * i) R.e (R.c x) 0 cur w hg (by rw [hlen]; omega) (fun v hv => I.one x v hv)
      rw [Nat.add_zero] at h
      have hs := RowT.sz I
      cases hq : Try.prog.info? R.e with
      | none => rw [hq] at hs; simp at hs
      | some ii =>
        rw [hq] at hs
        simp at hs
        have hcz : (R.c x).toArray.size = ii.size := by simp [hlen, hs]
        simp only [Instr.storeAt, Instr.sureAddr, Sem.run_bind, Sem.run_pure, Result.andThen_ok, storeVar, sizeOf, typeInfo, hq, Value.cells]
        simp [typeInfo, hq, hlen, hs, h]
    · have hA : ∃ A y B, L = A ++ y :: B ∧ A.length = i := ⟨L.take i, L[i], L.drop (i + 1), by rw [← List.drop_eq_getElem_cons hi, List.take_append_drop], by simp; omega⟩
      obtain ⟨A, y, B, rfl, hA⟩ := hA
      have okA : ∀ x ∈ A, R.ok x := fun x hx => ok x (by simp [hx])
      have okB : ∀ x ∈ B, R.ok x := fun x hx => ok x (by simp [hx])
      have oky : R.ok y := ok y (by simp)
      have hset : (A ++ y :: B).set i x = A ++ x :: B := by rw [← hA, List.set_append_right _ _ (Nat.le_refl _)]; simp
      rw [hset]
      have hfl : R.flat (A ++ x :: B) = R.flat A ++ R.c x ++ R.flat B := by rw [RowT.flat_app, RowT.flat_cons]; simp
      have hfl' : R.flat (A ++ y :: B) = R.flat A ++ R.c y ++ R.flat B := by rw [RowT.flat_app, RowT.flat_cons]; simp
      rw [hfl'] at htake
      have hlA := RowT.flat_len I okA
      have hlB := RowT.flat_len I okB
      have l1 := I.len y oky
      have l2 := I.len x hx
      have hlenx : (A ++ x :: B).length = (A ++ y :: B).length := by simp
      have hsum : R.k * (A ++ y :: B).length = R.k * A.length + R.k + R.k * B.length := by
        simp only [List.length_append, List.length_cons, Nat.mul_add, Nat.mul_one]; omega
      refine ⟨?_, Or.inr ⟨g, cap, _, by rw [hlenx], hbg, setRow_heap w g cur _ R.e (0, 0) hg, by rw [hlenx]; exact hnc, hcm, ?_, ?_⟩⟩
      · rw [hfl, hlenx, Nat.mul_comm, hsum]; simp only [List.length_append]; omega
      · rw [← hcs]
        have : cur.toList.length = cur.size := by simp
        have hb : R.k * i + R.k ≤ cur.size := by rw [hcs, Nat.mul_comm cap]; exact hkn
        simp only [List.size_toArray, List.length_append, List.length_take, List.length_drop]
        omega
      · rw [List.toList_toArray, hfl, hlenx]
        refine RowT.take_seg htake ?_ (by rw [hlA, hA]) (by omega)
        rw [Nat.mul_comm, hsum]
        omega
end
end Go.Proofs.Ytpdepbakopdgpaa
namespace Go.Proofs.Ytpdepbakopdgpaa
open Go.RowKit Sq
set_option linter.unusedVariables false
set_option linter.unusedSimpArgs false
def Elt.c (e : Elt) : List Value := e.id.c ++ (e.bh.c ++ [.bool e.sh])
def Elt.wf (e : Elt) : Prop := e.id.ok ∧ e.bh.ok
def zElt : Elt := ⟨zId, zId, false⟩
theorem zElt_wf : zElt.wf := ⟨zId_ok, zId_ok⟩
theorem Elt.len {e : Elt} (h : e.wf) : e.c.length = 67 := by simp [Elt.c, IdK.len h.1, IdK.len h.2]
theorem Elt.one (e : Elt) : ∀ v ∈ e.c, v.oneCell' = true := by
  intro v hv
  simp only [Elt.c, List.mem_append, List.mem_cons, List.not_mem_nil, or_false] at hv
  rcases hv with h | h | rfl
  · exact IdK.one _ v h
  · exact IdK.one _ v h
  · rfl
def RE : RowT Elt := ⟨Elt.c, Elt.wf, 67, 88, 78, 71, zElt⟩
theorem RE_is : RE.Is := ⟨zElt_wf, fun _ h => Elt.len h, Elt.one, Try.underlying71, by kernel_rfl, ⟨_, Try.underlying78, rfl⟩, by decide, by decide⟩
section
variable {w : World} {b o : Nat} {x : Elt}
theorem ld_el (hx : x.wf) (h : w.rangeAt b o x.c) : (Instr.loadAt 78 (.pointer (some ⟨b, o, none⟩))).run Try.prog w = .ok (.agg x.c.toArray) w := RowT.ld RE_is hx h
theorem el_id (hx : x.wf) (h : w.rangeAt b o x.c) : (Instr.loadAt 32 (.pointer (some ⟨b, o + 0, none⟩))).run Try.prog w = .ok x.id.v w :=
  run_loadAt_mid (P := Try.prog) w b o 32 x.id.c _ (fun j v hv => h j v (by rw [Elt.c, List.getElem?_append_left (List.getElem?_eq_some_iff.1 hv).1]; exact hv)) Try.underlying32 rfl (by rw [IdK.len hx.1]; exact szId)
theorem el_bh (hx : x.wf) (h : w.rangeAt b o x.c) : (Instr.loadAt 32 (.pointer (some ⟨b, o + 33, none⟩))).run Try.prog w = .ok x.bh.v w :=
  run_loadAt_mid (P := Try.prog) w b (o + 33) 32 x.bh.c _ (fun j v hv => by
    have hl := (List.getElem?_eq_some_iff.1 hv).1
    rw [Nat.add_assoc]
    exact h (33 + j) v (by rw [Elt.c, List.getElem?_append_right (by rw [IdK.len hx.1]; omega), IdK.len hx.1, show 33 + j - 33 = j by omega, List.getElem?_append_left hl]; exact hv)) Try.underlying32 rfl (by rw [IdK.len hx.2]; exact szId)
theorem el_sh (hx : x.wf) (h : w.rangeAt b o x.c) : (Instr.loadAt 4 (.pointer (some ⟨b, o + 66, none⟩))).run Try.prog w = .ok (.bool x.sh) w := by
  have l1 := IdK.len hx.1
  have l2 := IdK.len hx.2
  have hc : w.cell? ⟨b, o + 66, none⟩ = some (.bool x.sh) := h 66 _ (by rw [Elt.c, List.getElem?_append_right (by omega), l1, List.getElem?_append_right (by omega), l2]; rfl)
  go_simp
end
theorem ix_el {b o m c i : Nat} (hi : i < m) (hm : m ≤ 1400000000001) (W : World) : (Instr.indexAt 71 (.slice (some ⟨b, o, none⟩) m c) (.int .i64 (i : Int))).run Try.prog W = .ok (.pointer (some ⟨b, o + 67 * i, none⟩)) W := by
  have h2 : m ≤ 9223372036854775807 := by omega
  rw [Nat.mul_comm]
  go_simp
theorem fg_78_0 (b o : Nat) (w : World) : (Instr.fieldAt 78 (.pointer (some ⟨b, o, none⟩)) 0).run Try.prog w = .ok (.pointer (some ⟨b, o + 0, none⟩)) w := by go_simp
theorem fg_78_1 (b o : Nat) (w : World) : (Instr.fieldAt 78 (.pointer (some ⟨b, o, none⟩)) 1).run Try.prog w = .ok (.pointer (some ⟨b, o + 33, none⟩)) w := by go_simp
theorem fg_78_2 (b o : Nat) (w : World) : (Instr.fieldAt 78 (.pointer (some ⟨b, o, none⟩)) 2).run Try.prog w = .ok (.pointer (some ⟨b, o + 66, none⟩)) w := by go_simp
theorem fg_73_0 (b o : Nat) (w : World) : (Instr.fieldAt 73 (.pointer (some ⟨b, o, none⟩)) 0).run Try.prog w = .ok (.pointer (some ⟨b, o + 0, none⟩)) w := by go_simp
theorem len_els (a : Option Addr) (n c : Nat) (W : World) (ty : TypeId) : (Builtin.len_ #[71] ty #[.slice a n c]).run Try.prog W = .ok (.int .i64 (n : Int)) W := by go_simp
theorem build_elz (W : World) : (Instr.build 78 #[]).run Try.prog W = .ok (.agg zElt.c.toArray) W := by kernel_rfl
structure RefAt (w : World) (base d : Nat) (v : Value) (R : List Elt) : Prop where
  c0 : w.heap[d]? = some (.cells #[v] 73 (0, 0))
  own : RE.Own w base v R
  ok : RefOk R
  hd : base ≤ d
  len : R.length ≤ 1400000000000
theorem RefAt.ne {w : World} {base d : Nat} {v : Value} {R : List Elt} (h : RefAt w base d v R) : v.ownBlock ≠ some d := fun e => by
  obtain ⟨_, c, q⟩ := h.own.cells e
  rw [h.c0] at q
  simp [RE] at q
theorem RefAt.keep {w w' : World} {base d : Nat} {v : Value} {R : List Elt} (h : RefAt w base d v R) (h1 : w'.heap[d]? = w.heap[d]?) (h2 : ∀ k, v.ownBlock = some k → w'.heap[k]? = w.heap[k]?) : RefAt w' base d v R := ⟨h1.trans h.c0, h.own.keep h2, h.ok, h.hd, h.len⟩
theorem RefAt.lt {w : World} {base d : Nat} {v : Value} {R : List Elt} (h : RefAt w base d v R) : d < w.heap.size := (Array.getElem?_eq_some_iff.1 h.c0).1
theorem RefAt.below {w w' : World} {base d : Nat} {v : Value} {R : List Elt} (h : RefAt w base d v R) (b : Below w.heap.size w w') : RefAt w' base d v R := h.keep (b.block d h.lt) (fun k hk => b.block k (h.own.lt hk))
theorem RefAt.wf {w : World} {base d : Nat} {v : Value} {R : List Elt} (h : RefAt w base d v R) : ∀ e ∈ R, RE.ok e := fun e he => ⟨(h.ok.ok e he).1, (h.ok.ok e he).2.1⟩
theorem RefAt.open {w : World} {base d : Nat} {v : Value} {R : List Elt} (h : RefAt w base d v R) : ∃ a c, v = .slice a R.length c ∧ RE.At w a R := by
  obtain ⟨a, c, e, ha, _⟩ := h.own.open RE_is h.wf
  exact ⟨a, c, e, ha⟩
theorem ld_all {w : World} {d : Nat} {v : Value} {a : Option Addr} {n c : Nat} (h : w.heap[d]? = some (.cells #[v] 73 (0, 0))) (e : v = .slice a n c) : (Instr.loadAt 71 (.pointer (some ⟨d, 0 + 0, none⟩))).run Try.prog w = .ok v w := by
  have hc : w.cell? ⟨d, 0, none⟩ = some v := by rw [cell_of_row w d 0 _ _ _ h]; rfl
  subst e
  rw [Nat.add_zero]
  go_simp
theorem st_all {w : World} {d : Nat} {v : Value} {a : Option Addr} {n c : Nat} (h : w.heap[d]? = some (.cells #[v] 73 (0, 0))) : (Instr.storeAt 71 (.pointer (some ⟨d, 0 + 0, none⟩)) (.slice a n c)).run Try.prog w = .ok () (w.setCell ⟨d, 0, none⟩ (.slice a n c)) ∧ (w.setCell ⟨d, 0, none⟩ (.slice a n c)).heap[d]? = some (.cells #[.slice a n c] 73 (0, 0)) := by
  have hc : w.cell? ⟨d, 0, none⟩ = some v := by rw [cell_of_row w d 0 _ _ _ h]; rfl
  have hf := frozen_of_row w d 0 _ _ h
  refine ⟨by rw [Nat.add_zero]; go_simp, ?_⟩
  exact Go.heap_setCell_same _ _ 0 _ _ _ h
theorem ix_el0 {b m c i : Nat} (hi : i < m) (hm : m ≤ 1400000000001) (W : World) : (Instr.indexAt 71 (.slice (some ⟨b, 0, none⟩) m c) (.int .i64 (i : Int))).run Try.prog W = .ok (.pointer (some ⟨b, 67 * i, none⟩)) W := by
  have := ix_el (b := b) (o := 0) (c := c) hi hm W
  rwa [Nat.zero_add] at this
theorem ex_dec {w : World} {a : Act} {o : Oper} {x y : Operand} {n : Nat} (ho : o.op = .binOp .sub 3 x y 3) (hx : a.eval x = .int .i64 ((n + 1 : Nat) : Int)) (hy : a.eval y = .int .i64 1) (h : n ≤ 1400000000001) : (execOp a.eval o).run Try.prog w = .ok (.value (.int .i64 (n : Int))) w := by
  have := ex_sub (w := w) ho hx hy ⟨by omega, by omega⟩
  rw [this, show ((n + 1 : Nat) : Int) - 1 = (n : Int) by omega]
theorem build_elt0 (w : World) (s : Bool) (a0 a1 a2 a3 a4 a5 a6 a7 a8 a9 a10 a11 a12 a13 a14 a15 a16 a17 a18 a19 a20 a21 a22 a23 a24 a25 a26 a27 a28 a29 a30 a31 a32 b0 b1 b2 b3 b4 b5 b6 b7 b8 b9 b10 b11 b12 b13 b14 b15 b16 b17 b18 b19 b20 b21 b22 b23 b24 b25 b26 b27 b28 b29 b30 b31 b32 : Value) : (Instr.build 78 #[(0, .agg [a0, a1, a2, a3, a4, a5, a6, a7, a8, a9, a10, a11, a12, a13, a14, a15, a16, a17, a18, a19, a20, a21, a22, a23, a24, a25, a26, a27, a28, a29, a30, a31, a32].toArray), (1, .agg [b0, b1, b2, b3, b4, b5, b6, b7, b8, b9, b10, b11, b12, b13, b14, b15, b16, b17, b18, b19, b20, b21, b22, b23, b24, b25, b26, b27, b28, b29, b30, b31, b32].toArray), (2, .bool s)]).run Try.prog w = .ok (.agg ([a0, a1, a2, a3, a4, a5, a6, a7, a8, a9, a10, a11, a12, a13, a14, a15, a16, a17, a18, a19, a20, a21, a22, a23, a24, a25, a26, a27, a28, a29, a30, a31, a32] ++ ([b0, b1, b2, b3, b4, b5, b6, b7, b8, b9, b10, b11, b12, b13, b14, b15, b16, b17, b18, b19, b20, b21, b22, b23, b24, b25, b26, b27, b28, b29, b30, b31, b32] ++ [Value.bool s])).toArray) w := by kernel_rfl
theorem build_elt (w : World) {p q : IdK} (hp : p.ok) (hq : q.ok) (s : Bool) : (Instr.build 78 #[(0, p.v), (1, q.v), (2, .bool s)]).run Try.prog w = .ok (.agg (Elt.c ⟨p, q, s⟩).toArray) w := by
  have h := IdK.len hp
  have h2 := IdK.len hq
  unfold Elt.c IdK.v
  simp only
  generalize p.c = l at *
  generalize q.c = m at *
  match l, h, m, h2 with
  | a0 :: a1 :: a2 :: a3 :: a4 :: a5 :: a6 :: a7 :: a8 :: a9 :: a10 :: a11 :: a12 :: a13 :: a14 :: a15 :: a16 :: a17 :: a18 :: a19 :: a20 :: a21 :: a22 :: a23 :: a24 :: a25 :: a26 :: a27 :: a28 :: a29 :: a30 :: a31 :: a32 :: [], _, b0 :: b1 :: b2 :: b3 :: b4 :: b5 :: b6 :: b7 :: b8 :: b9 :: b10 :: b11 :: b12 :: b13 :: b14 :: b15 :: b16 :: b17 :: b18 :: b19 :: b20 :: b21 :: b22 :: b23 :: b24 :: b25 :: b26 :: b27 :: b28 :: b29 :: b30 :: b31 :: b32 :: [], _ => exact build_elt0 w s a0 a1 a2 a3 a4 a5 a6 a7 a8 a9 a10 a11 a12 a13 a14 a15 a16 a17 a18 a19 a20 a21 a22 a23 a24 a25 a26 a27 a28 a29 a30 a31 a32 b0 b1 b2 b3 b4 b5 b6 b7 b8 b9 b10 b11 b12 b13 b14 b15 b16 b17 b18 b19 b20 b21 b22 b23 b24 b25 b26 b27 b28 b29 b30 b31 b32
theorem ex_elt {w : World} {a : Act} {o : Oper} {x y z : Operand} {p q : IdK} {s : Bool} (ho : o.op = .build 78 #[(0, x), (1, y), (2, z)]) (hx : a.eval x = p.v) (hy : a.eval y = q.v) (hz : a.eval z = .bool s) (hp : p.ok) (hq : q.ok) : (execOp a.eval o).run Try.prog w = .ok (.value (.agg (Elt.c ⟨p, q, s⟩).toArray)) w :=
  exec_build ho (by simp [hx, hy, hz]) (build_elt w hp hq s)
def dfin3_o0 : Oper := ⟨some 8, .move (.tmp 5), 3, "ref.go:33", #[], none⟩
def dfin3_o1 : Oper := ⟨some 9, .move (.tmp 0), 26, "ref.go:33", #[], none⟩
def dfin3_o2 : Oper := ⟨some 10, .nilCheck (.tmp 9), 0, "ref.go:33", #[⟨1, .data⟩], none⟩
def dfin3_o3 : Oper := ⟨some 11, .fieldAddr 73 (.tmp 10) 0, 0, "ref.go:33", #[⟨2, .data⟩], none⟩
def dfin3_o4 : Oper := ⟨some 12, .load 71 (.tmp 11), 71, "ref.go:33", #[⟨3, .data⟩], none⟩
def dfin3_o5 : Oper := ⟨some 13, .call { callee := Callee.builtin Builtin.len, args := #[.tmp 12], argTypes := #[71] }, 3, "ref.go:33", #[⟨4, .data⟩], none⟩
def dfin3_o6 : Oper := ⟨some 14, .binOp BinOp.lss 3 (.tmp 8) (.tmp 13) 3, 4, "ref.go:33", #[⟨0, .data⟩, ⟨5, .data⟩], none⟩
def dfin3_ops : Array Oper := #[dfin3_o0, dfin3_o1, dfin3_o2, dfin3_o3, dfin3_o4, dfin3_o5, dfin3_o6]
theorem dfin3 {d i n ec : Nat} {ea : Option Addr} {g : Bool} (a : Act) (w : World) (Q : Exit → Act → World → Prop) (zz : a.tmps.size = 28)
    (t0 : a.tmps.getD 0 undef = .pointer (some ⟨d, 0, none⟩))
    (t5 : a.tmps.getD 5 undef = .int .i64 (i : Int))
    (h0 : w.heap[d]? = some (.cells #[.slice ea n ec] 73 (0, 0))) (hg : decide ((i : Int) < (n : Int)) = g)
    (h : ∀ (a' : Act) (w' : World), w' = w → a' = (((((((a).put (some 8) (.int .i64 (i : Int))).put (some 9) (.pointer (some ⟨d, 0, none⟩))).put (some 10) (.pointer (some ⟨d, 0, none⟩))).put (some 11) (.pointer (some ⟨d, 0 + 0, none⟩))).put (some 12) (.slice ea n ec)).put (some 13) (.int .i64 (n : Int))).put (some 14) (.bool g) → Q .normal a' w') :
    (Code.region 3 dfin3_ops false).wp Try.prog Q a w := by
  refine z0 rfl ?_
  refine zv rfl (exec_move rfl (zi t5 rfl)) ?_
  refine zv rfl (exec_move rfl (zi t0 rfl)) ?_
  refine zv rfl (exec_nilCheck rfl (zg zz rfl)) ?_
  refine zv rfl (exec_fieldAt rfl (zg zz rfl) (fg_73_0 _ _ _)) ?_
  refine zv rfl (exec_load rfl (zg zz rfl) (ld_all h0 rfl)) ?_
  refine zv rfl (exec_len rfl (zg zz rfl) (len_els _ _ _ _ _)) ?_
  refine zv (v := .bool g) rfl (ex_lss rfl (zg zz rfl) (zg zz rfl) hg) ?_
  exact ze rfl (h _ _ (rfl) rfl)
def dfin5_o0 : Oper := ⟨some 17, .move (.tmp 0), 26, "ref.go:34", #[], none⟩
def dfin5_o1 : Oper := ⟨some 18, .nilCheck (.tmp 17), 0, "ref.go:34", #[⟨0, .data⟩], none⟩
def dfin5_o2 : Oper := ⟨some 19, .fieldAddr 73 (.tmp 18) 0, 0, "ref.go:34", #[⟨1, .data⟩], none⟩
def dfin5_o3 : Oper := ⟨some 20, .load 71 (.tmp 19), 71, "ref.go:34", #[⟨2, .data⟩], none⟩
def dfin5_o4 : Oper := ⟨some 21, .move (.tmp 5), 3, "ref.go:34", #[], none⟩
def dfin5_o5 : Oper := ⟨some 22, .indexAddr 71 (.tmp 20) (.tmp 21), 0, "ref.go:34", #[⟨3, .data⟩, ⟨4, .data⟩], none⟩
def dfin5_o6 : Oper := ⟨some 23, .fieldAddr 78 (.tmp 22) 0, 0, "ref.go:34", #[⟨5, .data⟩], none⟩
def dfin5_o7 : Oper := ⟨some 24, .load 32 (.tmp 23), 32, "ref.go:34", #[⟨6, .data⟩], none⟩
def dfin5_o8 : Oper := ⟨some 25, .load 32 (.tmp 3), 32, "ref.go:34", #[], none⟩
def dfin5_o9 : Oper := ⟨some 26, .binOp BinOp.eql 32 (.tmp 24) (.tmp 25) 32, 4, "ref.go:34", #[⟨7, .data⟩, ⟨8, .data⟩], none⟩
def dfin5_ops : Array Oper := #[dfin5_o0, dfin5_o1, dfin5_o2, dfin5_o3, dfin5_o4, dfin5_o5, dfin5_o6, dfin5_o7, dfin5_o8, dfin5_o9]
theorem dfin5 {d eb eo n ec i : Nat} {x : Elt} {kb : Nat} {k : IdK} {g : Bool} (a : Act) (w : World) (Q : Exit → Act → World → Prop) (zz : a.tmps.size = 28)
    (t0 : a.tmps.getD 0 undef = .pointer (some ⟨d, 0, none⟩))
    (t3 : a.tmps.getD 3 undef = .pointer (some ⟨kb, 0, none⟩))
    (t5 : a.tmps.getD 5 undef = .int .i64 (i : Int))
    (hx : x.wf) (hi : i < n) (hn : n ≤ 1400000000001) (hk : k.ok) (he : decide (x.id = k) = g) (h0 : w.drew.heap[d]? = some (.cells #[.slice (some ⟨eb, eo, none⟩) n ec] 73 (0, 0))) (h1 : w.drew.rangeAt eb (eo + 67 * i) x.c) (h2 : IdAt w.drew kb k)
    (h : ∀ (a' : Act) (w' : World), w' = w.drew → a' = ((((((((((a).put (some 17) (.pointer (some ⟨d, 0, none⟩))).put (some 18) (.pointer (some ⟨d, 0, none⟩))).put (some 19) (.pointer (some ⟨d, 0 + 0, none⟩))).put (some 20) (.slice (some ⟨eb, eo, none⟩) n ec)).put (some 21) (.int .i64 (i : Int))).put (some 22) (.pointer (some ⟨eb, eo + 67 * i, none⟩))).put (some 23) (.pointer (some ⟨eb, eo + 67 * i + 0, none⟩))).put (some 24) (x.id.v)).put (some 25) (k.v)).put (some 26) (.bool g) → Q .normal a' w') :
    (Code.region 5 dfin5_ops true).wp Try.prog Q a w := by
  refine y0 (fun w' => w' = w.drew) (rfl) (fun hHeld => ?_)
  refine yv 0 rfl rfl (fun w1 hw => exec_move rfl (zi t0 rfl)) hHeld ?_
  refine yv 1 rfl rfl (fun w1 hw => exec_nilCheck rfl (zg zz rfl)) hHeld ?_
  refine yv 2 rfl rfl (fun w1 hw => exec_fieldAt rfl (zg zz rfl) (fg_73_0 _ _ _)) hHeld ?_
  refine yv 3 rfl rfl (fun w1 hw => exec_load rfl (zg zz rfl) (ld_all (by rw [hw]; exact h0) rfl)) hHeld ?_
  refine yv 4 rfl rfl (fun w1 hw => exec_move rfl (zi t5 rfl)) hHeld ?_
  refine yv 5 rfl rfl (fun w1 hw => exec_indexAt rfl (zg zz rfl) (zg zz rfl) (ix_el hi hn _)) hHeld ?_
  refine yv 6 rfl rfl (fun w1 hw => exec_fieldAt rfl (zg zz rfl) (fg_78_0 _ _ _)) hHeld ?_
  refine yv 7 rfl rfl (fun w1 hw => exec_load rfl (zg zz rfl) (el_id hx (by rw [hw]; exact h1))) hHeld ?_
  refine yv 8 rfl rfl (fun w1 hw => exec_load rfl (zi t3 rfl) (load_id hk (by rw [hw]; exact h2))) hHeld ?_
  refine yv (v := .bool g) 9 rfl rfl (fun w1 hw => ex_eqlI rfl (zg zz rfl) (zg zz rfl) hx.1 hk he) hHeld ?_
  exact ye rfl (h _ _ (hHeld) rfl)
def drow5_o0 : Oper := ⟨some 11, .move (.tmp 4), 3, "ref.go:98", #[], none⟩
def drow5_o1 : Oper := ⟨some 12, .move (.tmp 0), 26, "ref.go:98", #[], none⟩
def drow5_o2 : Oper := ⟨some 13, .nilCheck (.tmp 12), 0, "ref.go:98", #[⟨1, .data⟩], none⟩
def drow5_o3 : Oper := ⟨some 14, .fieldAddr 73 (.tmp 13) 0, 0, "ref.go:98", #[⟨2, .data⟩], none⟩
def drow5_o4 : Oper := ⟨some 15, .load 71 (.tmp 14), 71, "ref.go:98", #[⟨3, .data⟩], none⟩
def drow5_o5 : Oper := ⟨some 16, .call { callee := Callee.builtin Builtin.len, args := #[.tmp 15], argTypes := #[71] }, 3, "ref.go:98", #[⟨4, .data⟩], none⟩
def drow5_o6 : Oper := ⟨some 17, .binOp BinOp.lss 3 (.tmp 11) (.tmp 16) 3, 4, "ref.go:98", #[⟨0, .data⟩, ⟨5, .data⟩], none⟩
def drow5_ops : Array Oper := #[drow5_o0, drow5_o1, drow5_o2, drow5_o3, drow5_o4, drow5_o5, drow5_o6]
theorem drow5 {d i n ec : Nat} {ea : Option Addr} {g : Bool} (a : Act) (w : World) (Q : Exit → Act → World → Prop) (zz : a.tmps.size = 73)
    (t0 : a.tmps.getD 0 undef = .pointer (some ⟨d, 0, none⟩))
    (t4 : a.tmps.getD 4 undef = .int .i64 (i : Int))
    (h0 : w.heap[d]? = some (.cells #[.slice ea n ec] 73 (0, 0))) (hg : decide ((i : Int) < (n : Int)) = g)
    (h : ∀ (a' : Act) (w' : World), w' = w → a' = (((((((a).put (some 11) (.int .i64 (i : Int))).put (some 12) (.pointer (some ⟨d, 0, none⟩))).put (some 13) (.pointer (some ⟨d, 0, none⟩))).put (some 14) (.pointer (some ⟨d, 0 + 0, none⟩))).put (some 15) (.slice ea n ec)).put (some 16) (.int .i64 (n : Int))).put (some 17) (.bool g) → Q .normal a' w') :
    (Code.region 5 drow5_ops false).wp Try.prog Q a w := by
  refine z0 rfl ?_
  refine zv rfl (exec_move rfl (zi t4 rfl)) ?_
  refine zv rfl (exec_move rfl (zi t0 rfl)) ?_
  refine zv rfl (exec_nilCheck rfl (zg zz rfl)) ?_
  refine zv rfl (exec_fieldAt rfl (zg zz rfl) (fg_73_0 _ _ _)) ?_
  refine zv rfl (exec_load rfl (zg zz rfl) (ld_all h0 rfl)) ?_
  refine zv rfl (exec_len rfl (zg zz rfl) (len_els _ _ _ _ _)) ?_
  refine zv (v := .bool g) rfl (ex_lss rfl (zg zz rfl) (zg zz rfl) hg) ?_
  exact ze rfl (h _ _ (rfl) rfl)
def drow11_o0 : Oper := ⟨some 26, .move (.tmp 3), 71, "ref.go:101", #[], none⟩
def drow11_o1 : Oper := ⟨some 27, .move (.tmp 6), 3, "ref.go:101", #[], none⟩
def drow11_o2 : Oper := ⟨some 28, .indexAddr 71 (.tmp 26) (.tmp 27), 0, "ref.go:101", #[⟨0, .data⟩, ⟨1, .data⟩], none⟩
def drow11_o3 : Oper := ⟨some 29, .fieldAddr 78 (.tmp 28) 0, 0, "ref.go:101", #[⟨2, .data⟩], none⟩
def drow11_o4 : Oper := ⟨some 30, .load 32 (.tmp 29), 32, "ref.go:101", #[⟨3, .data⟩], none⟩
def drow11_o5 : Oper := ⟨some 31, .move (.tmp 0), 26, "ref.go:101", #[], none⟩
def drow11_o6 : Oper := ⟨some 32, .nilCheck (.tmp 31), 0, "ref.go:101", #[⟨5, .data⟩], none⟩
def drow11_o7 : Oper := ⟨some 33, .fieldAddr 73 (.tmp 32) 0, 0, "ref.go:101", #[⟨6, .data⟩], none⟩
def drow11_o8 : Oper := ⟨some 34, .load 71 (.tmp 33), 71, "ref.go:101", #[⟨7, .data⟩], none⟩
def drow11_o9 : Oper := ⟨some 35, .move (.tmp 4), 3, "ref.go:101", #[], none⟩
def drow11_o10 : Oper := ⟨some 36, .indexAddr 71 (.tmp 34) (.tmp 35), 0, "ref.go:101", #[⟨8, .data⟩, ⟨9, .data⟩], none⟩
def drow11_o11 : Oper := ⟨some 37, .fieldAddr 78 (.tmp 36) 1, 0, "ref.go:101", #[⟨10, .data⟩], none⟩
def drow11_o12 : Oper := ⟨some 38, .load 32 (.tmp 37), 32, "ref.go:101", #[⟨11, .data⟩], none⟩
def drow11_o13 : Oper := ⟨some 39, .binOp BinOp.eql 32 (.tmp 30) (.tmp 38) 32, 4, "ref.go:101", #[⟨4, .data⟩, ⟨12, .data⟩], none⟩
def drow11_ops : Array Oper := #[drow11_o0, drow11_o1, drow11_o2, drow11_o3, drow11_o4, drow11_o5, drow11_o6, drow11_o7, drow11_o8, drow11_o9, drow11_o10, drow11_o11, drow11_o12, drow11_o13]
theorem drow11 {d eb eo n ec i : Nat} {x : Elt} {lb q lc j : Nat} {y : Elt} {g : Bool} (a : Act) (w : World) (Q : Exit → Act → World → Prop) (zz : a.tmps.size = 73)
    (t3 : a.tmps.getD 3 undef = .slice (some ⟨lb, 0, none⟩) q lc)
    (t6 : a.tmps.getD 6 undef = .int .i64 (j : Int))
    (t0 : a.tmps.getD 0 undef = .pointer (some ⟨d, 0, none⟩))
    (t4 : a.tmps.getD 4 undef = .int .i64 (i : Int))
    (hx : x.wf) (hi : i < n) (hn : n ≤ 1400000000001) (hy : y.wf) (hj : j < q) (hq : q ≤ 1400000000001) (he : decide (y.id = x.bh) = g) (h0 : w.drew.heap[d]? = some (.cells #[.slice (some ⟨eb, eo, none⟩) n ec] 73 (0, 0))) (h1 : w.drew.rangeAt eb (eo + 67 * i) x.c) (h2 : w.drew.rangeAt lb (67 * j) y.c)
    (h : ∀ (a' : Act) (w' : World), w' = w.drew → a' = ((((((((((((((a).put (some 26) (.slice (some ⟨lb, 0, none⟩) q lc)).put (some 27) (.int .i64 (j : Int))).put (some 28) (.pointer (some ⟨lb, 67 * j, none⟩))).put (some 29) (.pointer (some ⟨lb, 67 * j + 0, none⟩))).put (some 30) (y.id.v)).put (some 31) (.pointer (some ⟨d, 0, none⟩))).put (some 32) (.pointer (some ⟨d, 0, none⟩))).put (some 33) (.pointer (some ⟨d, 0 + 0, none⟩))).put (some 34) (.slice (some ⟨eb, eo, none⟩) n ec)).put (some 35) (.int .i64 (i : Int))).put (some 36) (.pointer (some ⟨eb, eo + 67 * i, none⟩))).put (some 37) (.pointer (some ⟨eb, eo + 67 * i + 33, none⟩))).put (some 38) (x.bh.v)).put (some 39) (.bool g) → Q .normal a' w') :
    (Code.region 11 drow11_ops true).wp Try.prog Q a w := by
  refine y0 (fun w' => w' = w.drew) (rfl) (fun hHeld => ?_)
  refine yv 0 rfl rfl (fun w1 hw => exec_move rfl (zi t3 rfl)) hHeld ?_
  refine yv 1 rfl rfl (fun w1 hw => exec_move rfl (zi t6 rfl)) hHeld ?_
  refine yv 2 rfl rfl (fun w1 hw => exec_indexAt rfl (zg zz rfl) (zg zz rfl) (ix_el0 hj hq _)) hHeld ?_
  refine yv 3 rfl rfl (fun w1 hw => exec_fieldAt rfl (zg zz rfl) (fg_78_0 _ _ _)) hHeld ?_
  refine yv 4 rfl rfl (fun w1 hw => exec_load rfl (zg zz rfl) (el_id hy (by rw [hw]; exact h2))) hHeld ?_
  refine yv 5 rfl rfl (fun w1 hw => exec_move rfl (zi t0 rfl)) hHeld ?_
  refine yv 6 rfl rfl (fun w1 hw => exec_nilCheck rfl (zg zz rfl)) hHeld ?_
  refine yv 7 rfl rfl (fun w1 hw => exec_fieldAt rfl (zg zz rfl) (fg_73_0 _ _ _)) hHeld ?_
  refine yv 8 rfl rfl (fun w1 hw => exec_load rfl (zg zz rfl) (ld_all (by rw [hw]; exact h0) rfl)) hHeld ?_
  refine yv 9 rfl rfl (fun w1 hw => exec_move rfl (zi t4 rfl)) hHeld ?_
  refine yv 10 rfl rfl (fun w1 hw => exec_indexAt rfl (zg zz rfl) (zg zz rfl) (ix_el hi hn _)) hHeld ?_
  refine yv 11 rfl rfl (fun w1 hw => exec_fieldAt rfl (zg zz rfl) (fg_78_1 _ _ _)) hHeld ?_
  refine yv 12 rfl rfl (fun w1 hw => exec_load rfl (zg zz rfl) (el_bh hx (by rw [hw]; exact h1))) hHeld ?_
  refine yv (v := .bool g) 13 rfl rfl (fun w1 hw => ex_eqlI rfl (zg zz rfl) (zg zz rfl) hy.1 hx.2 he) hHeld ?_
  exact ye rfl (h _ _ (hHeld) rfl)
def drow13_o0 : Oper := ⟨some 42, .move (.tmp 3), 71, "ref.go:105", #[], none⟩
def drow13_o1 : Oper := ⟨some 43, .build 78 #[], 78, "ref.go:105", #[], none⟩
def drow13_o2 : Oper := ⟨some 44, .buildSlice 71 1 #[(0, .tmp 43)], 71, "ref.go:105", #[⟨1, .data⟩], none⟩
def drow13_o3 : Oper := ⟨some 45, .call { callee := Callee.builtin Builtin.append, args := #[.tmp 42, .tmp 44], argTypes := #[71, 71] }, 71, "ref.go:105", #[⟨0, .data⟩, ⟨2, .data⟩], none⟩
def drow13_o4 : Oper := ⟨some 3, .assign (.tmp 45), 71, "ref.go:105", #[⟨3, .data⟩, ⟨3, .chain⟩, ⟨0, .phase⟩, ⟨1, .phase⟩, ⟨2, .phase⟩, ⟨3, .phase⟩], none⟩
def drow13_ops : Array Oper := #[drow13_o0, drow13_o1, drow13_o2, drow13_o3, drow13_o4]
theorem drow13 {lv sv v2 : Value} {w1 w2 : World} (a : Act) (w : World) (Q : Exit → Act → World → Prop) (zz : a.tmps.size = 73)
    (t3 : a.tmps.getD 3 undef = lv)
    (E1 : (Instr.buildSlice 71 1 #[(0, .agg zElt.c.toArray)]).run Try.prog w = .ok sv w1) (E2 : (Builtin.append_ #[71, 71] 71 #[lv, sv]).run Try.prog w1 = .ok v2 w2)
    (h : ∀ (a' : Act) (w' : World), w' = w2 → a' = (((((a).put (some 42) (lv)).put (some 43) (.agg zElt.c.toArray)).put (some 44) (sv)).put (some 45) (v2)).put (some 3) (v2) → Q .normal a' w') :
    (Code.region 13 drow13_ops false).wp Try.prog Q a w := by
  refine z0 rfl ?_
  refine zv rfl (exec_move rfl (zi t3 rfl)) ?_
  refine zv rfl (exec_build0 rfl (build_elz _)) ?_
  refine zv (v := sv) rfl (exec_buildSlice rfl (zg zz rfl) E1) ?_
  refine zv (v := v2) rfl (exec_append rfl (zg zz rfl) (zg zz rfl) E2) ?_
  refine zv rfl (exec_assign rfl (zg zz rfl)) ?_
  exact ze rfl (h _ _ (rfl) rfl)
def drow17_o0 : Oper := ⟨some 54, .move (.tmp 3), 71, "ref.go:107", #[], none⟩
def drow17_o1 : Oper := ⟨some 55, .move (.tmp 7), 3, "ref.go:107", #[], none⟩
def drow17_o2 : Oper := ⟨some 56, .move (.tmp 3), 71, "ref.go:107", #[], none⟩
def drow17_o3 : Oper := ⟨some 57, .move (.tmp 7), 3, "ref.go:107", #[], none⟩
def drow17_o4 : Oper := ⟨some 58, .binOp BinOp.sub 3 (.tmp 57) (Operand.const (Value.int IntKind.i64 1)) 3, 3, "ref.go:107", #[⟨3, .data⟩], none⟩
def drow17_o5 : Oper := ⟨some 59, .indexAddr 71 (.tmp 56) (.tmp 58), 0, "ref.go:107", #[⟨2, .data⟩, ⟨4, .data⟩], none⟩
def drow17_o6 : Oper := ⟨some 60, .load 78 (.tmp 59), 78, "ref.go:107", #[⟨5, .data⟩], none⟩
def drow17_o7 : Oper := ⟨some 61, .indexAddr 71 (.tmp 54) (.tmp 55), 0, "ref.go:107", #[⟨0, .data⟩, ⟨1, .data⟩, ⟨0, .phase⟩, ⟨1, .phase⟩, ⟨2, .phase⟩, ⟨3, .phase⟩, ⟨4, .phase⟩, ⟨5, .phase⟩, ⟨6, .phase⟩], none⟩
def drow17_o8 : Oper := ⟨none, .store 78 (.tmp 61) (.tmp 60), 0, "ref.go:107", #[⟨7, .data⟩, ⟨6, .data⟩, ⟨0, .phase⟩, ⟨1, .phase⟩, ⟨2, .phase⟩, ⟨3, .phase⟩, ⟨4, .phase⟩, ⟨5, .phase⟩, ⟨6, .phase⟩], none⟩
def drow17_ops : Array Oper := #[drow17_o0, drow17_o1, drow17_o2, drow17_o3, drow17_o4, drow17_o5, drow17_o6, drow17_o7, drow17_o8]
theorem drow17 {lb q lc j : Nat} {y : Elt} {w2 : World} (a : Act) (w : World) (Q : Exit → Act → World → Prop) (zz : a.tmps.size = 73)
    (t3 : a.tmps.getD 3 undef = .slice (some ⟨lb, 0, none⟩) q lc)
    (t7 : a.tmps.getD 7 undef = .int .i64 ((j + 1 : Nat) : Int))
    (hy : y.wf) (hj : j + 1 < q) (hq : q ≤ 1400000000001) (h2 : w.rangeAt lb (67 * j) y.c) (E1 : (Instr.storeAt 78 (.pointer (some ⟨lb, 67 * (j + 1), none⟩)) (.agg y.c.toArray)).run Try.prog w = .ok () w2)
    (h : ∀ (a' : Act) (w' : World), w' = w2 → a' = ((((((((a).put (some 54) (.slice (some ⟨lb, 0, none⟩) q lc)).put (some 55) (.int .i64 ((j + 1 : Nat) : Int))).put (some 56) (.slice (some ⟨lb, 0, none⟩) q lc)).put (some 57) (.int .i64 ((j + 1 : Nat) : Int))).put (some 58) (.int .i64 (j : Int))).put (some 59) (.pointer (some ⟨lb, 67 * j, none⟩))).put (some 60) (.agg y.c.toArray)).put (some 61) (.pointer (some ⟨lb, 67 * (j + 1), none⟩)) → Q .normal a' w') :
    (Code.region 17 drow17_ops false).wp Try.prog Q a w := by
  refine z0 rfl ?_
  refine zv rfl (exec_move rfl (zi t3 rfl)) ?_
  refine zv rfl (exec_move rfl (zi t7 rfl)) ?_
  refine zv rfl (exec_move rfl (zi t3 rfl)) ?_
  refine zv rfl (exec_move rfl (zi t7 rfl)) ?_
  refine zv (v := .int .i64 (j : Int)) rfl (ex_dec rfl (zg zz rfl) rfl (by omega)) ?_
  refine zv rfl (exec_indexAt rfl (zg zz rfl) (zg zz rfl) (ix_el0 (by omega) hq _)) ?_
  refine zv rfl (exec_load rfl (zg zz rfl) (ld_el hy h2)) ?_
  refine zv rfl (exec_indexAt rfl (zg zz rfl) (zg zz rfl) (ix_el0 hj hq _)) ?_
  refine zs rfl (exec_store rfl (zg zz rfl) (zg zz rfl) E1) ?_
  exact ze rfl (h _ _ (rfl) rfl)
def drow18_o0 : Oper := ⟨some 62, .move (.tmp 3), 71, "ref.go:109", #[], none⟩
def drow18_o1 : Oper := ⟨some 63, .move (.tmp 5), 3, "ref.go:109", #[], none⟩
def drow18_o2 : Oper := ⟨some 64, .move (.tmp 0), 26, "ref.go:109", #[], none⟩
def drow18_o3 : Oper := ⟨some 65, .nilCheck (.tmp 64), 0, "ref.go:109", #[⟨2, .data⟩], none⟩
def drow18_o4 : Oper := ⟨some 66, .fieldAddr 73 (.tmp 65) 0, 0, "ref.go:109", #[⟨3, .data⟩], none⟩
def drow18_o5 : Oper := ⟨some 67, .load 71 (.tmp 66), 71, "ref.go:109", #[⟨4, .data⟩], none⟩
def drow18_o6 : Oper := ⟨some 68, .move (.tmp 4), 3, "ref.go:109", #[], none⟩
def drow18_o7 : Oper := ⟨some 69, .indexAddr 71 (.tmp 67) (.tmp 68), 0, "ref.go:109", #[⟨5, .data⟩, ⟨6, .data⟩], none⟩
def drow18_o8 : Oper := ⟨some 70, .load 78 (.tmp 69), 78, "ref.go:109", #[⟨7, .data⟩], none⟩
def drow18_o9 : Oper := ⟨some 71, .indexAddr 71 (.tmp 62) (.tmp 63), 0, "ref.go:109", #[⟨0, .data⟩, ⟨1, .data⟩, ⟨0, .phase⟩, ⟨1, .phase⟩, ⟨2, .phase⟩, ⟨3, .phase⟩, ⟨4, .phase⟩, ⟨5, .phase⟩, ⟨6, .phase⟩, ⟨7, .phase⟩, ⟨8, .phase⟩], none⟩
def drow18_o10 : Oper := ⟨none, .store 78 (.tmp 71) (.tmp 70), 0, "ref.go:109", #[⟨9, .data⟩, ⟨8, .data⟩, ⟨0, .phase⟩, ⟨1, .phase⟩, ⟨2, .phase⟩, ⟨3, .phase⟩, ⟨4, .phase⟩, ⟨5, .phase⟩, ⟨6, .phase⟩, ⟨7, .phase⟩, ⟨8, .phase⟩], none⟩
def drow18_ops : Array Oper := #[drow18_o0, drow18_o1, drow18_o2, drow18_o3, drow18_o4, drow18_o5, drow18_o6, drow18_o7, drow18_o8, drow18_o9, drow18_o10]
theorem drow18 {d eb eo n ec i : Nat} {x : Elt} {lb q lc p : Nat} {w2 : World} (a : Act) (w : World) (Q : Exit → Act → World → Prop) (zz : a.tmps.size = 73)
    (t3 : a.tmps.getD 3 undef = .slice (some ⟨lb, 0, none⟩) q lc)
    (t5 : a.tmps.getD 5 undef = .int .i64 (p : Int))
    (t0 : a.tmps.getD 0 undef = .pointer (some ⟨d, 0, none⟩))
    (t4 : a.tmps.getD 4 undef = .int .i64 (i : Int))
    (hx : x.wf) (hi : i < n) (hn : n ≤ 1400000000001) (hp : p < q) (hq : q ≤ 1400000000001) (h0 : w.heap[d]? = some (.cells #[.slice (some ⟨eb, eo, none⟩) n ec] 73 (0, 0))) (h1 : w.rangeAt eb (eo + 67 * i) x.c) (E1 : (Instr.storeAt 78 (.pointer (some ⟨lb, 67 * p, none⟩)) (.agg x.c.toArray)).run Try.prog w = .ok () w2)
    (h : ∀ (a' : Act) (w' : World), w' = w2 → a' = ((((((((((a).put (some 62) (.slice (some ⟨lb, 0, none⟩) q lc)).put (some 63) (.int .i64 (p : Int))).put (some 64) (.pointer (some ⟨d, 0, none⟩))).put (some 65) (.pointer (some ⟨d, 0, none⟩))).put (some 66) (.pointer (some ⟨d, 0 + 0, none⟩))).put (some 67) (.slice (some ⟨eb, eo, none⟩) n ec)).put (some 68) (.int .i64 (i : Int))).put (some 69) (.pointer (some ⟨eb, eo + 67 * i, none⟩))).put (some 70) (.agg x.c.toArray)).put (some 71) (.pointer (some ⟨lb, 67 * p, none⟩)) → Q .normal a' w') :
    (Code.region 18 drow18_ops false).wp Try.prog Q a w := by
  refine z0 rfl ?_
  refine zv rfl (exec_move rfl (zi t3 rfl)) ?_
  refine zv rfl (exec_move rfl (zi t5 rfl)) ?_
  refine zv rfl (exec_move rfl (zi t0 rfl)) ?_
  refine zv rfl (exec_nilCheck rfl (zg zz rfl)) ?_
  refine zv rfl (exec_fieldAt rfl (zg zz rfl) (fg_73_0 _ _ _)) ?_
  refine zv rfl (exec_load rfl (zg zz rfl) (ld_all h0 rfl)) ?_
  refine zv rfl (exec_move rfl (zi t4 rfl)) ?_
  refine zv rfl (exec_indexAt rfl (zg zz rfl) (zg zz rfl) (ix_el hi hn _)) ?_
  refine zv rfl (exec_load rfl (zg zz rfl) (ld_el hx h1)) ?_
  refine zv rfl (exec_indexAt rfl (zg zz rfl) (zg zz rfl) (ix_el0 hp hq _)) ?_
  refine zs rfl (exec_store rfl (zg zz rfl) (zg zz rfl) E1) ?_
  exact ze rfl (h _ _ (rfl) rfl)
def dins3_o0 : Oper := ⟨some 11, .fieldAddr 32 (.tmp 4) 1, 0, "ref.go:47", #[], none⟩
def dins3_o1 : Oper := ⟨some 12, .load 3 (.tmp 11), 3, "ref.go:47", #[⟨0, .data⟩], none⟩
def dins3_o2 : Oper := ⟨some 13, .binOp BinOp.lss 3 (.tmp 12) (Operand.const (Value.int IntKind.i64 1)) 3, 4, "ref.go:47", #[⟨1, .data⟩], none⟩
def dins3_o3 : Oper := ⟨some 10, .assign (.tmp 13), 4, "ref.go:47", #[⟨2, .data⟩], none⟩
def dins3_ops : Array Oper := #[dins3_o0, dins3_o1, dins3_o2, dins3_o3]
theorem dins3 {kb : Nat} {k : IdK} {g : Bool} (a : Act) (w : World) (Q : Exit → Act → World → Prop) (zz : a.tmps.size = 41)
    (t4 : a.tmps.getD 4 undef = .pointer (some ⟨kb, 0, none⟩))
    (hk : k.ok) (h0 : IdAt w kb k) (hg : decide (k.n < 1) = g)
    (h : ∀ (a' : Act) (w' : World), w' = w → a' = ((((a).put (some 11) (.pointer (some ⟨kb, 0 + 32, none⟩))).put (some 12) (.int .i64 k.n)).put (some 13) (.bool g)).put (some 10) (.bool g) → Q .normal a' w') :
    (Code.region 3 dins3_ops false).wp Try.prog Q a w := by
  refine z0 rfl ?_
  refine zv rfl (exec_fieldAt rfl (zi t4 rfl) (fg_32_1 _ _ _)) ?_
  refine zv rfl (exec_load rfl (zg zz rfl) (ld_n hk h0)) ?_
  refine zv (v := .bool g) rfl (ex_lss rfl (zg zz rfl) rfl hg) ?_
  refine zv rfl (exec_assign rfl (zg zz rfl)) ?_
  exact ze rfl (h _ _ (rfl) rfl)
def dins5_o0 : Oper := ⟨some 15, .move (.tmp 0), 26, "ref.go:49", #[], none⟩
def dins5_o1 : Oper := ⟨some 16, .load 32 (.tmp 4), 32, "ref.go:49", #[], none⟩
def dins5_o2 : Oper := ⟨some 17, .call { callee := Callee.value (Operand.func 38), args := #[.tmp 15, .tmp 16], argTypes := #[26, 32] }, 3, "ref.go:49", #[⟨0, .data⟩, ⟨1, .data⟩], none⟩
def dins5_o3 : Oper := ⟨some 18, .binOp BinOp.geq 3 (.tmp 17) (Operand.const (Value.int IntKind.i64 0)) 3, 4, "ref.go:49", #[⟨2, .data⟩], none⟩
def dins5_o4 : Oper := ⟨some 14, .assign (.tmp 18), 4, "ref.go:49", #[⟨3, .data⟩, ⟨2, .chain⟩], none⟩
def dins5_ops : Array Oper := #[dins5_o0, dins5_o1, dins5_o2, dins5_o3, dins5_o4]
theorem dins5 {d kb : Nat} {k : IdK} {r : Int} {g : Bool} (Fin : World → Prop) (a : Act) (w : World) (Q : Exit → Act → World → Prop) (zz : a.tmps.size = 41)
    (t0 : a.tmps.getD 0 undef = .pointer (some ⟨d, 0, none⟩))
    (t4 : a.tmps.getD 4 undef = .pointer (some ⟨kb, 0, none⟩))
    (hk : k.ok) (h0 : IdAt w kb k) (hg : decide (r ≥ 0) = g) (CF : Calls Try.prog 38 #[.pointer (some ⟨d, 0, none⟩), k.v] w fun e w' => e = .returned (.int .i64 r) ∧ Fin w')
    (h : ∀ (a' : Act) (w' : World), Fin w' → a' = (((((a).put (some 15) (.pointer (some ⟨d, 0, none⟩))).put (some 16) (k.v)).put (some 17) (.int .i64 r)).put (some 18) (.bool g)).put (some 14) (.bool g) → Q .normal a' w') :
    (Code.region 5 dins5_ops false).wp Try.prog Q a w := by
  refine z0 rfl ?_
  refine zv rfl (exec_move rfl (zi t0 rfl)) ?_
  refine zv rfl (exec_load rfl (zi t4 rfl) (load_id hk h0)) ?_
  refine zc rfl (exec_c2 rfl (zg zz rfl) (zg zz rfl)) (CF) (fun e x2 hx => ?_)
  obtain ⟨rfl, HF⟩ := hx
  refine ⟨_, rfl, ?_⟩
  refine zv (v := .bool g) rfl (ex_geq rfl (zg zz rfl) rfl hg) ?_
  refine zv rfl (exec_assign rfl (zg zz rfl)) ?_
  exact ze rfl (h _ _ (HF) rfl)
def dins7_o0 : Oper := ⟨some 20, .load 32 (.tmp 5), 32, "ref.go:51", #[], none⟩
def dins7_o1 : Oper := ⟨some 21, .build 32 #[], 32, "ref.go:51", #[], none⟩
def dins7_o2 : Oper := ⟨some 22, .binOp BinOp.neq 32 (.tmp 20) (.tmp 21) 32, 4, "ref.go:51", #[⟨0, .data⟩, ⟨1, .data⟩], none⟩
def dins7_o3 : Oper := ⟨some 23, .move (.tmp 22), 4, "ref.go:51", #[⟨2, .data⟩], none⟩
def dins7_o4 : Oper := ⟨some 24, .move (.tmp 0), 26, "ref.go:51", #[⟨3, .guard⟩], some (3, true)⟩
def dins7_o5 : Oper := ⟨some 25, .load 32 (.tmp 5), 32, "ref.go:51", #[⟨3, .guard⟩], some (3, true)⟩
def dins7_o6 : Oper := ⟨some 26, .call { callee := Callee.value (Operand.func 38), args := #[.tmp 24, .tmp 25], argTypes := #[26, 32] }, 3, "ref.go:51", #[⟨4, .data⟩, ⟨5, .data⟩, ⟨3, .chain⟩, ⟨3, .guard⟩], some (3, true)⟩
def dins7_o7 : Oper := ⟨some 27, .binOp BinOp.lss 3 (.tmp 26) (Operand.const (Value.int IntKind.i64 0)) 3, 4, "ref.go:51", #[⟨6, .data⟩, ⟨3, .guard⟩], some (3, true)⟩
def dins7_o8 : Oper := ⟨some 28, .pick (.tmp 23) (.tmp 27) (Operand.const (Value.bool false)), 4, "ref.go:51", #[⟨3, .data⟩, ⟨7, .data⟩], none⟩
def dins7_o9 : Oper := ⟨some 19, .assign (.tmp 28), 4, "ref.go:51", #[⟨8, .data⟩, ⟨6, .chain⟩], none⟩
def dins7_ops : Array Oper := #[dins7_o0, dins7_o1, dins7_o2, dins7_o3, dins7_o4, dins7_o5, dins7_o6, dins7_o7, dins7_o8, dins7_o9]
theorem dins7a {d bb : Nat} {b : IdK} (a : Act) (w : World) (Q : Exit → Act → World → Prop) (zz : a.tmps.size = 41)
    (t0 : a.tmps.getD 0 undef = .pointer (some ⟨d, 0, none⟩))
    (t5 : a.tmps.getD 5 undef = .pointer (some ⟨bb, 0, none⟩))
    (hb : b.ok) (hz : b = zId) (h0 : IdAt w bb b)
    (h : ∀ (a' : Act) (w' : World), w' = w → a' = ((((((((((a).put (some 20) (b.v)).put (some 21) (zId.v)).put (some 22) (.bool false)).put (some 23) (.bool false)).put (some 24) (undef)).put (some 25) (undef)).put (some 26) (undef)).put (some 27) (undef)).put (some 28) (.bool false)).put (some 19) (.bool false) → Q .normal a' w') :
    (Code.region 7 dins7_ops false).wp Try.prog Q a w := by
  refine z0 rfl ?_
  refine zv rfl (exec_load rfl (zi t5 rfl) (load_id hb h0)) ?_
  refine zv rfl (exec_build0 rfl (build_id _)) ?_
  refine zv (v := .bool false) rfl (ex_neqI rfl (zg zz rfl) (zg zz rfl) hb zId_ok (by simp [hz])) ?_
  refine zv rfl (exec_move rfl (zg zz rfl)) ?_
  refine zn (zx zz rfl rfl rfl (zg zz rfl)) ?_
  refine zn (zx zz rfl rfl rfl (zg zz rfl)) ?_
  refine zn (zx zz rfl rfl rfl (zg zz rfl)) ?_
  refine zn (zx zz rfl rfl rfl (zg zz rfl)) ?_
  refine zv rfl (exec_pickF rfl (zg zz rfl) rfl) ?_
  refine zv rfl (exec_assign rfl (zg zz rfl)) ?_
  exact ze rfl (h _ _ (rfl) rfl)
theorem dins7b {d bb : Nat} {b : IdK} {r : Int} {g : Bool} (Fin : World → Prop) (a : Act) (w : World) (Q : Exit → Act → World → Prop) (zz : a.tmps.size = 41)
    (t0 : a.tmps.getD 0 undef = .pointer (some ⟨d, 0, none⟩))
    (t5 : a.tmps.getD 5 undef = .pointer (some ⟨bb, 0, none⟩))
    (hb : b.ok) (hz : b ≠ zId) (h0 : IdAt w bb b) (hg : decide (r < 0) = g) (CF : Calls Try.prog 38 #[.pointer (some ⟨d, 0, none⟩), b.v] w fun e w' => e = .returned (.int .i64 r) ∧ Fin w')
    (h : ∀ (a' : Act) (w' : World), Fin w' → a' = ((((((((((a).put (some 20) (b.v)).put (some 21) (zId.v)).put (some 22) (.bool true)).put (some 23) (.bool true)).put (some 24) (.pointer (some ⟨d, 0, none⟩))).put (some 25) (b.v)).put (some 26) (.int .i64 r)).put (some 27) (.bool g)).put (some 28) (.bool g)).put (some 19) (.bool g) → Q .normal a' w') :
    (Code.region 7 dins7_ops false).wp Try.prog Q a w := by
  refine z0 rfl ?_
  refine zv rfl (exec_load rfl (zi t5 rfl) (load_id hb h0)) ?_
  refine zv rfl (exec_build0 rfl (build_id _)) ?_
  refine zv (v := .bool true) rfl (ex_neqI rfl (zg zz rfl) (zg zz rfl) hb zId_ok (by simp [hz])) ?_
  refine zv rfl (exec_move rfl (zg zz rfl)) ?_
  refine zv (zw zz rfl rfl rfl (zg zz rfl)) (exec_move rfl (zi t0 rfl)) ?_
  refine zv (zw zz rfl rfl rfl (zg zz rfl)) (exec_load rfl (zi t5 rfl) (load_id hb h0)) ?_
  refine zc (zw zz rfl rfl rfl (zg zz rfl)) (exec_c2 rfl (zg zz rfl) (zg zz rfl)) (CF) (fun e x6 hx => ?_)
  obtain ⟨rfl, HF⟩ := hx
  refine ⟨_, rfl, ?_⟩
  refine zv (v := .bool g) (zw zz rfl rfl rfl (zg zz rfl)) (ex_lss rfl (zg zz rfl) rfl hg) ?_
  refine zv rfl (exec_pickT rfl (zg zz rfl) (zg zz rfl)) ?_
  refine zv rfl (exec_assign rfl (zg zz rfl)) ?_
  exact ze rfl (h _ _ (HF) rfl)
def dins9_o0 : Oper := ⟨some 29, .move (.tmp 0), 26, "ref.go:54", #[], none⟩
def dins9_o1 : Oper := ⟨some 30, .move (.tmp 0), 26, "ref.go:54", #[], none⟩
def dins9_o2 : Oper := ⟨some 31, .nilCheck (.tmp 30), 0, "ref.go:54", #[⟨1, .data⟩], none⟩
def dins9_o3 : Oper := ⟨some 32, .fieldAddr 73 (.tmp 31) 0, 0, "ref.go:54", #[⟨2, .data⟩], none⟩
def dins9_o4 : Oper := ⟨some 33, .load 71 (.tmp 32), 71, "ref.go:54", #[⟨3, .data⟩], none⟩
def dins9_o5 : Oper := ⟨some 34, .load 32 (.tmp 4), 32, "ref.go:54", #[], none⟩
def dins9_o6 : Oper := ⟨some 35, .load 32 (.tmp 5), 32, "ref.go:54", #[], none⟩
def dins9_o7 : Oper := ⟨some 36, .build 78 #[(0, .tmp 34), (1, .tmp 35), (2, Operand.const (Value.bool true))], 78, "ref.go:54", #[⟨5, .data⟩, ⟨6, .data⟩], none⟩
def dins9_o8 : Oper := ⟨some 37, .buildSlice 71 1 #[(0, .tmp 36)], 71, "ref.go:54", #[⟨7, .data⟩], none⟩
def dins9_o9 : Oper := ⟨some 38, .call { callee := Callee.builtin Builtin.append, args := #[.tmp 33, .tmp 37], argTypes := #[71, 71] }, 71, "ref.go:54", #[⟨4, .data⟩, ⟨8, .data⟩], none⟩
def dins9_o10 : Oper := ⟨some 39, .nilCheck (.tmp 29), 0, "ref.go:54", #[⟨0, .data⟩, ⟨0, .phase⟩, ⟨1, .phase⟩, ⟨2, .phase⟩, ⟨3, .phase⟩, ⟨4, .phase⟩, ⟨5, .phase⟩, ⟨6, .phase⟩, ⟨7, .phase⟩, ⟨8, .phase⟩, ⟨9, .phase⟩], none⟩
def dins9_o11 : Oper := ⟨some 40, .fieldAddr 73 (.tmp 39) 0, 0, "ref.go:54", #[⟨10, .data⟩, ⟨0, .phase⟩, ⟨1, .phase⟩, ⟨2, .phase⟩, ⟨3, .phase⟩, ⟨4, .phase⟩, ⟨5, .phase⟩, ⟨6, .phase⟩, ⟨7, .phase⟩, ⟨8, .phase⟩, ⟨9, .phase⟩], none⟩
def dins9_o12 : Oper := ⟨none, .store 71 (.tmp 40) (.tmp 38), 0, "ref.go:54", #[⟨11, .data⟩, ⟨9, .data⟩, ⟨9, .chain⟩, ⟨0, .phase⟩, ⟨1, .phase⟩, ⟨2, .phase⟩, ⟨3, .phase⟩, ⟨4, .phase⟩, ⟨5, .phase⟩, ⟨6, .phase⟩, ⟨7, .phase⟩, ⟨8, .phase⟩, ⟨9, .phase⟩], none⟩
def dins9_ops : Array Oper := #[dins9_o0, dins9_o1, dins9_o2, dins9_o3, dins9_o4, dins9_o5, dins9_o6, dins9_o7, dins9_o8, dins9_o9, dins9_o10, dins9_o11, dins9_o12]
theorem dins9 {d kb bb n ec vn vc : Nat} {ea va : Option Addr} {k b : IdK} {sv : Value} {w1 w2 w3 : World} (a : Act) (w : World) (Q : Exit → Act → World → Prop) (zz : a.tmps.size = 41)
    (t0 : a.tmps.getD 0 undef = .pointer (some ⟨d, 0, none⟩))
    (t4 : a.tmps.getD 4 undef = .pointer (some ⟨kb, 0, none⟩))
    (t5 : a.tmps.getD 5 undef = .pointer (some ⟨bb, 0, none⟩))
    (hk : k.ok) (hb : b.ok) (S0 : w.drew.heap[d]? = some (.cells #[.slice ea n ec] 73 (0, 0)) ∧ IdAt w.drew kb k ∧ IdAt w.drew bb b) (S1 : w1.heap[d]? = some (.cells #[.slice ea n ec] 73 (0, 0)) ∧ IdAt w1 kb k ∧ IdAt w1 bb b) (S2 : w2.heap[d]? = some (.cells #[.slice ea n ec] 73 (0, 0)) ∧ IdAt w2 kb k ∧ IdAt w2 bb b) (E1 : (Instr.buildSlice 71 1 #[(0, .agg (Elt.c ⟨k, b, true⟩).toArray)]).run Try.prog w.drew = .ok sv w1) (E2 : (Builtin.append_ #[71, 71] 71 #[.slice ea n ec, sv]).run Try.prog w1 = .ok (.slice va vn vc) w2) (E3 : (Instr.storeAt 71 (.pointer (some ⟨d, 0 + 0, none⟩)) (.slice va vn vc)).run Try.prog w2 = .ok () w3)
    (h : ∀ (a' : Act) (w' : World), w' = w3 → a' = ((((((((((((a).put (some 29) (.pointer (some ⟨d, 0, none⟩))).put (some 30) (.pointer (some ⟨d, 0, none⟩))).put (some 31) (.pointer (some ⟨d, 0, none⟩))).put (some 32) (.pointer (some ⟨d, 0 + 0, none⟩))).put (some 33) (.slice ea n ec)).put (some 34) (k.v)).put (some 35) (b.v)).put (some 36) (.agg (Elt.c ⟨k, b, true⟩).toArray)).put (some 37) (sv)).put (some 38) (.slice va vn vc)).put (some 39) (.pointer (some ⟨d, 0, none⟩))).put (some 40) (.pointer (some ⟨d, 0 + 0, none⟩)) → Q .normal a' w') :
    (Code.region 9 dins9_ops true).wp Try.prog Q a w := by
  refine x0 12 (fun w' => w'.heap[d]? = some (.cells #[.slice ea n ec] 73 (0, 0)) ∧ IdAt w' kb k ∧ IdAt w' bb b) (S0) (fun hHeld => ?_)
  refine xv 0 rfl rfl (fun w1 hw => exec_move rfl (zi t0 rfl)) hHeld ?_
  refine xv 1 rfl rfl (fun w1 hw => exec_move rfl (zi t0 rfl)) hHeld ?_
  refine xv 2 rfl rfl (fun w1 hw => exec_nilCheck rfl (zg zz rfl)) hHeld ?_
  refine xv 3 rfl rfl (fun w1 hw => exec_fieldAt rfl (zg zz rfl) (fg_73_0 _ _ _)) hHeld ?_
  refine xv 4 rfl rfl (fun w1 hw => exec_load rfl (zg zz rfl) (ld_all (hw.1) rfl)) hHeld ?_
  refine xv 5 rfl rfl (fun w1 hw => exec_load rfl (zi t4 rfl) (load_id hk hw.2.1)) hHeld ?_
  refine xv 6 rfl rfl (fun w1 hw => exec_load rfl (zi t5 rfl) (load_id hb hw.2.2)) hHeld ?_
  refine xv (v := .agg (Elt.c ⟨k, b, true⟩).toArray) 7 rfl rfl (fun w1 hw => ex_elt rfl (zg zz rfl) (zg zz rfl) rfl hk hb) hHeld ?_
  refine xr (v := sv) 8 rfl rfl (exec_buildSlice rfl (zg zz rfl) E1) (fun _ => S1) (fun hHeld => ?_)
  replace hHeld := hHeld (by decide)
  refine xr (v := .slice va vn vc) 9 rfl rfl (exec_append rfl (zg zz rfl) (zg zz rfl) E2) (fun _ => S2) (fun hHeld => ?_)
  replace hHeld := hHeld (by decide)
  refine xv 10 rfl rfl (fun w1 hw => exec_nilCheck rfl (zg zz rfl)) hHeld ?_
  refine xv 11 rfl rfl (fun w1 hw => exec_fieldAt rfl (zg zz rfl) (fg_73_0 _ _ _)) hHeld ?_
  refine xs 12 rfl rfl (exec_store rfl (zg zz rfl) (zg zz rfl) E3) (fun hne => absurd rfl hne) (fun _ => ?_)
  exact xe rfl (h _ _ (rfl) rfl)
def dtak3_o0 : Oper := ⟨some 9, .move (.tmp 0), 26, "ref.go:63", #[], none⟩
def dtak3_o1 : Oper := ⟨some 10, .load 32 (.tmp 3), 32, "ref.go:63", #[], none⟩
def dtak3_o2 : Oper := ⟨some 11, .call { callee := Callee.value (Operand.func 38), args := #[.tmp 9, .tmp 10], argTypes := #[26, 32] }, 3, "ref.go:63", #[⟨0, .data⟩, ⟨1, .data⟩], none⟩
def dtak3_o3 : Oper := ⟨some 12, .binOp BinOp.lss 3 (.tmp 11) (Operand.const (Value.int IntKind.i64 0)) 3, 4, "ref.go:63", #[⟨2, .data⟩], none⟩
def dtak3_ops : Array Oper := #[dtak3_o0, dtak3_o1, dtak3_o2, dtak3_o3]
theorem dtak3 {d kb : Nat} {k : IdK} {r : Int} {g : Bool} (Fin : World → Prop) (a : Act) (w : World) (Q : Exit → Act → World → Prop) (zz : a.tmps.size = 56)
    (t0 : a.tmps.getD 0 undef = .pointer (some ⟨d, 0, none⟩))
    (t3 : a.tmps.getD 3 undef = .pointer (some ⟨kb, 0, none⟩))
    (hk : k.ok) (h0 : IdAt w kb k) (hg : decide (r < 0) = g) (CF : Calls Try.prog 38 #[.pointer (some ⟨d, 0, none⟩), k.v] w fun e w' => e = .returned (.int .i64 r) ∧ Fin w')
    (h : ∀ (a' : Act) (w' : World), Fin w' → a' = ((((a).put (some 9) (.pointer (some ⟨d, 0, none⟩))).put (some 10) (k.v)).put (some 11) (.int .i64 r)).put (some 12) (.bool g) → Q .normal a' w') :
    (Code.region 3 dtak3_ops false).wp Try.prog Q a w := by
  refine z0 rfl ?_
  refine zv rfl (exec_move rfl (zi t0 rfl)) ?_
  refine zv rfl (exec_load rfl (zi t3 rfl) (load_id hk h0)) ?_
  refine zc rfl (exec_c2 rfl (zg zz rfl) (zg zz rfl)) (CF) (fun e x2 hx => ?_)
  obtain ⟨rfl, HF⟩ := hx
  refine ⟨_, rfl, ?_⟩
  refine zv (v := .bool g) rfl (ex_lss rfl (zg zz rfl) rfl hg) ?_
  exact ze rfl (h _ _ (HF) rfl)
def dtak7_o0 : Oper := ⟨some 13, .move (.tmp 6), 3, "ref.go:67", #[], none⟩
def dtak7_o1 : Oper := ⟨some 14, .move (.tmp 0), 26, "ref.go:67", #[], none⟩
def dtak7_o2 : Oper := ⟨some 15, .nilCheck (.tmp 14), 0, "ref.go:67", #[⟨1, .data⟩], none⟩
def dtak7_o3 : Oper := ⟨some 16, .fieldAddr 73 (.tmp 15) 0, 0, "ref.go:67", #[⟨2, .data⟩], none⟩
def dtak7_o4 : Oper := ⟨some 17, .load 71 (.tmp 16), 71, "ref.go:67", #[⟨3, .data⟩], none⟩
def dtak7_o5 : Oper := ⟨some 18, .call { callee := Callee.builtin Builtin.len, args := #[.tmp 17], argTypes := #[71] }, 3, "ref.go:67", #[⟨4, .data⟩], none⟩
def dtak7_o6 : Oper := ⟨some 19, .binOp BinOp.lss 3 (.tmp 13) (.tmp 18) 3, 4, "ref.go:67", #[⟨0, .data⟩, ⟨5, .data⟩], none⟩
def dtak7_ops : Array Oper := #[dtak7_o0, dtak7_o1, dtak7_o2, dtak7_o3, dtak7_o4, dtak7_o5, dtak7_o6]
theorem dtak7 {d i n ec : Nat} {ea : Option Addr} {g : Bool} (a : Act) (w : World) (Q : Exit → Act → World → Prop) (zz : a.tmps.size = 56)
    (t0 : a.tmps.getD 0 undef = .pointer (some ⟨d, 0, none⟩))
    (t6 : a.tmps.getD 6 undef = .int .i64 (i : Int))
    (h0 : w.heap[d]? = some (.cells #[.slice ea n ec] 73 (0, 0))) (hg : decide ((i : Int) < (n : Int)) = g)
    (h : ∀ (a' : Act) (w' : World), w' = w → a' = (((((((a).put (some 13) (.int .i64 (i : Int))).put (some 14) (.pointer (some ⟨d, 0, none⟩))).put (some 15) (.pointer (some ⟨d, 0, none⟩))).put (some 16) (.pointer (some ⟨d, 0 + 0, none⟩))).put (some 17) (.slice ea n ec)).put (some 18) (.int .i64 (n : Int))).put (some 19) (.bool g) → Q .normal a' w') :
    (Code.region 7 dtak7_ops false).wp Try.prog Q a w := by
  refine z0 rfl ?_
  refine zv rfl (exec_move rfl (zi t6 rfl)) ?_
  refine zv rfl (exec_move rfl (zi t0 rfl)) ?_
  refine zv rfl (exec_nilCheck rfl (zg zz rfl)) ?_
  refine zv rfl (exec_fieldAt rfl (zg zz rfl) (fg_73_0 _ _ _)) ?_
  refine zv rfl (exec_load rfl (zg zz rfl) (ld_all h0 rfl)) ?_
  refine zv rfl (exec_len rfl (zg zz rfl) (len_els _ _ _ _ _)) ?_
  refine zv (v := .bool g) rfl (ex_lss rfl (zg zz rfl) (zg zz rfl) hg) ?_
  exact ze rfl (h _ _ (rfl) rfl)
def dtak9_o0 : Oper := ⟨some 22, .move (.tmp 0), 26, "ref.go:68", #[], none⟩
def dtak9_o1 : Oper := ⟨some 23, .nilCheck (.tmp 22), 0, "ref.go:68", #[⟨0, .data⟩], none⟩
def dtak9_o2 : Oper := ⟨some 24, .fieldAddr 73 (.tmp 23) 0, 0, "ref.go:68", #[⟨1, .data⟩], none⟩
def dtak9_o3 : Oper := ⟨some 25, .load 71 (.tmp 24), 71, "ref.go:68", #[⟨2, .data⟩], none⟩
def dtak9_o4 : Oper := ⟨some 26, .move (.tmp 6), 3, "ref.go:68", #[], none⟩
def dtak9_o5 : Oper := ⟨some 27, .indexAddr 71 (.tmp 25) (.tmp 26), 0, "ref.go:68", #[⟨3, .data⟩, ⟨4, .data⟩], none⟩
def dtak9_o6 : Oper := ⟨some 28, .fieldAddr 78 (.tmp 27) 1, 0, "ref.go:68", #[⟨5, .data⟩], none⟩
def dtak9_o7 : Oper := ⟨some 29, .load 32 (.tmp 28), 32, "ref.go:68", #[⟨6, .data⟩], none⟩
def dtak9_o8 : Oper := ⟨some 30, .load 32 (.tmp 3), 32, "ref.go:68", #[], none⟩
def dtak9_o9 : Oper := ⟨some 31, .binOp BinOp.eql 32 (.tmp 29) (.tmp 30) 32, 4, "ref.go:68", #[⟨7, .data⟩, ⟨8, .data⟩], none⟩
def dtak9_ops : Array Oper := #[dtak9_o0, dtak9_o1, dtak9_o2, dtak9_o3, dtak9_o4, dtak9_o5, dtak9_o6, dtak9_o7, dtak9_o8, dtak9_o9]
theorem dtak9 {d eb eo n ec i : Nat} {x : Elt} {kb : Nat} {k : IdK} {g : Bool} (a : Act) (w : World) (Q : Exit → Act → World → Prop) (zz : a.tmps.size = 56)
    (t0 : a.tmps.getD 0 undef = .pointer (some ⟨d, 0, none⟩))
    (t3 : a.tmps.getD 3 undef = .pointer (some ⟨kb, 0, none⟩))
    (t6 : a.tmps.getD 6 undef = .int .i64 (i : Int))
    (hx : x.wf) (hi : i < n) (hn : n ≤ 1400000000001) (hk : k.ok) (he : decide (x.bh = k) = g) (h0 : w.drew.heap[d]? = some (.cells #[.slice (some ⟨eb, eo, none⟩) n ec] 73 (0, 0))) (h1 : w.drew.rangeAt eb (eo + 67 * i) x.c) (h2 : IdAt w.drew kb k)
    (h : ∀ (a' : Act) (w' : World), w' = w.drew → a' = ((((((((((a).put (some 22) (.pointer (some ⟨d, 0, none⟩))).put (some 23) (.pointer (some ⟨d, 0, none⟩))).put (some 24) (.pointer (some ⟨d, 0 + 0, none⟩))).put (some 25) (.slice (some ⟨eb, eo, none⟩) n ec)).put (some 26) (.int .i64 (i : Int))).put (some 27) (.pointer (some ⟨eb, eo + 67 * i, none⟩))).put (some 28) (.pointer (some ⟨eb, eo + 67 * i + 33, none⟩))).put (some 29) (x.bh.v)).put (some 30) (k.v)).put (some 31) (.bool g) → Q .normal a' w') :
    (Code.region 9 dtak9_ops true).wp Try.prog Q a w := by
  refine y0 (fun w' => w' = w.drew) (rfl) (fun hHeld => ?_)
  refine yv 0 rfl rfl (fun w1 hw => exec_move rfl (zi t0 rfl)) hHeld ?_
  refine yv 1 rfl rfl (fun w1 hw => exec_nilCheck rfl (zg zz rfl)) hHeld ?_
  refine yv 2 rfl rfl (fun w1 hw => exec_fieldAt rfl (zg zz rfl) (fg_73_0 _ _ _)) hHeld ?_
  refine yv 3 rfl rfl (fun w1 hw => exec_load rfl (zg zz rfl) (ld_all (by rw [hw]; exact h0) rfl)) hHeld ?_
  refine yv 4 rfl rfl (fun w1 hw => exec_move rfl (zi t6 rfl)) hHeld ?_
  refine yv 5 rfl rfl (fun w1 hw => exec_indexAt rfl (zg zz rfl) (zg zz rfl) (ix_el hi hn _)) hHeld ?_
  refine yv 6 rfl rfl (fun w1 hw => exec_fieldAt rfl (zg zz rfl) (fg_78_1 _ _ _)) hHeld ?_
  refine yv 7 rfl rfl (fun w1 hw => exec_load rfl (zg zz rfl) (el_bh hx (by rw [hw]; exact h1))) hHeld ?_
  refine yv 8 rfl rfl (fun w1 hw => exec_load rfl (zi t3 rfl) (load_id hk (by rw [hw]; exact h2))) hHeld ?_
  refine yv (v := .bool g) 9 rfl rfl (fun w1 hw => ex_eqlI rfl (zg zz rfl) (zg zz rfl) hx.2 hk he) hHeld ?_
  exact ye rfl (h _ _ (hHeld) rfl)
def dtak11_o0 : Oper := ⟨some 32, .move (.tmp 0), 26, "ref.go:71", #[], none⟩
def dtak11_o1 : Oper := ⟨some 33, .nilCheck (.tmp 32), 0, "ref.go:71", #[⟨0, .data⟩], none⟩
def dtak11_o2 : Oper := ⟨some 34, .fieldAddr 73 (.tmp 33) 0, 0, "ref.go:71", #[⟨1, .data⟩], none⟩
def dtak11_o3 : Oper := ⟨some 35, .load 71 (.tmp 34), 71, "ref.go:71", #[⟨2, .data⟩], none⟩
def dtak11_o4 : Oper := ⟨some 36, .move (.tmp 6), 3, "ref.go:71", #[], none⟩
def dtak11_o5 : Oper := ⟨some 37, .indexAddr 71 (.tmp 35) (.tmp 36), 0, "ref.go:71", #[⟨3, .data⟩, ⟨4, .data⟩], none⟩
def dtak11_o6 : Oper := ⟨some 38, .fieldAddr 78 (.tmp 37) 0, 0, "ref.go:71", #[⟨5, .data⟩], none⟩
def dtak11_o7 : Oper := ⟨some 39, .load 32 (.tmp 38), 32, "ref.go:71", #[⟨6, .data⟩], none⟩
def dtak11_o8 : Oper := ⟨some 40, .load 32 (.tmp 3), 32, "ref.go:71", #[], none⟩
def dtak11_o9 : Oper := ⟨some 41, .binOp BinOp.neq 32 (.tmp 39) (.tmp 40) 32, 4, "ref.go:71", #[⟨7, .data⟩, ⟨8, .data⟩], none⟩
def dtak11_ops : Array Oper := #[dtak11_o0, dtak11_o1, dtak11_o2, dtak11_o3, dtak11_o4, dtak11_o5, dtak11_o6, dtak11_o7, dtak11_o8, dtak11_o9]
theorem dtak11 {d eb eo n ec i : Nat} {x : Elt} {kb : Nat} {k : IdK} {g : Bool} (a : Act) (w : World) (Q : Exit → Act → World → Prop) (zz : a.tmps.size = 56)
    (t0 : a.tmps.getD 0 undef = .pointer (some ⟨d, 0, none⟩))
    (t3 : a.tmps.getD 3 undef = .pointer (some ⟨kb, 0, none⟩))
    (t6 : a.tmps.getD 6 undef = .int .i64 (i : Int))
    (hx : x.wf) (hi : i < n) (hn : n ≤ 1400000000001) (hk : k.ok) (he : (!decide (x.id = k)) = g) (h0 : w.drew.heap[d]? = some (.cells #[.slice (some ⟨eb, eo, none⟩) n ec] 73 (0, 0))) (h1 : w.drew.rangeAt eb (eo + 67 * i) x.c) (h2 : IdAt w.drew kb k)
    (h : ∀ (a' : Act) (w' : World), w' = w.drew → a' = ((((((((((a).put (some 32) (.pointer (some ⟨d, 0, none⟩))).put (some 33) (.pointer (some ⟨d, 0, none⟩))).put (some 34) (.pointer (some ⟨d, 0 + 0, none⟩))).put (some 35) (.slice (some ⟨eb, eo, none⟩) n ec)).put (some 36) (.int .i64 (i : Int))).put (some 37) (.pointer (some ⟨eb, eo + 67 * i, none⟩))).put (some 38) (.pointer (some ⟨eb, eo + 67 * i + 0, none⟩))).put (some 39) (x.id.v)).put (some 40) (k.v)).put (some 41) (.bool g) → Q .normal a' w') :
    (Code.region 11 dtak11_ops true).wp Try.prog Q a w := by
  refine y0 (fun w' => w' = w.drew) (rfl) (fun hHeld => ?_)
  refine yv 0 rfl rfl (fun w1 hw => exec_move rfl (zi t0 rfl)) hHeld ?_
  refine yv 1 rfl rfl (fun w1 hw => exec_nilCheck rfl (zg zz rfl)) hHeld ?_
  refine yv 2 rfl rfl (fun w1 hw => exec_fieldAt rfl (zg zz rfl) (fg_73_0 _ _ _)) hHeld ?_
  refine yv 3 rfl rfl (fun w1 hw => exec_load rfl (zg zz rfl) (ld_all (by rw [hw]; exact h0) rfl)) hHeld ?_
  refine yv 4 rfl rfl (fun w1 hw => exec_move rfl (zi t6 rfl)) hHeld ?_
  refine yv 5 rfl rfl (fun w1 hw => exec_indexAt rfl (zg zz rfl) (zg zz rfl) (ix_el hi hn _)) hHeld ?_
  refine yv 6 rfl rfl (fun w1 hw => exec_fieldAt rfl (zg zz rfl) (fg_78_0 _ _ _)) hHeld ?_
  refine yv 7 rfl rfl (fun w1 hw => exec_load rfl (zg zz rfl) (el_id hx (by rw [hw]; exact h1))) hHeld ?_
  refine yv 8 rfl rfl (fun w1 hw => exec_load rfl (zi t3 rfl) (load_id hk (by rw [hw]; exact h2))) hHeld ?_
  refine yv (v := .bool g) 9 rfl rfl (fun w1 hw => ex_neqI rfl (zg zz rfl) (zg zz rfl) hx.1 hk he) hHeld ?_
  exact ye rfl (h _ _ (hHeld) rfl)
def dtak12_o0 : Oper := ⟨some 42, .move (.tmp 5), 71, "ref.go:72", #[], none⟩
def dtak12_o1 : Oper := ⟨some 43, .move (.tmp 0), 26, "ref.go:72", #[], none⟩
def dtak12_o2 : Oper := ⟨some 44, .nilCheck (.tmp 43), 0, "ref.go:72", #[⟨1, .data⟩], none⟩
def dtak12_o3 : Oper := ⟨some 45, .fieldAddr 73 (.tmp 44) 0, 0, "ref.go:72", #[⟨2, .data⟩], none⟩
def dtak12_o4 : Oper := ⟨some 46, .load 71 (.tmp 45), 71, "ref.go:72", #[⟨3, .data⟩], none⟩
def dtak12_o5 : Oper := ⟨some 47, .move (.tmp 6), 3, "ref.go:72", #[], none⟩
def dtak12_o6 : Oper := ⟨some 48, .indexAddr 71 (.tmp 46) (.tmp 47), 0, "ref.go:72", #[⟨4, .data⟩, ⟨5, .data⟩], none⟩
def dtak12_o7 : Oper := ⟨some 49, .load 78 (.tmp 48), 78, "ref.go:72", #[⟨6, .data⟩], none⟩
def dtak12_o8 : Oper := ⟨some 50, .buildSlice 71 1 #[(0, .tmp 49)], 71, "ref.go:72", #[⟨7, .data⟩], none⟩
def dtak12_o9 : Oper := ⟨some 51, .call { callee := Callee.builtin Builtin.append, args := #[.tmp 42, .tmp 50], argTypes := #[71, 71] }, 71, "ref.go:72", #[⟨0, .data⟩, ⟨8, .data⟩], none⟩
def dtak12_o10 : Oper := ⟨some 5, .assign (.tmp 51), 71, "ref.go:72", #[⟨9, .data⟩, ⟨9, .chain⟩, ⟨0, .phase⟩, ⟨1, .phase⟩, ⟨2, .phase⟩, ⟨3, .phase⟩, ⟨4, .phase⟩, ⟨5, .phase⟩, ⟨6, .phase⟩, ⟨7, .phase⟩, ⟨8, .phase⟩, ⟨9, .phase⟩], none⟩
def dtak12_ops : Array Oper := #[dtak12_o0, dtak12_o1, dtak12_o2, dtak12_o3, dtak12_o4, dtak12_o5, dtak12_o6, dtak12_o7, dtak12_o8, dtak12_o9, dtak12_o10]
theorem dtak12 {d eb eo n ec i : Nat} {x : Elt} {lv sv v2 : Value} {w1 w2 : World} (a : Act) (w : World) (Q : Exit → Act → World → Prop) (zz : a.tmps.size = 56)
    (t0 : a.tmps.getD 0 undef = .pointer (some ⟨d, 0, none⟩))
    (t5 : a.tmps.getD 5 undef = lv)
    (t6 : a.tmps.getD 6 undef = .int .i64 (i : Int))
    (hx : x.wf) (hi : i < n) (hn : n ≤ 1400000000001) (h0 : w.heap[d]? = some (.cells #[.slice (some ⟨eb, eo, none⟩) n ec] 73 (0, 0))) (h1 : w.rangeAt eb (eo + 67 * i) x.c) (E1 : (Instr.buildSlice 71 1 #[(0, .agg x.c.toArray)]).run Try.prog w = .ok sv w1) (E2 : (Builtin.append_ #[71, 71] 71 #[lv, sv]).run Try.prog w1 = .ok v2 w2)
    (h : ∀ (a' : Act) (w' : World), w' = w2 → a' = (((((((((((a).put (some 42) (lv)).put (some 43) (.pointer (some ⟨d, 0, none⟩))).put (some 44) (.pointer (some ⟨d, 0, none⟩))).put (some 45) (.pointer (some ⟨d, 0 + 0, none⟩))).put (some 46) (.slice (some ⟨eb, eo, none⟩) n ec)).put (some 47) (.int .i64 (i : Int))).put (some 48) (.pointer (some ⟨eb, eo + 67 * i, none⟩))).put (some 49) (.agg x.c.toArray)).put (some 50) (sv)).put (some 51) (v2)).put (some 5) (v2) → Q .normal a' w') :
    (Code.region 12 dtak12_ops false).wp Try.prog Q a w := by
  refine z0 rfl ?_
  refine zv rfl (exec_move rfl (zi t5 rfl)) ?_
  refine zv rfl (exec_move rfl (zi t0 rfl)) ?_
  refine zv rfl (exec_nilCheck rfl (zg zz rfl)) ?_
  refine zv rfl (exec_fieldAt rfl (zg zz rfl) (fg_73_0 _ _ _)) ?_
  refine zv rfl (exec_load rfl (zg zz rfl) (ld_all h0 rfl)) ?_
  refine zv rfl (exec_move rfl (zi t6 rfl)) ?_
  refine zv rfl (exec_indexAt rfl (zg zz rfl) (zg zz rfl) (ix_el hi hn _)) ?_
  refine zv rfl (exec_load rfl (zg zz rfl) (ld_el hx h1)) ?_
  refine zv (v := sv) rfl (exec_buildSlice rfl (zg zz rfl) E1) ?_
  refine zv (v := v2) rfl (exec_append rfl (zg zz rfl) (zg zz rfl) E2) ?_
  refine zv rfl (exec_assign rfl (zg zz rfl)) ?_
  exact ze rfl (h _ _ (rfl) rfl)
def dtak13_o0 : Oper := ⟨some 52, .move (.tmp 0), 26, "ref.go:75", #[], none⟩
def dtak13_o1 : Oper := ⟨some 53, .move (.tmp 5), 71, "ref.go:75", #[], none⟩
def dtak13_o2 : Oper := ⟨some 54, .nilCheck (.tmp 52), 0, "ref.go:75", #[⟨0, .data⟩, ⟨0, .phase⟩, ⟨1, .phase⟩], none⟩
def dtak13_o3 : Oper := ⟨some 55, .fieldAddr 73 (.tmp 54) 0, 0, "ref.go:75", #[⟨2, .data⟩, ⟨0, .phase⟩, ⟨1, .phase⟩], none⟩
def dtak13_o4 : Oper := ⟨none, .store 71 (.tmp 55) (.tmp 53), 0, "ref.go:75", #[⟨3, .data⟩, ⟨1, .data⟩, ⟨0, .phase⟩, ⟨1, .phase⟩], none⟩
def dtak13_ops : Array Oper := #[dtak13_o0, dtak13_o1, dtak13_o2, dtak13_o3, dtak13_o4]
theorem dtak13 {d vn vc : Nat} {va : Option Addr} {w2 : World} (a : Act) (w : World) (Q : Exit → Act → World → Prop) (zz : a.tmps.size = 56)
    (t0 : a.tmps.getD 0 undef = .pointer (some ⟨d, 0, none⟩))
    (t5 : a.tmps.getD 5 undef = .slice va vn vc)
    (E1 : (Instr.storeAt 71 (.pointer (some ⟨d, 0 + 0, none⟩)) (.slice va vn vc)).run Try.prog w = .ok () w2)
    (h : ∀ (a' : Act) (w' : World), w' = w2 → a' = ((((a).put (some 52) (.pointer (some ⟨d, 0, none⟩))).put (some 53) (.slice va vn vc)).put (some 54) (.pointer (some ⟨d, 0, none⟩))).put (some 55) (.pointer (some ⟨d, 0 + 0, none⟩)) → Q .normal a' w') :
    (Code.region 13 dtak13_ops false).wp Try.prog Q a w := by
  refine z0 rfl ?_
  refine zv rfl (exec_move rfl (zi t0 rfl)) ?_
  refine zv rfl (exec_move rfl (zi t5 rfl)) ?_
  refine zv rfl (exec_nilCheck rfl (zg zz rfl)) ?_
  refine zv rfl (exec_fieldAt rfl (zg zz rfl) (fg_73_0 _ _ _)) ?_
  refine zs rfl (exec_store rfl (zg zz rfl) (zg zz rfl) E1) ?_
  exact ze rfl (h _ _ (rfl) rfl)
def dsho3_o0 : Oper := ⟨some 10, .move (.tmp 0), 26, "ref.go:84", #[], none⟩
def dsho3_o1 : Oper := ⟨some 11, .load 32 (.tmp 4), 32, "ref.go:84", #[], none⟩
def dsho3_o2 : Oper := ⟨some 12, .call { callee := Callee.value (Operand.func 38), args := #[.tmp 10, .tmp 11], argTypes := #[26, 32] }, 3, "ref.go:84", #[⟨0, .data⟩, ⟨1, .data⟩], none⟩
def dsho3_o3 : Oper := ⟨some 7, .assign (.tmp 12), 3, "ref.go:84", #[⟨2, .data⟩, ⟨2, .chain⟩, ⟨0, .phase⟩, ⟨1, .phase⟩, ⟨2, .phase⟩], none⟩
def dsho3_ops : Array Oper := #[dsho3_o0, dsho3_o1, dsho3_o2, dsho3_o3]
theorem dsho3 {d kb : Nat} {k : IdK} {r : Int} (Fin : World → Prop) (a : Act) (w : World) (Q : Exit → Act → World → Prop) (zz : a.tmps.size = 23)
    (t0 : a.tmps.getD 0 undef = .pointer (some ⟨d, 0, none⟩))
    (t4 : a.tmps.getD 4 undef = .pointer (some ⟨kb, 0, none⟩))
    (hk : k.ok) (h0 : IdAt w kb k) (CF : Calls Try.prog 38 #[.pointer (some ⟨d, 0, none⟩), k.v] w fun e w' => e = .returned (.int .i64 r) ∧ Fin w')
    (h : ∀ (a' : Act) (w' : World), Fin w' → a' = ((((a).put (some 10) (.pointer (some ⟨d, 0, none⟩))).put (some 11) (k.v)).put (some 12) (.int .i64 r)).put (some 7) (.int .i64 r) → Q .normal a' w') :
    (Code.region 3 dsho3_ops false).wp Try.prog Q a w := by
  refine z0 rfl ?_
  refine zv rfl (exec_move rfl (zi t0 rfl)) ?_
  refine zv rfl (exec_load rfl (zi t4 rfl) (load_id hk h0)) ?_
  refine zc rfl (exec_c2 rfl (zg zz rfl) (zg zz rfl)) (CF) (fun e x2 hx => ?_)
  obtain ⟨rfl, HF⟩ := hx
  refine ⟨_, rfl, ?_⟩
  refine zv rfl (exec_assign rfl (zg zz rfl)) ?_
  exact ze rfl (h _ _ (HF) rfl)
def dsho6_o0 : Oper := ⟨some 15, .move (.tmp 0), 26, "ref.go:88", #[], none⟩
def dsho6_o1 : Oper := ⟨some 16, .nilCheck (.tmp 15), 0, "ref.go:88", #[⟨0, .data⟩], none⟩
def dsho6_o2 : Oper := ⟨some 17, .fieldAddr 73 (.tmp 16) 0, 0, "ref.go:88", #[⟨1, .data⟩], none⟩
def dsho6_o3 : Oper := ⟨some 18, .load 71 (.tmp 17), 71, "ref.go:88", #[⟨2, .data⟩], none⟩
def dsho6_o4 : Oper := ⟨some 19, .move (.tmp 7), 3, "ref.go:88", #[], none⟩
def dsho6_o5 : Oper := ⟨some 20, .move (.tmp 2), 4, "ref.go:88", #[], none⟩
def dsho6_o6 : Oper := ⟨some 21, .indexAddr 71 (.tmp 18) (.tmp 19), 0, "ref.go:88", #[⟨3, .data⟩, ⟨4, .data⟩, ⟨0, .phase⟩, ⟨1, .phase⟩, ⟨2, .phase⟩, ⟨3, .phase⟩, ⟨4, .phase⟩, ⟨5, .phase⟩], none⟩
def dsho6_o7 : Oper := ⟨some 22, .fieldAddr 78 (.tmp 21) 2, 0, "ref.go:88", #[⟨6, .data⟩, ⟨0, .phase⟩, ⟨1, .phase⟩, ⟨2, .phase⟩, ⟨3, .phase⟩, ⟨4, .phase⟩, ⟨5, .phase⟩], none⟩
def dsho6_o8 : Oper := ⟨none, .store 4 (.tmp 22) (.tmp 20), 0, "ref.go:88", #[⟨7, .data⟩, ⟨5, .data⟩, ⟨0, .phase⟩, ⟨1, .phase⟩, ⟨2, .phase⟩, ⟨3, .phase⟩, ⟨4, .phase⟩, ⟨5, .phase⟩], none⟩
def dsho6_ops : Array Oper := #[dsho6_o0, dsho6_o1, dsho6_o2, dsho6_o3, dsho6_o4, dsho6_o5, dsho6_o6, dsho6_o7, dsho6_o8]
theorem dsho6 {d eb eo n ec i : Nat} {s : Bool} {w2 : World} (a : Act) (w : World) (Q : Exit → Act → World → Prop) (zz : a.tmps.size = 23)
    (t0 : a.tmps.getD 0 undef = .pointer (some ⟨d, 0, none⟩))
    (t7 : a.tmps.getD 7 undef = .int .i64 (i : Int))
    (t2 : a.tmps.getD 2 undef = .bool s)
    (hi : i < n) (hn : n ≤ 1400000000001) (h0 : w.heap[d]? = some (.cells #[.slice (some ⟨eb, eo, none⟩) n ec] 73 (0, 0))) (E1 : (Instr.storeAt 4 (.pointer (some ⟨eb, eo + 67 * i + 66, none⟩)) (.bool s)).run Try.prog w = .ok () w2)
    (h : ∀ (a' : Act) (w' : World), w' = w2 → a' = ((((((((a).put (some 15) (.pointer (some ⟨d, 0, none⟩))).put (some 16) (.pointer (some ⟨d, 0, none⟩))).put (some 17) (.pointer (some ⟨d, 0 + 0, none⟩))).put (some 18) (.slice (some ⟨eb, eo, none⟩) n ec)).put (some 19) (.int .i64 (i : Int))).put (some 20) (.bool s)).put (some 21) (.pointer (some ⟨eb, eo + 67 * i, none⟩))).put (some 22) (.pointer (some ⟨eb, eo + 67 * i + 66, none⟩)) → Q .normal a' w') :
    (Code.region 6 dsho6_ops false).wp Try.prog Q a w := by
  refine z0 rfl ?_
  refine zv rfl (exec_move rfl (zi t0 rfl)) ?_
  refine zv rfl (exec_nilCheck rfl (zg zz rfl)) ?_
  refine zv rfl (exec_fieldAt rfl (zg zz rfl) (fg_73_0 _ _ _)) ?_
  refine zv rfl (exec_load rfl (zg zz rfl) (ld_all h0 rfl)) ?_
  refine zv rfl (exec_move rfl (zi t7 rfl)) ?_
  refine zv rfl (exec_move rfl (zi t2 rfl)) ?_
  refine zv rfl (exec_indexAt rfl (zg zz rfl) (zg zz rfl) (ix_el hi hn _)) ?_
  refine zv rfl (exec_fieldAt rfl (zg zz rfl) (fg_78_2 _ _ _)) ?_
  refine zs rfl (exec_store rfl (zg zz rfl) (zg zz rfl) E1) ?_
  exact ze rfl (h _ _ (rfl) rfl)
def dids6_o0 : Oper := ⟨some 14, .move (.tmp 3), 47, "ref.go:125", #[], none⟩
def dids6_o1 : Oper := ⟨some 15, .move (.tmp 4), 71, "ref.go:125", #[], none⟩
def dids6_o2 : Oper := ⟨some 16, .move (.tmp 5), 3, "ref.go:125", #[], none⟩
def dids6_o3 : Oper := ⟨some 17, .indexAddr 71 (.tmp 15) (.tmp 16), 0, "ref.go:125", #[⟨1, .data⟩, ⟨2, .data⟩], none⟩
def dids6_o4 : Oper := ⟨some 18, .fieldAddr 78 (.tmp 17) 0, 0, "ref.go:125", #[⟨3, .data⟩], none⟩
def dids6_o5 : Oper := ⟨some 19, .load 32 (.tmp 18), 32, "ref.go:125", #[⟨4, .data⟩], none⟩
def dids6_o6 : Oper := ⟨some 20, .buildSlice 47 1 #[(0, .tmp 19)], 47, "ref.go:125", #[⟨5, .data⟩], none⟩
def dids6_o7 : Oper := ⟨some 21, .call { callee := Callee.builtin Builtin.append, args := #[.tmp 14, .tmp 20], argTypes := #[47, 47] }, 47, "ref.go:125", #[⟨0, .data⟩, ⟨6, .data⟩], none⟩
def dids6_o8 : Oper := ⟨some 3, .assign (.tmp 21), 47, "ref.go:125", #[⟨7, .data⟩, ⟨7, .chain⟩, ⟨0, .phase⟩, ⟨1, .phase⟩, ⟨2, .phase⟩, ⟨3, .phase⟩, ⟨4, .phase⟩, ⟨5, .phase⟩, ⟨6, .phase⟩, ⟨7, .phase⟩], none⟩
def dids6_ops : Array Oper := #[dids6_o0, dids6_o1, dids6_o2, dids6_o3, dids6_o4, dids6_o5, dids6_o6, dids6_o7, dids6_o8]
theorem dids6 {eb eo n ec i : Nat} {x : Elt} {lv sv v2 : Value} {w1 w2 : World} (a : Act) (w : World) (Q : Exit → Act → World → Prop) (zz : a.tmps.size = 23)
    (t3 : a.tmps.getD 3 undef = lv)
    (t4 : a.tmps.getD 4 undef = .slice (some ⟨eb, eo, none⟩) n ec)
    (t5 : a.tmps.getD 5 undef = .int .i64 (i : Int))
    (hx : x.wf) (hi : i < n) (hn : n ≤ 1400000000001) (h1 : w.rangeAt eb (eo + 67 * i) x.c) (E1 : (Instr.buildSlice 47 1 #[(0, x.id.v)]).run Try.prog w = .ok sv w1) (E2 : (Builtin.append_ #[47, 47] 47 #[lv, sv]).run Try.prog w1 = .ok v2 w2)
    (h : ∀ (a' : Act) (w' : World), w' = w2 → a' = (((((((((a).put (some 14) (lv)).put (some 15) (.slice (some ⟨eb, eo, none⟩) n ec)).put (some 16) (.int .i64 (i : Int))).put (some 17) (.pointer (some ⟨eb, eo + 67 * i, none⟩))).put (some 18) (.pointer (some ⟨eb, eo + 67 * i + 0, none⟩))).put (some 19) (x.id.v)).put (some 20) (sv)).put (some 21) (v2)).put (some 3) (v2) → Q .normal a' w') :
    (Code.region 6 dids6_ops false).wp Try.prog Q a w := by
  refine z0 rfl ?_
  refine zv rfl (exec_move rfl (zi t3 rfl)) ?_
  refine zv rfl (exec_move rfl (zi t4 rfl)) ?_
  refine zv rfl (exec_move rfl (zi t5 rfl)) ?_
  refine zv rfl (exec_indexAt rfl (zg zz rfl) (zg zz rfl) (ix_el hi hn _)) ?_
  refine zv rfl (exec_fieldAt rfl (zg zz rfl) (fg_78_0 _ _ _)) ?_
  refine zv rfl (exec_load rfl (zg zz rfl) (el_id hx h1)) ?_
  refine zv (v := sv) rfl (exec_buildSlice rfl (zg zz rfl) E1) ?_
  refine zv (v := v2) rfl (exec_append rfl (zg zz rfl) (zg zz rfl) E2) ?_
  refine zv rfl (exec_assign rfl (zg zz rfl)) ?_
  exact ze rfl (h _ _ (rfl) rfl)
def dliv7_o0 : Oper := ⟨some 19, .move (.tmp 3), 47, "ref.go:136", #[], none⟩
def dliv7_o1 : Oper := ⟨some 20, .move (.tmp 4), 71, "ref.go:136", #[], none⟩
def dliv7_o2 : Oper := ⟨some 21, .move (.tmp 5), 3, "ref.go:136", #[], none⟩
def dliv7_o3 : Oper := ⟨some 22, .indexAddr 71 (.tmp 20) (.tmp 21), 0, "ref.go:136", #[⟨1, .data⟩, ⟨2, .data⟩], none⟩
def dliv7_o4 : Oper := ⟨some 23, .fieldAddr 78 (.tmp 22) 0, 0, "ref.go:136", #[⟨3, .data⟩], none⟩
def dliv7_o5 : Oper := ⟨some 24, .load 32 (.tmp 23), 32, "ref.go:136", #[⟨4, .data⟩], none⟩
def dliv7_o6 : Oper := ⟨some 25, .buildSlice 47 1 #[(0, .tmp 24)], 47, "ref.go:136", #[⟨5, .data⟩], none⟩
def dliv7_o7 : Oper := ⟨some 26, .call { callee := Callee.builtin Builtin.append, args := #[.tmp 19, .tmp 25], argTypes := #[47, 47] }, 47, "ref.go:136", #[⟨0, .data⟩, ⟨6, .data⟩], none⟩
def dliv7_o8 : Oper := ⟨some 3, .assign (.tmp 26), 47, "ref.go:136", #[⟨7, .data⟩, ⟨7, .chain⟩, ⟨0, .phase⟩, ⟨1, .phase⟩, ⟨2, .phase⟩, ⟨3, .phase⟩, ⟨4, .phase⟩, ⟨5, .phase⟩, ⟨6, .phase⟩, ⟨7, .phase⟩], none⟩
def dliv7_ops : Array Oper := #[dliv7_o0, dliv7_o1, dliv7_o2, dliv7_o3, dliv7_o4, dliv7_o5, dliv7_o6, dliv7_o7, dliv7_o8]
theorem dliv7 {eb eo n ec i : Nat} {x : Elt} {lv sv v2 : Value} {w1 w2 : World} (a : Act) (w : World) (Q : Exit → Act → World → Prop) (zz : a.tmps.size = 28)
    (t3 : a.tmps.getD 3 undef = lv)
    (t4 : a.tmps.getD 4 undef = .slice (some ⟨eb, eo, none⟩) n ec)
    (t5 : a.tmps.getD 5 undef = .int .i64 (i : Int))
    (hx : x.wf) (hi : i < n) (hn : n ≤ 1400000000001) (h1 : w.rangeAt eb (eo + 67 * i) x.c) (E1 : (Instr.buildSlice 47 1 #[(0, x.id.v)]).run Try.prog w = .ok sv w1) (E2 : (Builtin.append_ #[47, 47] 47 #[lv, sv]).run Try.prog w1 = .ok v2 w2)
    (h : ∀ (a' : Act) (w' : World), w' = w2 → a' = (((((((((a).put (some 19) (lv)).put (some 20) (.slice (some ⟨eb, eo, none⟩) n ec)).put (some 21) (.int .i64 (i : Int))).put (some 22) (.pointer (some ⟨eb, eo + 67 * i, none⟩))).put (some 23) (.pointer (some ⟨eb, eo + 67 * i + 0, none⟩))).put (some 24) (x.id.v)).put (some 25) (sv)).put (some 26) (v2)).put (some 3) (v2) → Q .normal a' w') :
    (Code.region 7 dliv7_ops false).wp Try.prog Q a w := by
  refine z0 rfl ?_
  refine zv rfl (exec_move rfl (zi t3 rfl)) ?_
  refine zv rfl (exec_move rfl (zi t4 rfl)) ?_
  refine zv rfl (exec_move rfl (zi t5 rfl)) ?_
  refine zv rfl (exec_indexAt rfl (zg zz rfl) (zg zz rfl) (ix_el hi hn _)) ?_
  refine zv rfl (exec_fieldAt rfl (zg zz rfl) (fg_78_0 _ _ _)) ?_
  refine zv rfl (exec_load rfl (zg zz rfl) (el_id hx h1)) ?_
  refine zv (v := sv) rfl (exec_buildSlice rfl (zg zz rfl) E1) ?_
  refine zv (v := v2) rfl (exec_append rfl (zg zz rfl) (zg zz rfl) E2) ?_
  refine zv rfl (exec_assign rfl (zg zz rfl)) ?_
  exact ze rfl (h _ _ (rfl) rfl)
def dliv6_o0 : Oper := ⟨some 14, .move (.tmp 4), 71, "ref.go:135", #[], none⟩
def dliv6_o1 : Oper := ⟨some 15, .move (.tmp 5), 3, "ref.go:135", #[], none⟩
def dliv6_o2 : Oper := ⟨some 16, .indexAddr 71 (.tmp 14) (.tmp 15), 0, "ref.go:135", #[⟨0, .data⟩, ⟨1, .data⟩], none⟩
def dliv6_o3 : Oper := ⟨some 17, .fieldAddr 78 (.tmp 16) 2, 0, "ref.go:135", #[⟨2, .data⟩], none⟩
def dliv6_o4 : Oper := ⟨some 18, .load 4 (.tmp 17), 4, "ref.go:135", #[⟨3, .data⟩], none⟩
def dliv6_ops : Array Oper := #[dliv6_o0, dliv6_o1, dliv6_o2, dliv6_o3, dliv6_o4]
theorem dliv6 {eb eo n ec i : Nat} {x : Elt} (a : Act) (w : World) (Q : Exit → Act → World → Prop) (zz : a.tmps.size = 28)
    (t4 : a.tmps.getD 4 undef = .slice (some ⟨eb, eo, none⟩) n ec)
    (t5 : a.tmps.getD 5 undef = .int .i64 (i : Int))
    (hx : x.wf) (hi : i < n) (hn : n ≤ 1400000000001) (h1 : w.rangeAt eb (eo + 67 * i) x.c)
    (h : ∀ (a' : Act) (w' : World), w' = w → a' = (((((a).put (some 14) (.slice (some ⟨eb, eo, none⟩) n ec)).put (some 15) (.int .i64 (i : Int))).put (some 16) (.pointer (some ⟨eb, eo + 67 * i, none⟩))).put (some 17) (.pointer (some ⟨eb, eo + 67 * i + 66, none⟩))).put (some 18) (.bool x.sh) → Q .normal a' w') :
    (Code.region 6 dliv6_ops false).wp Try.prog Q a w := by
  refine z0 rfl ?_
  refine zv rfl (exec_move rfl (zi t4 rfl)) ?_
  refine zv rfl (exec_move rfl (zi t5 rfl)) ?_
  refine zv rfl (exec_indexAt rfl (zg zz rfl) (zg zz rfl) (ix_el hi hn _)) ?_
  refine zv rfl (exec_fieldAt rfl (zg zz rfl) (fg_78_2 _ _ _)) ?_
  refine zv rfl (exec_load rfl (zg zz rfl) (el_sh hx h1)) ?_
  exact ze rfl (h _ _ (rfl) rfl)
def drnk5_o0 : Oper := ⟨some 15, .move (.tmp 5), 71, "ref.go:158", #[], none⟩
def drnk5_o1 : Oper := ⟨some 16, .move (.tmp 6), 3, "ref.go:158", #[], none⟩
def drnk5_o2 : Oper := ⟨some 17, .indexAddr 71 (.tmp 15) (.tmp 16), 0, "ref.go:158", #[⟨0, .data⟩, ⟨1, .data⟩], none⟩
def drnk5_o3 : Oper := ⟨some 18, .fieldAddr 78 (.tmp 17) 0, 0, "ref.go:158", #[⟨2, .data⟩], none⟩
def drnk5_o4 : Oper := ⟨some 19, .load 32 (.tmp 18), 32, "ref.go:158", #[⟨3, .data⟩], none⟩
def drnk5_o5 : Oper := ⟨some 20, .load 32 (.tmp 3), 32, "ref.go:158", #[], none⟩
def drnk5_o6 : Oper := ⟨some 21, .binOp BinOp.eql 32 (.tmp 19) (.tmp 20) 32, 4, "ref.go:158", #[⟨4, .data⟩, ⟨5, .data⟩], none⟩
def drnk5_ops : Array Oper := #[drnk5_o0, drnk5_o1, drnk5_o2, drnk5_o3, drnk5_o4, drnk5_o5, drnk5_o6]
theorem drnk5 {eb eo n ec i : Nat} {x : Elt} {kb : Nat} {k : IdK} {g : Bool} (a : Act) (w : World) (Q : Exit → Act → World → Prop) (zz : a.tmps.size = 23)
    (t3 : a.tmps.getD 3 undef = .pointer (some ⟨kb, 0, none⟩))
    (t5 : a.tmps.getD 5 undef = .slice (some ⟨eb, eo, none⟩) n ec)
    (t6 : a.tmps.getD 6 undef = .int .i64 (i : Int))
    (hx : x.wf) (hi : i < n) (hn : n ≤ 1400000000001) (hk : k.ok) (he : decide (x.id = k) = g) (h1 : w.drew.rangeAt eb (eo + 67 * i) x.c) (h2 : IdAt w.drew kb k)
    (h : ∀ (a' : Act) (w' : World), w' = w.drew → a' = (((((((a).put (some 15) (.slice (some ⟨eb, eo, none⟩) n ec)).put (some 16) (.int .i64 (i : Int))).put (some 17) (.pointer (some ⟨eb, eo + 67 * i, none⟩))).put (some 18) (.pointer (some ⟨eb, eo + 67 * i + 0, none⟩))).put (some 19) (x.id.v)).put (some 20) (k.v)).put (some 21) (.bool g) → Q .normal a' w') :
    (Code.region 5 drnk5_ops true).wp Try.prog Q a w := by
  refine y0 (fun w' => w' = w.drew) (rfl) (fun hHeld => ?_)
  refine yv 0 rfl rfl (fun w1 hw => exec_move rfl (zi t5 rfl)) hHeld ?_
  refine yv 1 rfl rfl (fun w1 hw => exec_move rfl (zi t6 rfl)) hHeld ?_
  refine yv 2 rfl rfl (fun w1 hw => exec_indexAt rfl (zg zz rfl) (zg zz rfl) (ix_el hi hn _)) hHeld ?_
  refine yv 3 rfl rfl (fun w1 hw => exec_fieldAt rfl (zg zz rfl) (fg_78_0 _ _ _)) hHeld ?_
  refine yv 4 rfl rfl (fun w1 hw => exec_load rfl (zg zz rfl) (el_id hx (by rw [hw]; exact h1))) hHeld ?_
  refine yv 5 rfl rfl (fun w1 hw => exec_load rfl (zi t3 rfl) (load_id hk (by rw [hw]; exact h2))) hHeld ?_
  refine yv (v := .bool g) 6 rfl rfl (fun w1 hw => ex_eqlI rfl (zg zz rfl) (zg zz rfl) hx.1 hk he) hHeld ?_
  exact ye rfl (h _ _ (hHeld) rfl)
def didx6_o0 : Oper := ⟨some 16, .move (.tmp 5), 71, "ref.go:170", #[], none⟩
def didx6_o1 : Oper := ⟨some 17, .move (.tmp 7), 3, "ref.go:170", #[], none⟩
def didx6_o2 : Oper := ⟨some 18, .indexAddr 71 (.tmp 16) (.tmp 17), 0, "ref.go:170", #[⟨0, .data⟩, ⟨1, .data⟩], none⟩
def didx6_o3 : Oper := ⟨some 19, .fieldAddr 78 (.tmp 18) 0, 0, "ref.go:170", #[⟨2, .data⟩], none⟩
def didx6_o4 : Oper := ⟨some 20, .load 32 (.tmp 19), 32, "ref.go:170", #[⟨3, .data⟩], none⟩
def didx6_o5 : Oper := ⟨some 21, .load 32 (.tmp 3), 32, "ref.go:170", #[], none⟩
def didx6_o6 : Oper := ⟨some 22, .binOp BinOp.eql 32 (.tmp 20) (.tmp 21) 32, 4, "ref.go:170", #[⟨4, .data⟩, ⟨5, .data⟩], none⟩
def didx6_ops : Array Oper := #[didx6_o0, didx6_o1, didx6_o2, didx6_o3, didx6_o4, didx6_o5, didx6_o6]
theorem didx6 {eb eo n ec i : Nat} {x : Elt} {kb : Nat} {k : IdK} {g : Bool} (a : Act) (w : World) (Q : Exit → Act → World → Prop) (zz : a.tmps.size = 31)
    (t3 : a.tmps.getD 3 undef = .pointer (some ⟨kb, 0, none⟩))
    (t5 : a.tmps.getD 5 undef = .slice (some ⟨eb, eo, none⟩) n ec)
    (t7 : a.tmps.getD 7 undef = .int .i64 (i : Int))
    (hx : x.wf) (hi : i < n) (hn : n ≤ 1400000000001) (hk : k.ok) (he : decide (x.id = k) = g) (h1 : w.drew.rangeAt eb (eo + 67 * i) x.c) (h2 : IdAt w.drew kb k)
    (h : ∀ (a' : Act) (w' : World), w' = w.drew → a' = (((((((a).put (some 16) (.slice (some ⟨eb, eo, none⟩) n ec)).put (some 17) (.int .i64 (i : Int))).put (some 18) (.pointer (some ⟨eb, eo + 67 * i, none⟩))).put (some 19) (.pointer (some ⟨eb, eo + 67 * i + 0, none⟩))).put (some 20) (x.id.v)).put (some 21) (k.v)).put (some 22) (.bool g) → Q .normal a' w') :
    (Code.region 6 didx6_ops true).wp Try.prog Q a w := by
  refine y0 (fun w' => w' = w.drew) (rfl) (fun hHeld => ?_)
  refine yv 0 rfl rfl (fun w1 hw => exec_move rfl (zi t5 rfl)) hHeld ?_
  refine yv 1 rfl rfl (fun w1 hw => exec_move rfl (zi t7 rfl)) hHeld ?_
  refine yv 2 rfl rfl (fun w1 hw => exec_indexAt rfl (zg zz rfl) (zg zz rfl) (ix_el hi hn _)) hHeld ?_
  refine yv 3 rfl rfl (fun w1 hw => exec_fieldAt rfl (zg zz rfl) (fg_78_0 _ _ _)) hHeld ?_
  refine yv 4 rfl rfl (fun w1 hw => exec_load rfl (zg zz rfl) (el_id hx (by rw [hw]; exact h1))) hHeld ?_
  refine yv 5 rfl rfl (fun w1 hw => exec_load rfl (zi t3 rfl) (load_id hk (by rw [hw]; exact h2))) hHeld ?_
  refine yv (v := .bool g) 6 rfl rfl (fun w1 hw => ex_eqlI rfl (zg zz rfl) (zg zz rfl) hx.1 hk he) hHeld ?_
  exact ye rfl (h _ _ (hHeld) rfl)
def didx8_o0 : Oper := ⟨some 24, .move (.tmp 5), 71, "ref.go:173", #[], none⟩
def didx8_o1 : Oper := ⟨some 25, .move (.tmp 7), 3, "ref.go:173", #[], none⟩
def didx8_o2 : Oper := ⟨some 26, .indexAddr 71 (.tmp 24) (.tmp 25), 0, "ref.go:173", #[⟨0, .data⟩, ⟨1, .data⟩], none⟩
def didx8_o3 : Oper := ⟨some 27, .fieldAddr 78 (.tmp 26) 2, 0, "ref.go:173", #[⟨2, .data⟩], none⟩
def didx8_o4 : Oper := ⟨some 28, .load 4 (.tmp 27), 4, "ref.go:173", #[⟨3, .data⟩], none⟩
def didx8_ops : Array Oper := #[didx8_o0, didx8_o1, didx8_o2, didx8_o3, didx8_o4]
theorem didx8 {eb eo n ec i : Nat} {x : Elt} (a : Act) (w : World) (Q : Exit → Act → World → Prop) (zz : a.tmps.size = 31)
    (t5 : a.tmps.getD 5 undef = .slice (some ⟨eb, eo, none⟩) n ec)
    (t7 : a.tmps.getD 7 undef = .int .i64 (i : Int))
    (hx : x.wf) (hi : i < n) (hn : n ≤ 1400000000001) (h1 : w.rangeAt eb (eo + 67 * i) x.c)
    (h : ∀ (a' : Act) (w' : World), w' = w → a' = (((((a).put (some 24) (.slice (some ⟨eb, eo, none⟩) n ec)).put (some 25) (.int .i64 (i : Int))).put (some 26) (.pointer (some ⟨eb, eo + 67 * i, none⟩))).put (some 27) (.pointer (some ⟨eb, eo + 67 * i + 66, none⟩))).put (some 28) (.bool x.sh) → Q .normal a' w') :
    (Code.region 8 didx8_ops false).wp Try.prog Q a w := by
  refine z0 rfl ?_
  refine zv rfl (exec_move rfl (zi t5 rfl)) ?_
  refine zv rfl (exec_move rfl (zi t7 rfl)) ?_
  refine zv rfl (exec_indexAt rfl (zg zz rfl) (zg zz rfl) (ix_el hi hn _)) ?_
  refine zv rfl (exec_fieldAt rfl (zg zz rfl) (fg_78_2 _ _ _)) ?_
  refine zv rfl (exec_load rfl (zg zz rfl) (el_sh hx h1)) ?_
  exact ze rfl (h _ _ (rfl) rfl)
def dat2_o0 : Oper := ⟨some 9, .move (.tmp 1), 3, "ref.go:183", #[], none⟩
def dat2_o1 : Oper := ⟨some 10, .binOp BinOp.lss 3 (.tmp 9) (Operand.const (Value.int IntKind.i64 0)) 3, 4, "ref.go:183", #[⟨0, .data⟩], none⟩
def dat2_o2 : Oper := ⟨some 11, .move (.tmp 10), 4, "ref.go:183", #[⟨1, .data⟩], none⟩
def dat2_o3 : Oper := ⟨some 12, .move (.tmp 1), 3, "ref.go:183", #[⟨2, .guard⟩], some (2, false)⟩
def dat2_o4 : Oper := ⟨some 13, .move (.tmp 6), 47, "ref.go:183", #[⟨2, .guard⟩], some (2, false)⟩
def dat2_o5 : Oper := ⟨some 14, .call { callee := Callee.builtin Builtin.len, args := #[.tmp 13], argTypes := #[47] }, 3, "ref.go:183", #[⟨4, .data⟩, ⟨2, .guard⟩], some (2, false)⟩
def dat2_o6 : Oper := ⟨some 15, .binOp BinOp.geq 3 (.tmp 12) (.tmp 14) 3, 4, "ref.go:183", #[⟨3, .data⟩, ⟨5, .data⟩, ⟨2, .guard⟩], some (2, false)⟩
def dat2_o7 : Oper := ⟨some 16, .pick (.tmp 11) (Operand.const (Value.bool true)) (.tmp 15), 4, "ref.go:183", #[⟨2, .data⟩, ⟨6, .data⟩], none⟩
def dat2_ops : Array Oper := #[dat2_o0, dat2_o1, dat2_o2, dat2_o3, dat2_o4, dat2_o5, dat2_o6, dat2_o7]
theorem dat2a {n ic : Nat} {ia : Option Addr} {z : Int} (a : Act) (w : World) (Q : Exit → Act → World → Prop) (zz : a.tmps.size = 22)
    (t1 : a.tmps.getD 1 undef = .int .i64 z)
    (t6 : a.tmps.getD 6 undef = .slice ia n ic)
    (hg : decide (z < 0) = true)
    (h : ∀ (a' : Act) (w' : World), w' = w → a' = ((((((((a).put (some 9) (.int .i64 z)).put (some 10) (.bool true)).put (some 11) (.bool true)).put (some 12) (undef)).put (some 13) (undef)).put (some 14) (undef)).put (some 15) (undef)).put (some 16) (.bool true) → Q .normal a' w') :
    (Code.region 2 dat2_ops false).wp Try.prog Q a w := by
  refine z0 rfl ?_
  refine zv rfl (exec_move rfl (zi t1 rfl)) ?_
  refine zv (v := .bool true) rfl (ex_lss rfl (zg zz rfl) rfl hg) ?_
  refine zv rfl (exec_move rfl (zg zz rfl)) ?_
  refine zn (zx zz rfl rfl rfl (zg zz rfl)) ?_
  refine zn (zx zz rfl rfl rfl (zg zz rfl)) ?_
  refine zn (zx zz rfl rfl rfl (zg zz rfl)) ?_
  refine zn (zx zz rfl rfl rfl (zg zz rfl)) ?_
  refine zv rfl (exec_pickT rfl (zg zz rfl) rfl) ?_
  exact ze rfl (h _ _ (rfl) rfl)
theorem dat2b {n ic : Nat} {ia : Option Addr} {z : Int} {g : Bool} (a : Act) (w : World) (Q : Exit → Act → World → Prop) (zz : a.tmps.size = 22)
    (t1 : a.tmps.getD 1 undef = .int .i64 z)
    (t6 : a.tmps.getD 6 undef = .slice ia n ic)
    (hg : decide (z < 0) = false) (h2 : decide (z ≥ (n : Int)) = g)
    (h : ∀ (a' : Act) (w' : World), w' = w → a' = ((((((((a).put (some 9) (.int .i64 z)).put (some 10) (.bool false)).put (some 11) (.bool false)).put (some 12) (.int .i64 z)).put (some 13) (.slice ia n ic)).put (some 14) (.int .i64 (n : Int))).put (some 15) (.bool g)).put (some 16) (.bool g) → Q .normal a' w') :
    (Code.region 2 dat2_ops false).wp Try.prog Q a w := by
  refine z0 rfl ?_
  refine zv rfl (exec_move rfl (zi t1 rfl)) ?_
  refine zv (v := .bool false) rfl (ex_lss rfl (zg zz rfl) rfl hg) ?_
  refine zv rfl (exec_move rfl (zg zz rfl)) ?_
  refine zv (zw zz rfl rfl rfl (zg zz rfl)) (exec_move rfl (zi t1 rfl)) ?_
  refine zv (zw zz rfl rfl rfl (zg zz rfl)) (exec_move rfl (zi t6 rfl)) ?_
  refine zv (zw zz rfl rfl rfl (zg zz rfl)) (exec_len rfl (zg zz rfl) (len_ids _ _ _ _ _)) ?_
  refine zv (v := .bool g) (zw zz rfl rfl rfl (zg zz rfl)) (ex_geq rfl (zg zz rfl) (zg zz rfl) h2) ?_
  refine zv rfl (exec_pickF rfl (zg zz rfl) (zg zz rfl)) ?_
  exact ze rfl (h _ _ (rfl) rfl)
def dat3_o0 : Oper := ⟨some 17, .build 32 #[], 32, "ref.go:184", #[], none⟩
def dat3_o1 : Oper := ⟨none, .store 32 (.tmp 4) (.tmp 17), 0, "ref.go:184", #[⟨0, .data⟩, ⟨0, .phase⟩], none⟩
def dat3_o2 : Oper := ⟨some 5, .assign (Operand.const (Value.bool false)), 4, "ref.go:184", #[⟨1, .chain⟩, ⟨0, .phase⟩, ⟨1, .phase⟩], none⟩
def dat3_ops : Array Oper := #[dat3_o0, dat3_o1, dat3_o2]
theorem dat3 {rb : Nat} {w2 : World} (a : Act) (w : World) (Q : Exit → Act → World → Prop) (zz : a.tmps.size = 22)
    (t4 : a.tmps.getD 4 undef = .pointer (some ⟨rb, 0, none⟩))
    (E1 : (Instr.storeAt 32 (.pointer (some ⟨rb, 0, none⟩)) zId.v).run Try.prog w = .ok () w2)
    (h : ∀ (a' : Act) (w' : World), w' = w2 → a' = ((a).put (some 17) (zId.v)).put (some 5) (.bool false) → Q .normal a' w') :
    (Code.region 3 dat3_ops false).wp Try.prog Q a w := by
  refine z0 rfl ?_
  refine zv rfl (exec_build0 rfl (build_id _)) ?_
  refine zs rfl (exec_store rfl (zi t4 rfl) (zg zz rfl) E1) ?_
  refine zv rfl (exec_assign rfl rfl) ?_
  exact ze rfl (h _ _ (rfl) rfl)
def dat4_o0 : Oper := ⟨some 18, .move (.tmp 6), 47, "ref.go:186", #[], none⟩
def dat4_o1 : Oper := ⟨some 19, .move (.tmp 1), 3, "ref.go:186", #[], none⟩
def dat4_o2 : Oper := ⟨some 20, .indexAddr 47 (.tmp 18) (.tmp 19), 0, "ref.go:186", #[⟨0, .data⟩, ⟨1, .data⟩], none⟩
def dat4_o3 : Oper := ⟨some 21, .load 32 (.tmp 20), 32, "ref.go:186", #[⟨2, .data⟩], none⟩
def dat4_o4 : Oper := ⟨none, .store 32 (.tmp 4) (.tmp 21), 0, "ref.go:186", #[⟨3, .data⟩, ⟨0, .phase⟩, ⟨1, .phase⟩, ⟨2, .phase⟩, ⟨3, .phase⟩], none⟩
def dat4_o5 : Oper := ⟨some 5, .assign (Operand.const (Value.bool true)), 4, "ref.go:186", #[⟨4, .chain⟩, ⟨0, .phase⟩, ⟨1, .phase⟩, ⟨2, .phase⟩, ⟨3, .phase⟩, ⟨4, .phase⟩], none⟩
def dat4_ops : Array Oper := #[dat4_o0, dat4_o1, dat4_o2, dat4_o3, dat4_o4, dat4_o5]
theorem dat4 {rb ib io n ic i : Nat} {x : IdK} {w2 : World} (a : Act) (w : World) (Q : Exit → Act → World → Prop) (zz : a.tmps.size = 22)
    (t4 : a.tmps.getD 4 undef = .pointer (some ⟨rb, 0, none⟩))
    (t6 : a.tmps.getD 6 undef = .slice (some ⟨ib, io, none⟩) n ic)
    (t1 : a.tmps.getD 1 undef = .int .i64 (i : Int))
    (hx : x.ok) (hi : i < n) (hn : n ≤ 1400000000000) (h1 : w.rangeAt ib (io + 33 * i) x.c) (E1 : (Instr.storeAt 32 (.pointer (some ⟨rb, 0, none⟩)) x.v).run Try.prog w = .ok () w2)
    (h : ∀ (a' : Act) (w' : World), w' = w2 → a' = (((((a).put (some 18) (.slice (some ⟨ib, io, none⟩) n ic)).put (some 19) (.int .i64 (i : Int))).put (some 20) (.pointer (some ⟨ib, io + 33 * i, none⟩))).put (some 21) (x.v)).put (some 5) (.bool true) → Q .normal a' w') :
    (Code.region 4 dat4_ops false).wp Try.prog Q a w := by
  refine z0 rfl ?_
  refine zv rfl (exec_move rfl (zi t6 rfl)) ?_
  refine zv rfl (exec_move rfl (zi t1 rfl)) ?_
  refine zv rfl (exec_indexAt rfl (zg zz rfl) (zg zz rfl) (ix_idl hi hn _)) ?_
  refine zv rfl (exec_load rfl (zg zz rfl) (load_id_at hx h1)) ?_
  refine zs rfl (exec_store rfl (zi t4 rfl) (zg zz rfl) E1) ?_
  refine zv rfl (exec_assign rfl rfl) ?_
  exact ze rfl (h _ _ (rfl) rfl)
def dnth2_o0 : Oper := ⟨some 9, .move (.tmp 1), 3, "ref.go:192", #[], none⟩
def dnth2_o1 : Oper := ⟨some 10, .binOp BinOp.lss 3 (.tmp 9) (Operand.const (Value.int IntKind.i64 0)) 3, 4, "ref.go:192", #[⟨0, .data⟩], none⟩
def dnth2_o2 : Oper := ⟨some 11, .move (.tmp 10), 4, "ref.go:192", #[⟨1, .data⟩], none⟩
def dnth2_o3 : Oper := ⟨some 12, .move (.tmp 1), 3, "ref.go:192", #[⟨2, .guard⟩], some (2, false)⟩
def dnth2_o4 : Oper := ⟨some 13, .move (.tmp 6), 47, "ref.go:192", #[⟨2, .guard⟩], some (2, false)⟩
def dnth2_o5 : Oper := ⟨some 14, .call { callee := Callee.builtin Builtin.len, args := #[.tmp 13], argTypes := #[47] }, 3, "ref.go:192", #[⟨4, .data⟩, ⟨2, .guard⟩], some (2, false)⟩
def dnth2_o6 : Oper := ⟨some 15, .binOp BinOp.geq 3 (.tmp 12) (.tmp 14) 3, 4, "ref.go:192", #[⟨3, .data⟩, ⟨5, .data⟩, ⟨2, .guard⟩], some (2, false)⟩
def dnth2_o7 : Oper := ⟨some 16, .pick (.tmp 11) (Operand.const (Value.bool true)) (.tmp 15), 4, "ref.go:192", #[⟨2, .data⟩, ⟨6, .data⟩], none⟩
def dnth2_ops : Array Oper := #[dnth2_o0, dnth2_o1, dnth2_o2, dnth2_o3, dnth2_o4, dnth2_o5, dnth2_o6, dnth2_o7]
theorem dnth2a {n ic : Nat} {ia : Option Addr} {z : Int} (a : Act) (w : World) (Q : Exit → Act → World → Prop) (zz : a.tmps.size = 22)
    (t1 : a.tmps.getD 1 undef = .int .i64 z)
    (t6 : a.tmps.getD 6 undef = .slice ia n ic)
    (hg : decide (z < 0) = true)
    (h : ∀ (a' : Act) (w' : World), w' = w → a' = ((((((((a).put (some 9) (.int .i64 z)).put (some 10) (.bool true)).put (some 11) (.bool true)).put (some 12) (undef)).put (some 13) (undef)).put (some 14) (undef)).put (some 15) (undef)).put (some 16) (.bool true) → Q .normal a' w') :
    (Code.region 2 dnth2_ops false).wp Try.prog Q a w := by
  refine z0 rfl ?_
  refine zv rfl (exec_move rfl (zi t1 rfl)) ?_
  refine zv (v := .bool true) rfl (ex_lss rfl (zg zz rfl) rfl hg) ?_
  refine zv rfl (exec_move rfl (zg zz rfl)) ?_
  refine zn (zx zz rfl rfl rfl (zg zz rfl)) ?_
  refine zn (zx zz rfl rfl rfl (zg zz rfl)) ?_
  refine zn (zx zz rfl rfl rfl (zg zz rfl)) ?_
  refine zn (zx zz rfl rfl rfl (zg zz rfl)) ?_
  refine zv rfl (exec_pickT rfl (zg zz rfl) rfl) ?_
  exact ze rfl (h _ _ (rfl) rfl)
theorem dnth2b {n ic : Nat} {ia : Option Addr} {z : Int} {g : Bool} (a : Act) (w : World) (Q : Exit → Act → World → Prop) (zz : a.tmps.size = 22)
    (t1 : a.tmps.getD 1 undef = .int .i64 z)
    (t6 : a.tmps.getD 6 undef = .slice ia n ic)
    (hg : decide (z < 0) = false) (h2 : decide (z ≥ (n : Int)) = g)
    (h : ∀ (a' : Act) (w' : World), w' = w → a' = ((((((((a).put (some 9) (.int .i64 z)).put (some 10) (.bool false)).put (some 11) (.bool false)).put (some 12) (.int .i64 z)).put (some 13) (.slice ia n ic)).put (some 14) (.int .i64 (n : Int))).put (some 15) (.bool g)).put (some 16) (.bool g) → Q .normal a' w') :
    (Code.region 2 dnth2_ops false).wp Try.prog Q a w := by
  refine z0 rfl ?_
  refine zv rfl (exec_move rfl (zi t1 rfl)) ?_
  refine zv (v := .bool false) rfl (ex_lss rfl (zg zz rfl) rfl hg) ?_
  refine zv rfl (exec_move rfl (zg zz rfl)) ?_
  refine zv (zw zz rfl rfl rfl (zg zz rfl)) (exec_move rfl (zi t1 rfl)) ?_
  refine zv (zw zz rfl rfl rfl (zg zz rfl)) (exec_move rfl (zi t6 rfl)) ?_
  refine zv (zw zz rfl rfl rfl (zg zz rfl)) (exec_len rfl (zg zz rfl) (len_ids _ _ _ _ _)) ?_
  refine zv (v := .bool g) (zw zz rfl rfl rfl (zg zz rfl)) (ex_geq rfl (zg zz rfl) (zg zz rfl) h2) ?_
  refine zv rfl (exec_pickF rfl (zg zz rfl) (zg zz rfl)) ?_
  exact ze rfl (h _ _ (rfl) rfl)
def dnth3_o0 : Oper := ⟨some 17, .build 32 #[], 32, "ref.go:193", #[], none⟩
def dnth3_o1 : Oper := ⟨none, .store 32 (.tmp 4) (.tmp 17), 0, "ref.go:193", #[⟨0, .data⟩, ⟨0, .phase⟩], none⟩
def dnth3_o2 : Oper := ⟨some 5, .assign (Operand.const (Value.bool false)), 4, "ref.go:193", #[⟨1, .chain⟩, ⟨0, .phase⟩, ⟨1, .phase⟩], none⟩
def dnth3_ops : Array Oper := #[dnth3_o0, dnth3_o1, dnth3_o2]
theorem dnth3 {rb : Nat} {w2 : World} (a : Act) (w : World) (Q : Exit → Act → World → Prop) (zz : a.tmps.size = 22)
    (t4 : a.tmps.getD 4 undef = .pointer (some ⟨rb, 0, none⟩))
    (E1 : (Instr.storeAt 32 (.pointer (some ⟨rb, 0, none⟩)) zId.v).run Try.prog w = .ok () w2)
    (h : ∀ (a' : Act) (w' : World), w' = w2 → a' = ((a).put (some 17) (zId.v)).put (some 5) (.bool false) → Q .normal a' w') :
    (Code.region 3 dnth3_ops false).wp Try.prog Q a w := by
  refine z0 rfl ?_
  refine zv rfl (exec_build0 rfl (build_id _)) ?_
  refine zs rfl (exec_store rfl (zi t4 rfl) (zg zz rfl) E1) ?_
  refine zv rfl (exec_assign rfl rfl) ?_
  exact ze rfl (h _ _ (rfl) rfl)
def dnth4_o0 : Oper := ⟨some 18, .move (.tmp 6), 47, "ref.go:195", #[], none⟩
def dnth4_o1 : Oper := ⟨some 19, .move (.tmp 1), 3, "ref.go:195", #[], none⟩
def dnth4_o2 : Oper := ⟨some 20, .indexAddr 47 (.tmp 18) (.tmp 19), 0, "ref.go:195", #[⟨0, .data⟩, ⟨1, .data⟩], none⟩
def dnth4_o3 : Oper := ⟨some 21, .load 32 (.tmp 20), 32, "ref.go:195", #[⟨2, .data⟩], none⟩
def dnth4_o4 : Oper := ⟨none, .store 32 (.tmp 4) (.tmp 21), 0, "ref.go:195", #[⟨3, .data⟩, ⟨0, .phase⟩, ⟨1, .phase⟩, ⟨2, .phase⟩, ⟨3, .phase⟩], none⟩
def dnth4_o5 : Oper := ⟨some 5, .assign (Operand.const (Value.bool true)), 4, "ref.go:195", #[⟨4, .chain⟩, ⟨0, .phase⟩, ⟨1, .phase⟩, ⟨2, .phase⟩, ⟨3, .phase⟩, ⟨4, .phase⟩], none⟩
def dnth4_ops : Array Oper := #[dnth4_o0, dnth4_o1, dnth4_o2, dnth4_o3, dnth4_o4, dnth4_o5]
theorem dnth4 {rb ib io n ic i : Nat} {x : IdK} {w2 : World} (a : Act) (w : World) (Q : Exit → Act → World → Prop) (zz : a.tmps.size = 22)
    (t4 : a.tmps.getD 4 undef = .pointer (some ⟨rb, 0, none⟩))
    (t6 : a.tmps.getD 6 undef = .slice (some ⟨ib, io, none⟩) n ic)
    (t1 : a.tmps.getD 1 undef = .int .i64 (i : Int))
    (hx : x.ok) (hi : i < n) (hn : n ≤ 1400000000000) (h1 : w.rangeAt ib (io + 33 * i) x.c) (E1 : (Instr.storeAt 32 (.pointer (some ⟨rb, 0, none⟩)) x.v).run Try.prog w = .ok () w2)
    (h : ∀ (a' : Act) (w' : World), w' = w2 → a' = (((((a).put (some 18) (.slice (some ⟨ib, io, none⟩) n ic)).put (some 19) (.int .i64 (i : Int))).put (some 20) (.pointer (some ⟨ib, io + 33 * i, none⟩))).put (some 21) (x.v)).put (some 5) (.bool true) → Q .normal a' w') :
    (Code.region 4 dnth4_ops false).wp Try.prog Q a w := by
  refine z0 rfl ?_
  refine zv rfl (exec_move rfl (zi t6 rfl)) ?_
  refine zv rfl (exec_move rfl (zi t1 rfl)) ?_
  refine zv rfl (exec_indexAt rfl (zg zz rfl) (zg zz rfl) (ix_idl hi hn _)) ?_
  refine zv rfl (exec_load rfl (zg zz rfl) (load_id_at hx h1)) ?_
  refine zs rfl (exec_store rfl (zi t4 rfl) (zg zz rfl) E1) ?_
  refine zv rfl (exec_assign rfl rfl) ?_
  exact ze rfl (h _ _ (rfl) rfl)
def dbeh1_o0 : Oper := ⟨some 7, .move (.tmp 0), 26, "ref.go:147", #[], none⟩
def dbeh1_o1 : Oper := ⟨some 8, .load 32 (.tmp 3), 32, "ref.go:147", #[], none⟩
def dbeh1_o2 : Oper := ⟨some 9, .call { callee := Callee.value (Operand.func 38), args := #[.tmp 7, .tmp 8], argTypes := #[26, 32] }, 3, "ref.go:147", #[⟨0, .data⟩, ⟨1, .data⟩], none⟩
def dbeh1_o3 : Oper := ⟨some 6, .assign (.tmp 9), 3, "ref.go:147", #[⟨2, .data⟩, ⟨2, .chain⟩, ⟨0, .phase⟩, ⟨1, .phase⟩, ⟨2, .phase⟩], none⟩
def dbeh1_ops : Array Oper := #[dbeh1_o0, dbeh1_o1, dbeh1_o2, dbeh1_o3]
theorem dbeh1 {dv : Value} {kb : Nat} {k : IdK} {r : Int} (Fin : World → Prop) (a : Act) (w : World) (Q : Exit → Act → World → Prop) (zz : a.tmps.size = 21)
    (t0 : a.tmps.getD 0 undef = dv)
    (t3 : a.tmps.getD 3 undef = .pointer (some ⟨kb, 0, none⟩))
    (hk : k.ok) (h0 : IdAt w kb k) (CF : Calls Try.prog 38 #[dv, k.v] w fun e w' => e = .returned (.int .i64 r) ∧ Fin w')
    (h : ∀ (a' : Act) (w' : World), Fin w' → a' = ((((a).put (some 7) (dv)).put (some 8) (k.v)).put (some 9) (.int .i64 r)).put (some 6) (.int .i64 r) → Q .normal a' w') :
    (Code.region 1 dbeh1_ops false).wp Try.prog Q a w := by
  refine z0 rfl ?_
  refine zv rfl (exec_move rfl (zi t0 rfl)) ?_
  refine zv rfl (exec_load rfl (zi t3 rfl) (load_id hk h0)) ?_
  refine zc rfl (exec_c2 rfl (zg zz rfl) (zg zz rfl)) (CF) (fun e x2 hx => ?_)
  obtain ⟨rfl, HF⟩ := hx
  refine ⟨_, rfl, ?_⟩
  refine zv rfl (exec_assign rfl (zg zz rfl)) ?_
  exact ze rfl (h _ _ (HF) rfl)
def dbeh3_o0 : Oper := ⟨some 12, .build 32 #[], 32, "ref.go:149", #[], none⟩
def dbeh3_o1 : Oper := ⟨none, .store 32 (.tmp 4) (.tmp 12), 0, "ref.go:149", #[⟨0, .data⟩, ⟨0, .phase⟩], none⟩
def dbeh3_o2 : Oper := ⟨some 5, .assign (Operand.const (Value.bool false)), 4, "ref.go:149", #[⟨1, .chain⟩, ⟨0, .phase⟩, ⟨1, .phase⟩], none⟩
def dbeh3_ops : Array Oper := #[dbeh3_o0, dbeh3_o1, dbeh3_o2]
theorem dbeh3 {rb : Nat} {w2 : World} (a : Act) (w : World) (Q : Exit → Act → World → Prop) (zz : a.tmps.size = 21)
    (t4 : a.tmps.getD 4 undef = .pointer (some ⟨rb, 0, none⟩))
    (E1 : (Instr.storeAt 32 (.pointer (some ⟨rb, 0, none⟩)) zId.v).run Try.prog w = .ok () w2)
    (h : ∀ (a' : Act) (w' : World), w' = w2 → a' = ((a).put (some 12) (zId.v)).put (some 5) (.bool false) → Q .normal a' w') :
    (Code.region 3 dbeh3_ops false).wp Try.prog Q a w := by
  refine z0 rfl ?_
  refine zv rfl (exec_build0 rfl (build_id _)) ?_
  refine zs rfl (exec_store rfl (zi t4 rfl) (zg zz rfl) E1) ?_
  refine zv rfl (exec_assign rfl rfl) ?_
  exact ze rfl (h _ _ (rfl) rfl)
def dbeh4_o0 : Oper := ⟨some 13, .move (.tmp 0), 26, "ref.go:151", #[], none⟩
def dbeh4_o1 : Oper := ⟨some 14, .nilCheck (.tmp 13), 0, "ref.go:151", #[⟨0, .data⟩], none⟩
def dbeh4_o2 : Oper := ⟨some 15, .fieldAddr 73 (.tmp 14) 0, 0, "ref.go:151", #[⟨1, .data⟩], none⟩
def dbeh4_o3 : Oper := ⟨some 16, .load 71 (.tmp 15), 71, "ref.go:151", #[⟨2, .data⟩], none⟩
def dbeh4_o4 : Oper := ⟨some 17, .move (.tmp 6), 3, "ref.go:151", #[], none⟩
def dbeh4_o5 : Oper := ⟨some 18, .indexAddr 71 (.tmp 16) (.tmp 17), 0, "ref.go:151", #[⟨3, .data⟩, ⟨4, .data⟩], none⟩
def dbeh4_o6 : Oper := ⟨some 19, .fieldAddr 78 (.tmp 18) 1, 0, "ref.go:151", #[⟨5, .data⟩], none⟩
def dbeh4_o7 : Oper := ⟨some 20, .load 32 (.tmp 19), 32, "ref.go:151", #[⟨6, .data⟩], none⟩
def dbeh4_o8 : Oper := ⟨none, .store 32 (.tmp 4) (.tmp 20), 0, "ref.go:151", #[⟨7, .data⟩, ⟨0, .phase⟩, ⟨1, .phase⟩, ⟨2, .phase⟩, ⟨3, .phase⟩, ⟨4, .phase⟩, ⟨5, .phase⟩, ⟨6, .phase⟩, ⟨7, .phase⟩], none⟩
def dbeh4_o9 : Oper := ⟨some 5, .assign (Operand.const (Value.bool true)), 4, "ref.go:151", #[⟨8, .chain⟩, ⟨0, .phase⟩, ⟨1, .phase⟩, ⟨2, .phase⟩, ⟨3, .phase⟩, ⟨4, .phase⟩, ⟨5, .phase⟩, ⟨6, .phase⟩, ⟨7, .phase⟩, ⟨8, .phase⟩], none⟩
def dbeh4_ops : Array Oper := #[dbeh4_o0, dbeh4_o1, dbeh4_o2, dbeh4_o3, dbeh4_o4, dbeh4_o5, dbeh4_o6, dbeh4_o7, dbeh4_o8, dbeh4_o9]
theorem dbeh4 {d eb eo n ec i : Nat} {x : Elt} {rb : Nat} {w2 : World} (a : Act) (w : World) (Q : Exit → Act → World → Prop) (zz : a.tmps.size = 21)
    (t0 : a.tmps.getD 0 undef = .pointer (some ⟨d, 0, none⟩))
    (t4 : a.tmps.getD 4 undef = .pointer (some ⟨rb, 0, none⟩))
    (t6 : a.tmps.getD 6 undef = .int .i64 (i : Int))
    (hx : x.wf) (hi : i < n) (hn : n ≤ 1400000000001) (h0 : w.heap[d]? = some (.cells #[.slice (some ⟨eb, eo, none⟩) n ec] 73 (0, 0))) (h1 : w.rangeAt eb (eo + 67 * i) x.c) (E1 : (Instr.storeAt 32 (.pointer (some ⟨rb, 0, none⟩)) x.bh.v).run Try.prog w = .ok () w2)
    (h : ∀ (a' : Act) (w' : World), w' = w2 → a' = (((((((((a).put (some 13) (.pointer (some ⟨d, 0, none⟩))).put (some 14) (.pointer (some ⟨d, 0, none⟩))).put (some 15) (.pointer (some ⟨d, 0 + 0, none⟩))).put (some 16) (.slice (some ⟨eb, eo, none⟩) n ec)).put (some 17) (.int .i64 (i : Int))).put (some 18) (.pointer (some ⟨eb, eo + 67 * i, none⟩))).put (some 19) (.pointer (some ⟨eb, eo + 67 * i + 33, none⟩))).put (some 20) (x.bh.v)).put (some 5) (.bool true) → Q .normal a' w') :
    (Code.region 4 dbeh4_ops false).wp Try.prog Q a w := by
  refine z0 rfl ?_
  refine zv rfl (exec_move rfl (zi t0 rfl)) ?_
  refine zv rfl (exec_nilCheck rfl (zg zz rfl)) ?_
  refine zv rfl (exec_fieldAt rfl (zg zz rfl) (fg_73_0 _ _ _)) ?_
  refine zv rfl (exec_load rfl (zg zz rfl) (ld_all h0 rfl)) ?_
  refine zv rfl (exec_move rfl (zi t6 rfl)) ?_
  refine zv rfl (exec_indexAt rfl (zg zz rfl) (zg zz rfl) (ix_el hi hn _)) ?_
  refine zv rfl (exec_fieldAt rfl (zg zz rfl) (fg_78_1 _ _ _)) ?_
  refine zv rfl (exec_load rfl (zg zz rfl) (el_bh hx h1)) ?_
  refine zs rfl (exec_store rfl (zi t4 rfl) (zg zz rfl) E1) ?_
  refine zv rfl (exec_assign rfl rfl) ?_
  exact ze rfl (h _ _ (rfl) rfl)
def dfrk4_o0 : Oper := ⟨some 7, .move (.tmp 3), 26, "ref.go:26", #[], none⟩
def dfrk4_o1 : Oper := ⟨some 8, .move (.tmp 3), 26, "ref.go:26", #[], none⟩
def dfrk4_o2 : Oper := ⟨some 9, .nilCheck (.tmp 8), 0, "ref.go:26", #[⟨1, .data⟩], none⟩
def dfrk4_o3 : Oper := ⟨some 10, .fieldAddr 73 (.tmp 9) 0, 0, "ref.go:26", #[⟨2, .data⟩], none⟩
def dfrk4_o4 : Oper := ⟨some 11, .load 71 (.tmp 10), 71, "ref.go:26", #[⟨3, .data⟩], none⟩
def dfrk4_o5 : Oper := ⟨some 12, .move (.tmp 0), 26, "ref.go:26", #[], none⟩
def dfrk4_o6 : Oper := ⟨some 13, .nilCheck (.tmp 12), 0, "ref.go:26", #[⟨5, .data⟩], none⟩
def dfrk4_o7 : Oper := ⟨some 14, .fieldAddr 73 (.tmp 13) 0, 0, "ref.go:26", #[⟨6, .data⟩], none⟩
def dfrk4_o8 : Oper := ⟨some 15, .load 71 (.tmp 14), 71, "ref.go:26", #[⟨7, .data⟩], none⟩
def dfrk4_o9 : Oper := ⟨some 16, .call { callee := Callee.builtin Builtin.append, args := #[.tmp 11, .tmp 15], argTypes := #[71, 71] }, 71, "ref.go:26", #[⟨4, .data⟩, ⟨8, .data⟩], none⟩
def dfrk4_o10 : Oper := ⟨some 17, .nilCheck (.tmp 7), 0, "ref.go:26", #[⟨0, .data⟩, ⟨0, .phase⟩, ⟨1, .phase⟩, ⟨2, .phase⟩, ⟨3, .phase⟩, ⟨4, .phase⟩, ⟨5, .phase⟩, ⟨6, .phase⟩, ⟨7, .phase⟩, ⟨8, .phase⟩, ⟨9, .phase⟩], none⟩
def dfrk4_o11 : Oper := ⟨some 18, .fieldAddr 73 (.tmp 17) 0, 0, "ref.go:26", #[⟨10, .data⟩, ⟨0, .phase⟩, ⟨1, .phase⟩, ⟨2, .phase⟩, ⟨3, .phase⟩, ⟨4, .phase⟩, ⟨5, .phase⟩, ⟨6, .phase⟩, ⟨7, .phase⟩, ⟨8, .phase⟩, ⟨9, .phase⟩], none⟩
def dfrk4_o12 : Oper := ⟨none, .store 71 (.tmp 18) (.tmp 16), 0, "ref.go:26", #[⟨11, .data⟩, ⟨9, .data⟩, ⟨9, .chain⟩, ⟨0, .phase⟩, ⟨1, .phase⟩, ⟨2, .phase⟩, ⟨3, .phase⟩, ⟨4, .phase⟩, ⟨5, .phase⟩, ⟨6, .phase⟩, ⟨7, .phase⟩, ⟨8, .phase⟩, ⟨9, .phase⟩], none⟩
def dfrk4_ops : Array Oper := #[dfrk4_o0, dfrk4_o1, dfrk4_o2, dfrk4_o3, dfrk4_o4, dfrk4_o5, dfrk4_o6, dfrk4_o7, dfrk4_o8, dfrk4_o9, dfrk4_o10, dfrk4_o11, dfrk4_o12]
theorem dfrk4 {d f n ec vn vc : Nat} {ea va : Option Addr} {w2 w3 : World} (a : Act) (w : World) (Q : Exit → Act → World → Prop) (zz : a.tmps.size = 20)
    (t0 : a.tmps.getD 0 undef = .pointer (some ⟨d, 0, none⟩))
    (t3 : a.tmps.getD 3 undef = .pointer (some ⟨f, 0, none⟩))
    (S0 : w.drew.heap[d]? = some (.cells #[.slice ea n ec] 73 (0, 0)) ∧ w.drew.heap[f]? = some (.cells #[.slice none 0 0] 73 (0, 0))) (S2 : w2.heap[d]? = some (.cells #[.slice ea n ec] 73 (0, 0)) ∧ w2.heap[f]? = some (.cells #[.slice none 0 0] 73 (0, 0))) (E2 : (Builtin.append_ #[71, 71] 71 #[.slice none 0 0, .slice ea n ec]).run Try.prog w.drew = .ok (.slice va vn vc) w2) (E3 : (Instr.storeAt 71 (.pointer (some ⟨f, 0 + 0, none⟩)) (.slice va vn vc)).run Try.prog w2 = .ok () w3)
    (h : ∀ (a' : Act) (w' : World), w' = w3 → a' = ((((((((((((a).put (some 7) (.pointer (some ⟨f, 0, none⟩))).put (some 8) (.pointer (some ⟨f, 0, none⟩))).put (some 9) (.pointer (some ⟨f, 0, none⟩))).put (some 10) (.pointer (some ⟨f, 0 + 0, none⟩))).put (some 11) (.slice none 0 0)).put (some 12) (.pointer (some ⟨d, 0, none⟩))).put (some 13) (.pointer (some ⟨d, 0, none⟩))).put (some 14) (.pointer (some ⟨d, 0 + 0, none⟩))).put (some 15) (.slice ea n ec)).put (some 16) (.slice va vn vc)).put (some 17) (.pointer (some ⟨f, 0, none⟩))).put (some 18) (.pointer (some ⟨f, 0 + 0, none⟩)) → Q .normal a' w') :
    (Code.region 4 dfrk4_ops true).wp Try.prog Q a w := by
  refine x0 12 (fun w' => w'.heap[d]? = some (.cells #[.slice ea n ec] 73 (0, 0)) ∧ w'.heap[f]? = some (.cells #[.slice none 0 0] 73 (0, 0))) (S0) (fun hHeld => ?_)
  refine xv 0 rfl rfl (fun w1 hw => exec_move rfl (zi t3 rfl)) hHeld ?_
  refine xv 1 rfl rfl (fun w1 hw => exec_move rfl (zi t3 rfl)) hHeld ?_
  refine xv 2 rfl rfl (fun w1 hw => exec_nilCheck rfl (zg zz rfl)) hHeld ?_
  refine xv 3 rfl rfl (fun w1 hw => exec_fieldAt rfl (zg zz rfl) (fg_73_0 _ _ _)) hHeld ?_
  refine xv 4 rfl rfl (fun w1 hw => exec_load rfl (zg zz rfl) (ld_all (hw.2) rfl)) hHeld ?_
  refine xv 5 rfl rfl (fun w1 hw => exec_move rfl (zi t0 rfl)) hHeld ?_
  refine xv 6 rfl rfl (fun w1 hw => exec_nilCheck rfl (zg zz rfl)) hHeld ?_
  refine xv 7 rfl rfl (fun w1 hw => exec_fieldAt rfl (zg zz rfl) (fg_73_0 _ _ _)) hHeld ?_
  refine xv 8 rfl rfl (fun w1 hw => exec_load rfl (zg zz rfl) (ld_all (hw.1) rfl)) hHeld ?_
  refine xr (v := .slice va vn vc) 9 rfl rfl (exec_append rfl (zg zz rfl) (zg zz rfl) E2) (fun _ => S2) (fun hHeld => ?_)
  replace hHeld := hHeld (by decide)
  refine xv 10 rfl rfl (fun w1 hw => exec_nilCheck rfl (zg zz rfl)) hHeld ?_
  refine xv 11 rfl rfl (fun w1 hw => exec_fieldAt rfl (zg zz rfl) (fg_73_0 _ _ _)) hHeld ?_
  refine xs 12 rfl rfl (exec_store rfl (zg zz rfl) (zg zz rfl) E3) (fun hne => absurd rfl hne) (fun _ => ?_)
  exact xe rfl (h _ _ (rfl) rfl)
def RefV (w : World) (base : Nat) (pv : Value) (R : List Elt) : Prop := (pv = .pointer none ∧ R = []) ∨ ∃ d v, pv = .pointer (some ⟨d, 0, none⟩) ∧ RefAt w base d v R
theorem RefV.below {w w' : World} {base : Nat} {pv : Value} {R : List Elt} (h : RefV w base pv R) (b : Below w.heap.size w w') : RefV w' base pv R := by
  rcases h with h | ⟨d, v, e, h⟩
  · exact .inl h
  · exact .inr ⟨d, v, e, h.below b⟩
theorem RefV.ok {w : World} {base : Nat} {pv : Value} {R : List Elt} (h : RefV w base pv R) : RefOk R ∧ R.length ≤ 1400000000000 := by
  rcases h with ⟨_, rfl⟩ | ⟨d, v, e, h⟩
  · exact ⟨RefOk.nil, by simp⟩
  · exact ⟨h.ok, h.len⟩
theorem RefAt.get {w : World} {base d : Nat} {v : Value} {R : List Elt} (h : RefAt w base d v R) {i : Nat} (hi : i < R.length) : ∃ eb eo ec, v = .slice (some ⟨eb, eo, none⟩) R.length ec ∧ eb < w.heap.size ∧ R[i].wf ∧ w.rangeAt eb (eo + 67 * i) R[i].c := by
  obtain ⟨a, c, e, ha⟩ := h.open
  obtain ⟨b, o, rfl, hl, hr⟩ := ha.get hi
  exact ⟨b, o, c, e, hl, h.wf _ (List.getElem_mem hi), hr⟩
theorem none_has {R : List Elt} {k : IdK} (h : ∀ j (hj : j < R.length), R[j].id ≠ k) : hasE R k = false := by
  cases q : hasE R k with
  | false => rfl
  | true =>
    obtain ⟨e, he, r⟩ := hasE_iff.1 q
    obtain ⟨j, hj, rfl⟩ := List.getElem_of_mem he
    exact absurd r (h j hj)
theorem find_at {w : World} {base d : Nat} {v : Value} {R : List Elt} (h : RefAt w base d v R) {k : IdK} (hk : k.ok) : Calls Try.prog 38 #[.pointer (some ⟨d, 0, none⟩), k.v] w fun e w' => e = .returned (.int .i64 (aheadE R false k)) ∧ Below w.heap.size w w' := by
  have bx : Below w.heap.size w (w.alloc (.cells k.c.toArray 32)) := (Below.refl _ _).alloc (Nat.le_refl _) _
  have hx := id_new w k
  obtain ⟨n, hn⟩ : ∃ n, R.length = n := ⟨_, rfl⟩
  have hN := h.len
  rw [hn] at hN
  obtain ⟨ea, ec, ev, _⟩ := h.open
  rw [hn] at ev
  have HV := hidMk ev
  have HN := hidMk hn
  obtain ⟨r, hr⟩ : ∃ r, aheadE R false k = r := ⟨_, rfl⟩
  have HR := hidMk hr
  rw [hr]
  show Calls Try.prog 38 #[.pointer (some ⟨d, 0, none⟩), .agg k.c.toArray] w _
  clear hr ev hn
  go_enter Try.func38, Try.ntmps38
  go_wp2
  have st0 : Hid (RefAt (w.alloc (.cells k.c.toArray 32)) base d v R ∧ IdAt (w.alloc (.cells k.c.toArray 32)) w.heap.size k ∧ Below w.heap.size w (w.alloc (.cells k.c.toArray 32))) := ⟨h.below bx, hx, bx⟩
  generalize w.alloc (.cells k.c.toArray 32) = wx at *
  obtain ⟨kb, hkb⟩ : ∃ kb, w.heap.size = kb := ⟨_, rfl⟩
  rw [hkb] at st0 ⊢
  have HK := hidMk hkb
  clear hkb bx hx
  go_loopw [5] (fun v5 wr => ∃ (i : Nat), v5 = .int .i64 (i : Int) ∧ i ≤ n ∧ Hid (RefAt wr base d v R ∧ IdAt wr kb k ∧ Below kb w wr) ∧ Hid (∀ j (hj : j < R.length), j < i → R[j].id ≠ k)) (fun v5 wr => n - (match v5 with | .int _ i => i.toNat | _ => 0))
  case atStart => exact ⟨0, rfl, Nat.zero_le _, st0, fun j hj h => by omega⟩
  case round =>
    clear st0
    obtain ⟨i, rfl, hin, hI, hno⟩ := hrel
    by_cases hi : i < n
    · have hi' : i < R.length := by rw [HN.out]; exact hi
      obtain ⟨eb, eo, ec2, e1, hl, hwf, hra⟩ := hI.out.1.get hi'
      rw [HN.out] at e1
      have hc0 := hI.out.1.c0
      rw [e1] at hc0
      have HX := hidMk (rank_get h.ok.seq hi')
      have HNX : Hid (R[i].id ≠ k → ∀ j (hj : j < R.length), j < i + 1 → R[j].id ≠ k) := fun q j hj hji => by
        by_cases e : j = i
        · subst e; exact q
        · exact hno.out j hj (by omega)
      generalize R[i] = x at *
      go_upto_region 3 with fail
      refine dfin3 (g := true) _ _ _ rfl rfl rfl hc0 (decide_eq_true (by omega)) ?_
      intro a' w1 hw ha
      subst ha
      obtain rfl : w1 = wr := hw
      simp only [Act.put, List.setIfInBounds_toArray, List.set_cons_zero, List.set_cons_succ]
      go_upto_region 5 with fail
      refine dfin5 (x := x) (k := k) (g := decide (x.id = k)) _ _ _ rfl rfl rfl rfl hwf hi (by omega) hk rfl hc0 hra hI.out.2.1 ?_
      intro a' w2 hw ha
      subst ha
      obtain rfl : w2 = w1.drew := hw
      simp only [Act.put, List.setIfInBounds_toArray, List.set_cons_zero, List.set_cons_succ]
      have hI2 : Hid (RefAt w1.drew base d v R ∧ IdAt w1.drew kb k ∧ Below kb w w1.drew) := ⟨hI.out.1.below ((Below.refl _ _).drew), hI.out.2.1, hI.out.2.2.drew⟩
      generalize w1.drew = w2 at *
      clear hI hra hc0 e1 hl
      cases hd : decide (x.id = k) with
      | true =>
        have e2 : r = (i : Int) := by rw [← HR.out, ← HX.out, of_decide_eq_true hd]
        subst e2
        clear hd HX HNX hno
        go_wp2
        go_ret
        exact ⟨rfl, by rw [HK.out]; exact hI2.out.2.2⟩
      | false =>
        have HD := hidMk (of_decide_eq_false hd)
        clear hd HX hno
        go_wp2
        have hq : ((i : Int) + 1) = ((i + 1 : Nat) : Int) := by omega
        rw [hq]
        refine ⟨⟨i + 1, rfl, hi, hI2, HNX.out HD.out⟩, ?_⟩
        show n - ((i + 1 : Nat) : Int).toNat < n - (i : Int).toNat
        omega
    · obtain rfl : n = i := by omega
      have hc0 := hI.out.1.c0
      rw [HV.out] at hc0
      have e2 : r = -1 := by
        rw [← HR.out]
        exact rank_neg (none_has (fun j hj => hno.out j hj (by rw [← HN.out]; exact hj))) false
      subst e2
      clear hno
      go_upto_region 3 with fail
      refine dfin3 (g := false) _ _ _ rfl rfl rfl hc0 (decide_eq_false (by omega)) ?_
      intro a' w1 hw ha
      subst ha
      obtain rfl : w1 = wr := hw
      simp only [Act.put, List.setIfInBounds_toArray, List.set_cons_zero, List.set_cons_succ]
      clear hc0
      go_wp2
      go_ret
      exact ⟨rfl, by rw [HK.out]; exact hI.out.2.2⟩
theorem find_nil (w : World) {k : IdK} (hk : k.ok) : Calls Try.prog 38 #[.pointer none, k.v] w fun e w' => e = .returned (.int .i64 (-1)) ∧ Below w.heap.size w w' := by
  have bx : Below w.heap.size w (w.alloc (.cells k.c.toArray 32)) := (Below.refl _ _).alloc (Nat.le_refl _) _
  show Calls Try.prog 38 #[.pointer none, .agg k.c.toArray] w _
  go_enter Try.func38, Try.ntmps38
  go_wp2
  go_ret
  exact ⟨rfl, bx⟩
theorem rfind_ref {w : World} {base : Nat} {pv : Value} {R : List Elt} (h : RefV w base pv R) {k : IdK} (hk : k.ok) : Calls Try.prog 38 #[pv, k.v] w fun e w' => e = .returned (.int .i64 (aheadE R false k)) ∧ Below w.heap.size w w' := by
  rcases h with ⟨rfl, rfl⟩ | ⟨d, v, rfl, h⟩
  · exact find_nil w hk
  · exact find_at h hk
theorem RowT.Own.zero {κ : Type} {R : RowT κ} (I : R.Is) {w : World} {base : Nat} {v : Value} {L : List κ} (h : R.Own w base v L) (ok : ∀ h ∈ L, R.ok h) {i : Nat} (hi : i < L.length) : ∃ g cap, v = .slice (some ⟨g, 0, none⟩) L.length cap ∧ w.rangeAt g (R.k * i) (R.c L[i]) := by
  rcases h.2 with ⟨rfl, hn⟩ | ⟨g, cap, cur, rfl, hbg, hg, hnc, hcm, hcs, htake⟩
  · omega
  · refine ⟨g, cap, rfl, fun j u hj => ?_⟩
    have e := RowT.flat_get I ok (List.getElem?_eq_getElem hi) hj
    rw [cell_of_row w g _ cur R.e (0, 0) hg]
    rw [← htake, List.getElem?_take] at e
    split at e
    · simpa using e
    · cases e
theorem row_wf {R : List Elt} (h : RefOk R) : ∀ e ∈ rowR R, RE.ok e := fun e he => ⟨(h.row.ok e he).1, (h.row.ok e he).2.1⟩
theorem row_len (R : List Elt) : (rowR R).length = R.length := (rowR_perm R).length_eq
structure RwI (w : World) (l : List Elt) (lv : Value) (wr : World) : Prop where
  own : RE.Own wr w.heap.size lv l
  bel : Below w.heap.size w wr
theorem RwI.slice {w wr : World} {l : List Elt} {lv : Value} (h : RwI w l lv wr) (ok : ∀ e ∈ l, RE.ok e) : ∃ a c, lv = .slice a l.length c := by
  obtain ⟨a, c, e, _⟩ := h.own.open RE_is ok
  exact ⟨a, c, e⟩
theorem RwI.push {w wr : World} {l : List Elt} {lv : Value} (h : RwI w l lv wr) {x : Elt} (hx : x.wf) (hl : l.length ≤ 1400000000000) :
    ∃ sv w1 v2 w2, (Instr.buildSlice 71 1 #[(0, .agg x.c.toArray)]).run Try.prog wr = .ok sv w1 ∧ (Builtin.append_ #[71, 71] 71 #[lv, sv]).run Try.prog w1 = .ok v2 w2 ∧ RwI w (l ++ [x]) v2 w2 := by
  obtain ⟨sv, w1, v2, w2, e1, e2, o, b1, z1, g, q⟩ := RowT.run_push RE_is wr w.heap.size lv l x h.own hx (by unfold maxLen; omega) (by show _ * 88 ≤ _; omega) h.bel.size
  refine ⟨sv, w1, v2, w2, e1, e2, o, ?_⟩
  have b2 : Below w.heap.size w w1 := h.bel.trans (b1.mono h.bel.size)
  exact ⟨g.os.trans b2.os, g.tape.trans b2.tape, g.output.trans b2.output, Nat.le_trans b2.size g.size, fun k hk => (g.block k (Nat.lt_of_lt_of_le hk b2.size) (fun e => by
    have := (h.own.cells (k := k) (by rw [← e])).1; omega)).trans (b2.block k hk)⟩
theorem RwI.set {w wr : World} {l : List Elt} {lv : Value} (h : RwI w l lv wr) (ok : ∀ e ∈ l, RE.ok e) {i : Nat} (hi : i < l.length) {x : Elt} (hx : x.wf) :
    ∃ g cap, lv = .slice (some ⟨g, 0, none⟩) l.length cap ∧ ∃ w2, (Instr.storeAt 78 (.pointer (some ⟨g, 67 * i, none⟩)) (.agg x.c.toArray)).run Try.prog wr = .ok () w2 ∧ RwI w (l.set i x) lv w2 := by
  obtain ⟨g, cap, e, hg, w2, e2, o, t, z⟩ := RowT.own_set RE_is h.own ok hi hx
  refine ⟨g, cap, e, w2, e2, o, h.bel.trans (t.below h.bel.size (fun k hk => (h.own.cells hk).1))⟩
theorem RwI.drew {w wr : World} {l : List Elt} {lv : Value} (h : RwI w l lv wr) : RwI w l lv wr.drew := ⟨h.own.below ((Below.refl _ _).drew), h.bel.drew⟩
set_option maxHeartbeats 8000000 in
theorem row_at {w : World} {base d : Nat} {v : Value} {R : List Elt} (h : RefAt w base d v R) : Calls Try.prog 67 #[.pointer (some ⟨d, 0, none⟩)] w fun e w' => ∃ v, e = .returned v ∧ RE.Own w' w.heap.size v (rowR R) ∧ Below w.heap.size w w' := by
  obtain ⟨n, hn⟩ : ∃ n, R.length = n := ⟨_, rfl⟩
  have hN := h.len
  rw [hn] at hN
  have HN := hidMk hn
  have HH := hidMk h
  have st0 : Hid (RwI w (rowR (R.take 0)) (.slice none 0 0) w) := ⟨RowT.own_nil RE _ _, Below.refl _ _⟩
  clear hn
  go_enter Try.func67, Try.ntmps67
  go_wp2
  go_loopw [3, 4] (fun v3 v4 wr => ∃ (i : Nat) (lv : Value), lv = v3 ∧ v4 = .int .i64 (i : Int) ∧ i ≤ n ∧ Hid (RwI w (rowR (R.take i)) lv wr)) (fun v3 v4 wr => n - (match v4 with | .int _ i => i.toNat | _ => 0))
  case atStart => exact ⟨0, _, rfl, rfl, Nat.zero_le _, st0⟩
  case round =>
    clear st0
    obtain ⟨i, lv, rfl, rfl, hin, hI⟩ := hrel
    have href : RefAt wr base d v R := HH.out.below hI.out.bel
    obtain ⟨ea, ec, ev, _⟩ := href.open
    rw [HN.out] at ev
    have hc0 := href.c0
    rw [ev] at hc0
    by_cases hi : i < n
    · have hi' : i < R.length := by rw [HN.out]; exact hi
      have hsp : R = R.take i ++ R[i] :: R.drop (i + 1) := by rw [List.getElem_cons_drop]; exact (List.take_append_drop i R).symm
      have hTk : Hid (R.take (i + 1) = R.take i ++ [R[i]]) := by show _ = _; rw [List.take_add_one, List.getElem?_eq_getElem hi']; rfl
      have okT : RefOk (R.take i) := by have := h.ok; rw [hsp] at this; exact this.left
      have hbh := h.ok.bh (R.take i) R[i] (R.drop (i + 1)) hsp
      obtain ⟨eb, eo, ec2, e1, hl, hwf, hra⟩ := HH.out.get hi'
      rw [HN.out] at e1
      have hrl : (rowR (R.take i)).length = i := by rw [row_len, List.length_take]; omega
      have HWL := hidMk (row_wf okT)
      have HNX : Hid (∀ a, AtIs (rowR (R.take i)) R[i].bh i a → rowR (R.take (i + 1)) = (rowR (R.take i)).take a ++ R[i] :: (rowR (R.take i)).drop a) := fun a q => by
        rw [hTk.out, rowR_snoc]
        exact put_at okT.row.nd (fun e he => (okT.row.ok e he).2.2) (by rw [has_row]; exact hbh) (by rw [hrl]; exact q) _
      obtain ⟨l, hl2⟩ : ∃ l, rowR (R.take i) = l := ⟨_, rfl⟩
      rw [hl2] at hI hrl HWL HNX
      have HRL := hidMk hrl
      have HEV := hidMk e1
      have HRA : Hid (∀ W, Below w.heap.size w W → W.heap[d]? = some (.cells #[.slice (some ⟨eb, eo, none⟩) n ec2] 73 (0, 0)) ∧ W.rangeAt eb (eo + 67 * i) R[i].c) := fun W b => ⟨by
          have := (HH.out.below b).c0
          rw [HEV.out] at this
          exact this, rangeAt_below hra b hl⟩
      generalize R[i] = x at *
      obtain ⟨l', hl'⟩ : ∃ l', rowR (R.take (i + 1)) = l' := ⟨_, rfl⟩
      rw [hl'] at HNX
      have HL' := hidMk hl'
      clear hl'
      clear hsp hTk okT hbh hl2 hrl hra ev href e1 hl
      go_upto_region 5 with fail
      refine drow5 (g := true) _ _ _ rfl rfl rfl hc0 (decide_eq_true (by omega)) ?_
      intro a' w1 hw ha
      subst ha
      obtain rfl : w1 = wr := hw
      simp only [Act.put, List.setIfInBounds_toArray, List.set_cons_zero, List.set_cons_succ]
      clear hc0
      generalize w1 = w2 at *
      go_wp2
      go_loopw [5, 6] (fun v5 v6 wr => ∃ (at' j : Nat), v5 = .int .i64 (at' : Int) ∧ v6 = .int .i64 (j : Int) ∧ j ≤ i ∧ Hid (RwI w l lv wr) ∧ Hid (AtIs l x.bh j at')) (fun v5 v6 wr => i - (match v6 with | .int _ i => i.toNat | _ => 0))
      case atStart => exact ⟨0, 0, rfl, rfl, Nat.zero_le _, hI, AtIs.zero _ _⟩
      case round =>
        clear hI
        obtain ⟨at', j, rfl, rfl, hji, hJ, hat⟩ := hrel
        by_cases hj : j < i
        · have hj' : j < l.length := by rw [HRL.out]; exact hj
          obtain ⟨lb, lc, e1, hr2⟩ := hJ.out.own.zero RE_is HWL.out hj'
          rw [HRL.out] at e1
          obtain rfl := e1
          have hy : l[j].wf := HWL.out _ (List.getElem_mem hj')
          have HIT : Hid (l[j].id = x.bh → AtIs l x.bh (j + 1) (j + 1)) := fun q => AtIs.hit hj' q
          have MIS : Hid (l[j].id ≠ x.bh → AtIs l x.bh (j + 1) at') := fun q => AtIs.miss hj' q hat.out
          generalize l[j] = y at *
          obtain ⟨r1, r2⟩ := HRA.out _ hJ.out.bel
          go_upto_region 11 with fail
          refine drow11 (x := x) (y := y) (q := i) (j := j) (g := decide (y.id = x.bh)) _ _ _ rfl rfl rfl rfl rfl hwf hi (by omega) hy hj (by omega) rfl r1 r2 hr2 ?_
          intro a' w3 hw ha
          subst ha
          obtain rfl : w3 = wr.drew := hw
          simp only [Act.put, List.setIfInBounds_toArray, List.set_cons_zero, List.set_cons_succ]
          have hJ2 := hidMk hJ.out.drew
          generalize wr.drew = w3 at *
          clear hJ r1 r2 hr2 hat
          cases hd : decide (y.id = x.bh) with
          | true =>
            have H2 := hidMk (HIT.out (of_decide_eq_true hd))
            clear hd HIT MIS
            go_wp2
            have hq : ((j : Int) + 1) = ((j + 1 : Nat) : Int) := by omega
            rw [hq]
            refine ⟨⟨j + 1, j + 1, rfl, rfl, hj, hJ2, H2⟩, ?_⟩
            show i - ((j + 1 : Nat) : Int).toNat < i - (j : Int).toNat
            omega
          | false =>
            have H2 := hidMk (MIS.out (of_decide_eq_false hd))
            clear hd HIT MIS
            go_wp2
            have hq : ((j : Int) + 1) = ((j + 1 : Nat) : Int) := by omega
            rw [hq]
            refine ⟨⟨at', j + 1, rfl, rfl, hj, hJ2, H2⟩, ?_⟩
            show i - ((j + 1 : Nat) : Int).toNat < i - (j : Int).toNat
            omega
        · obtain rfl : i = j := by omega
          have ale := hat.out.le
          rw [HRL.out] at ale
          have HL2 := hidMk (HNX.out _ hat.out)
          obtain ⟨la, lc, e1⟩ := hJ.out.slice HWL.out
          rw [HRL.out] at e1
          obtain rfl := e1
          obtain ⟨sv, w3, v2, w4, e2, e3, P4⟩ := hJ.out.push zElt_wf (by have := HRL.out; omega)
          go_upto_region 13 with fail
          refine drow13 (lv := .slice la i lc) _ _ _ rfl rfl e2 e3 ?_
          intro a' w5 hw ha
          subst ha
          obtain rfl : w5 = w4 := hw
          simp only [Act.put, List.setIfInBounds_toArray, List.set_cons_zero, List.set_cons_succ]
          have P5 : RwI w (l.take i ++ zElt :: l.drop i) v2 w5 := by
            have e5 : l.take i ++ zElt :: l.drop i = l ++ [zElt] := by rw [List.take_of_length_le (by rw [HRL.out]; exact Nat.le_refl _), List.drop_of_length_le (by rw [HRL.out]; exact Nat.le_refl _)]
            rw [e5]; exact P4
          have HWS : Hid (∀ (kk : Nat) (y : Elt), y.wf → ∀ e ∈ l.take kk ++ y :: l.drop kk, RE.ok e) := fun kk y hy e he => by
            rcases List.mem_append.1 he with q | q
            · exact HWL.out e (List.mem_of_mem_take q)
            · rcases List.mem_cons.1 q with rfl | q
              · exact hy
              · exact HWL.out e (List.mem_of_mem_drop q)
          have hsl : ∀ kk y, kk ≤ i → (l.take kk ++ y :: l.drop kk).length = i + 1 := fun kk y hk => by rw [shift_len l (by rw [HRL.out]; exact hk), HRL.out]
          have HSL := hidMk hsl
          obtain ⟨ga, gc, e6⟩ := P5.slice (HWS.out i zElt zElt_wf)
          rw [hsl i zElt (Nat.le_refl _)] at e6
          obtain rfl := e6
          have st2 : Hid (∃ y : Elt, y.wf ∧ RwI w (l.take i ++ y :: l.drop i) (.slice ga (i + 1) gc) w5) := ⟨zElt, zElt_wf, P5⟩
          clear P4 P5 hJ e2 e3 hat hsl hji
          generalize wr = w6 at *
          go_wp2
          have hq0 : ((i : Int) + 1 - 1) = (i : Int) := by omega
          try rw [hq0]
          go_loopw [7] (fun v7 wr => ∃ (kk : Nat), v7 = .int .i64 (kk : Int) ∧ at' ≤ kk ∧ kk ≤ i ∧ Hid (∃ y : Elt, y.wf ∧ RwI w (l.take kk ++ y :: l.drop kk) (.slice ga (i + 1) gc) wr)) (fun v7 wr => (match v7 with | .int _ i => i.toNat | _ => 0))
          case atStart => exact ⟨i, rfl, ale.2, Nat.le_refl _, st2⟩
          case round =>
            clear st2
            obtain ⟨kk, rfl, hka, hki, hK⟩ := hrel
            obtain ⟨y, hy, hK2⟩ := hK.out
            by_cases hk : at' < kk
            · obtain ⟨j, rfl⟩ : ∃ j, kk = j + 1 := ⟨kk - 1, by omega⟩
              have hjl : j < l.length := by have := HRL.out; omega
              have hz : l[j].wf := HWL.out _ (List.getElem_mem hjl)
              obtain ⟨lb, cap, e1, w7, e2, P7⟩ := hK2.set (HWS.out _ y hy) (i := j + 1) (by rw [HSL.out _ _ hki]; omega) hz
              rw [HSL.out _ _ hki] at e1
              cases e1
              have hget : (l.take (j + 1) ++ y :: l.drop (j + 1))[j]? = some l[j] := by
                have := shift_get (l := l) (k := j + 1) (by omega) (by omega) y
                simpa using this
              obtain ⟨hjx, hje⟩ := List.getElem?_eq_some_iff.1 hget
              obtain ⟨g2, c2, e3, hr3⟩ := hK2.own.zero RE_is (HWS.out _ y hy) hjx
              rw [hje] at hr3
              rw [HSL.out _ _ hki] at e3
              cases e3
              have P8 : RwI w (l.take j ++ l[j] :: l.drop j) (.slice (some ⟨lb, 0, none⟩) (i + 1) gc) w7 := by
                have := shift_step (l := l) (k := j + 1) (by omega) (by omega) y
                simp only [Nat.add_sub_cancel] at this
                rw [this] at P7
                exact P7
              have hz2 : Hid (∃ y : Elt, y.wf ∧ RwI w (l.take j ++ y :: l.drop j) (.slice (some ⟨lb, 0, none⟩) (i + 1) gc) w7) := ⟨l[j], hz, P8⟩
              clear P7 P8
              generalize l[j] = z at *
              go_upto_region 17 with fail
              refine drow17 (y := z) (q := i + 1) (j := j) _ _ _ rfl rfl rfl hz (by omega) (by omega) hr3 e2 ?_
              intro a' w8 hw ha
              subst ha
              obtain rfl : w8 = w7 := hw
              simp only [Act.put, List.setIfInBounds_toArray, List.set_cons_zero, List.set_cons_succ]
              clear hr3 hget hjx hje e2 hK2 hK
              go_wp2
              have hq : (((j + 1 : Nat) : Int) - 1) = (j : Int) := by omega
              try rw [hq]
              have hq2 : ((j : Int) + 1 - 1) = (j : Int) := by omega
              try rw [hq2]
              refine ⟨⟨j, rfl, by omega, by omega, hz2⟩, ?_⟩
              show (j : Int).toNat < ((j + 1 : Nat) : Int).toNat
              omega
            · obtain rfl : at' = kk := by omega
              obtain ⟨lb, cap, e1, w7, e2, P7⟩ := hK2.set (HWS.out _ y hy) (i := at') (by rw [HSL.out _ _ hki]; omega) hwf
              rw [HSL.out _ _ hki] at e1
              cases e1
              rw [shift_last (by rw [HRL.out]; exact hki), ← HL2.out] at P7
              have HP := hidMk P7
              obtain ⟨r1, r2⟩ := HRA.out _ hK2.bel
              go_upto_region 18 with fail
              refine drow18 (x := x) (q := i + 1) (p := at') _ _ _ rfl rfl rfl rfl rfl hwf hi (by omega) (by omega) (by omega) r1 r2 e2 ?_
              intro a' w8 hw ha
              subst ha
              obtain rfl : w8 = w7 := hw
              simp only [Act.put, List.setIfInBounds_toArray, List.set_cons_zero, List.set_cons_succ]
              clear P7 e2 hK2 hK r1 r2 HL2 HNX
              go_wp2
              have hq : ((i : Int) + 1) = ((i + 1 : Nat) : Int) := by omega
              rw [hq]
              refine ⟨⟨i + 1, _, rfl, rfl, hi, by rw [HL'.out]; exact HP⟩, ?_⟩
              show n - ((i + 1 : Nat) : Int).toNat < n - (i : Int).toNat
              omega
    · obtain rfl : n = i := by omega
      rw [List.take_of_length_le (by rw [HN.out]; exact Nat.le_refl _)] at hI
      go_upto_region 5 with fail
      refine drow5 (g := false) _ _ _ rfl rfl rfl hc0 (decide_eq_false (by omega)) ?_
      intro a' w1 hw ha
      subst ha
      obtain rfl : w1 = wr := hw
      simp only [Act.put, List.setIfInBounds_toArray, List.set_cons_zero, List.set_cons_succ]
      clear hc0 ev href
      go_wp2
      go_ret
      exact ⟨_, rfl, hI.out.own, hI.out.bel⟩
theorem row_nil (w : World) : Calls Try.prog 67 #[.pointer none] w fun e w' => ∃ v, e = .returned v ∧ RE.Own w' w.heap.size v [] ∧ Below w.heap.size w w' := by
  go_enter Try.func67, Try.ntmps67
  go_wp2
  go_ret
  exact ⟨_, rfl, RowT.own_nil RE _ _, Below.refl _ _⟩
theorem row_ref {w : World} {base : Nat} {pv : Value} {R : List Elt} (h : RefV w base pv R) : Calls Try.prog 67 #[pv] w fun e w' => ∃ a c, e = .returned (.slice a (rowR R).length c) ∧ RE.Own w' w.heap.size (.slice a (rowR R).length c) (rowR R) ∧ Below w.heap.size w w' := by
  have hw := row_wf h.ok.1
  have : Calls Try.prog 67 #[pv] w fun e w' => ∃ v, e = .returned v ∧ RE.Own w' w.heap.size v (rowR R) ∧ Below w.heap.size w w' := by
    rcases h with ⟨rfl, rfl⟩ | ⟨d, v, rfl, h⟩
    · exact row_nil w
    · exact row_at h
  refine this.mono ?_
  rintro e w' ⟨v, rfl, o, b⟩
  obtain ⟨a, c, rfl, _⟩ := o.open RE_is hw
  exact ⟨a, c, rfl, o, b⟩
structure IdI (w : World) (L : List Elt) (rv : Value) (l : List IdK) (lv : Value) (wr : World) : Prop where
  row : RE.Own wr w.heap.size rv L
  own : OwnI wr w.heap.size lv l
  bel : Below w.heap.size w wr
theorem OwnI.blk {w : World} {base : Nat} {v : Value} {l : List IdK} (h : OwnI w base v l) {k : Nat} (hk : v.ownBlock = some k) : base ≤ k ∧ ∃ c, w.heap[k]? = some (.cells c 32 (0, 0)) := by
  rcases h.2 with ⟨rfl, _⟩ | ⟨g, cap, cur, rfl, hb, hg, _⟩
  · cases hk
  · simp only [Value.ownBlock, Option.some.injEq] at hk
    subst hk
    exact ⟨hb, _, hg⟩
theorem IdI.push {w wr : World} {L : List Elt} {rv : Value} {l : List IdK} {lv : Value} (h : IdI w L rv l lv wr) {x : IdK} (hx : x.ok) (hl : l.length ≤ 1400000000000) :
    ∃ sv w1 v2 w2, (Instr.buildSlice 47 1 #[(0, x.v)]).run Try.prog wr = .ok sv w1 ∧ (Builtin.append_ #[47, 47] 47 #[lv, sv]).run Try.prog w1 = .ok v2 w2 ∧ IdI w L rv (l ++ [x]) v2 w2 := by
  have b1 : Below wr.heap.size wr (wr.alloc (.cells (IdK.c x).toArray 32)) := (Below.refl _ _).alloc (Nat.le_refl _) _
  obtain ⟨v2, w2, e2, o2, g, q⟩ := run_appI _ w.heap.size lv l _ [x] 1 (h.own.below b1) (ids_lit wr x 32) (fun y hy => by rw [List.mem_singleton.1 hy]; exact hx) (by simp; omega) (Nat.le_trans h.bel.size b1.size)
  refine ⟨_, _, v2, w2, run_bsI x hx wr, e2, ?_, o2, ?_⟩
  · refine (h.row.below b1).keep (fun k hk => ?_)
    refine g.block k ((h.row.below b1).lt hk) (fun e => ?_)
    obtain ⟨_, c1, q1⟩ := (h.row.below b1).cells hk
    obtain ⟨_, c2, q2⟩ := (h.own.below b1).blk e.symm
    rw [q1] at q2
    simp [RE] at q2
  · have b2 : Below w.heap.size w (wr.alloc (.cells (IdK.c x).toArray 32)) := h.bel.trans (b1.mono h.bel.size)
    exact b2.grown g b2.size (fun k hk => (h.own.blk hk).1)
theorem IdI.get {w wr : World} {L : List Elt} {rv : Value} {l : List IdK} {lv : Value} (h : IdI w L rv l lv wr) (ok : ∀ e ∈ L, RE.ok e) {i : Nat} (hi : i < L.length) : ∃ eb ec, rv = .slice (some ⟨eb, 0, none⟩) L.length ec ∧ wr.rangeAt eb (0 + 67 * i) L[i].c := by
  obtain ⟨g, cap, e, hr⟩ := h.row.zero RE_is ok hi
  exact ⟨g, cap, e, by rw [Nat.zero_add]; exact hr⟩
theorem vis_take (L : List Elt) (c : Bool) {i : Nat} (hi : i < L.length) : idsE (L.take (i + 1)) c = idsE (L.take i) c ++ (if cE c L[i] = true then [L[i].id] else []) := by
  unfold idsE visE
  rw [List.take_add_one, List.getElem?_eq_getElem hi, Option.toList, List.filter_append, List.map_append, List.filter_cons, List.filter_nil]
  split <;> rfl
theorem ids_len (L : List Elt) (c : Bool) : (idsE L c).length ≤ L.length := by
  unfold idsE
  rw [List.length_map]
  exact List.length_filter_le _ _
theorem idsE_ok {L : List Elt} (ok : ∀ e ∈ L, RE.ok e) (c : Bool) : ∀ x ∈ idsE L c, x.ok := fun x hx => by
  obtain ⟨e, he, rfl⟩ := List.mem_map.1 hx
  exact (ok e (List.mem_filter.1 he).1).1
section
variable {w : World} {base : Nat} {pv : Value} {R : List Elt}
theorem ids_own (h : RefV w base pv R) : Calls Try.prog 46 #[pv] w fun e w' => ∃ v, e = .returned v ∧ OwnI w' w.heap.size v (idsE (rowR R) false) ∧ Below w.heap.size w w' := by
  have HR := hidMk (row_ref h)
  have HWF := hidMk (row_wf h.ok.1)
  have hln : (rowR R).length ≤ 1400000000000 := by rw [row_len]; exact h.ok.2
  generalize rowR R = L at *
  obtain ⟨n, hn⟩ : ∃ n, L.length = n := ⟨_, rfl⟩
  rw [hn] at HR hln
  have HN := hidMk hn
  clear hn h
  go_enter Try.func46, Try.ntmps46
  go_wp2_with (first
    | (go_at_call 67; refine HR.out.mono ?_; rintro e w1 ⟨ra, rc, rfl, o1, b1⟩)
    | fail)
  have st0 : Hid (IdI w L (.slice ra n rc) (idsE (L.take 0) false) (.slice none 0 0) w1) := ⟨o1, ⟨by simp [idsE, visE, flatI], .inl ⟨rfl, by simp [idsE, visE]⟩⟩, b1⟩
  clear o1 b1 HR
  go_loopw [3, 5] (fun v3 v5 wr => ∃ (i : Nat) (lv : Value), lv = v3 ∧ v5 = .int .i64 (i : Int) ∧ i ≤ n ∧ Hid (IdI w L (.slice ra n rc) (idsE (L.take i) false) lv wr)) (fun v3 v5 wr => n - (match v5 with | .int _ i => i.toNat | _ => 0))
  case atStart => exact ⟨0, _, rfl, rfl, Nat.zero_le _, st0⟩
  case round =>
    clear st0
    obtain ⟨i, lv, rfl, rfl, hin, hI⟩ := hrel
    by_cases hi : i < n
    · have hi' : i < L.length := by rw [HN.out]; exact hi
      obtain ⟨eb, ec, e1, hra⟩ := hI.out.get HWF.out hi'
      rw [HN.out] at e1
      cases e1
      have hwf : L[i].wf := HWF.out _ (List.getElem_mem hi')
      have HT := hidMk (vis_take L false hi')
      have hll : (idsE (L.take i) false).length ≤ 1400000000000 := by
        have h1 := ids_len (L.take i) false
        rw [List.length_take] at h1
        omega
      obtain ⟨sv, w2, v2, w3, e2, e3, P3⟩ := hI.out.push hwf.1 hll
      have HP : Hid (IdI w L (.slice (some ⟨eb, 0, none⟩) n rc) (idsE (L.take (i + 1)) false) v2 w3) := by
        rw [HT.out, show (if cE false L[i] = true then [L[i].id] else []) = [L[i].id] from rfl]; exact P3
      clear P3
      generalize L[i] = x at *
      go_upto_region 6 with fail
      refine dids6 (x := x) (lv := lv) _ _ _ rfl rfl rfl rfl hwf hi (by omega) hra e2 e3 ?_
      intro a' w4 hw ha
      subst ha
      obtain rfl : w4 = w3 := hw
      simp only [Act.put, List.setIfInBounds_toArray, List.set_cons_zero, List.set_cons_succ]
      clear e2 e3 hI hra hll
      go_wp2
      have hq : ((i : Int) + 1) = ((i + 1 : Nat) : Int) := by omega
      rw [hq]
      refine ⟨⟨i + 1, _, rfl, rfl, hi, HP⟩, ?_⟩
      show n - ((i + 1 : Nat) : Int).toNat < n - (i : Int).toNat
      omega
    · obtain rfl : n = i := by omega
      rw [List.take_of_length_le (by rw [HN.out]; exact Nat.le_refl _)] at hI
      go_wp2
      go_ret
      exact ⟨_, rfl, hI.out.own, hI.out.bel⟩
theorem ids_ref (h : RefV w base pv R) : Calls Try.prog 46 #[pv] w fun e w' => ∃ a c, e = .returned (.slice a (idsE (rowR R) false).length c) ∧ OwnI w' w.heap.size (.slice a (idsE (rowR R) false).length c) (idsE (rowR R) false) ∧ Below w.heap.size w w' := by
  refine (ids_own h).mono ?_
  rintro e w' ⟨v, rfl, o, b⟩
  obtain ⟨a, c, rfl, _⟩ := o.open (idsE_ok (row_wf h.ok.1) _)
  exact ⟨a, c, rfl, o, b⟩
theorem live_own (h : RefV w base pv R) : Calls Try.prog 47 #[pv] w fun e w' => ∃ v, e = .returned v ∧ OwnI w' w.heap.size v (idsE (rowR R) true) ∧ Below w.heap.size w w' := by
  have HR := hidMk (row_ref h)
  have HWF := hidMk (row_wf h.ok.1)
  have hln : (rowR R).length ≤ 1400000000000 := by rw [row_len]; exact h.ok.2
  generalize rowR R = L at *
  obtain ⟨n, hn⟩ : ∃ n, L.length = n := ⟨_, rfl⟩
  rw [hn] at HR hln
  have HN := hidMk hn
  clear hn h
  go_enter Try.func47, Try.ntmps47
  go_wp2_with (first
    | (go_at_call 67; refine HR.out.mono ?_; rintro e w1 ⟨ra, rc, rfl, o1, b1⟩)
    | fail)
  have st0 : Hid (IdI w L (.slice ra n rc) (idsE (L.take 0) true) (.slice none 0 0) w1) := ⟨o1, ⟨by simp [idsE, visE, flatI], .inl ⟨rfl, by simp [idsE, visE]⟩⟩, b1⟩
  clear o1 b1 HR
  go_loopw [3, 5] (fun v3 v5 wr => ∃ (i : Nat) (lv : Value), lv = v3 ∧ v5 = .int .i64 (i : Int) ∧ i ≤ n ∧ Hid (IdI w L (.slice ra n rc) (idsE (L.take i) true) lv wr)) (fun v3 v5 wr => n - (match v5 with | .int _ i => i.toNat | _ => 0))
  case atStart => exact ⟨0, _, rfl, rfl, Nat.zero_le _, st0⟩
  case round =>
    clear st0
    obtain ⟨i, lv, rfl, rfl, hin, hI⟩ := hrel
    by_cases hi : i < n
    · have hi' : i < L.length := by rw [HN.out]; exact hi
      obtain ⟨eb, ec, e1, hra⟩ := hI.out.get HWF.out hi'
      rw [HN.out] at e1
      cases e1
      have hwf : L[i].wf := HWF.out _ (List.getElem_mem hi')
      have HT := hidMk (vis_take L true hi')
      have hll : (idsE (L.take i) true).length ≤ 1400000000000 := by
        have h1 := ids_len (L.take i) true
        rw [List.length_take] at h1
        omega
      obtain ⟨sv, w2, v2, w3, e2, e3, P3⟩ := hI.out.push hwf.1 hll
      have HP3 := hidMk P3
      have HTT : Hid (L[i].sh = true → idsE (L.take (i + 1)) true = idsE (L.take i) true ++ [L[i].id]) := fun q => by
        rw [HT.out, if_pos (by simpa [cE] using q)]
      have HTF : Hid (L[i].sh = false → idsE (L.take (i + 1)) true = idsE (L.take i) true) := fun q => by
        rw [HT.out, if_neg (by simp [cE, q]), List.append_nil]
      clear P3 HT
      generalize L[i] = x at *
      go_upto_region 6 with fail
      refine dliv6 (x := x) _ _ _ rfl rfl rfl hwf hi (by omega) hra ?_
      intro a' w4 hw ha
      subst ha
      obtain rfl : w4 = wr := hw
      simp only [Act.put, List.setIfInBounds_toArray, List.set_cons_zero, List.set_cons_succ]
      cases hd : x.sh with
      | true =>
        have HP : Hid (IdI w L (.slice (some ⟨eb, 0, none⟩) n rc) (idsE (L.take (i + 1)) true) v2 w3) := by
          rw [HTT.out hd]; exact HP3
        clear hd HTT HTF
        go_upto_region 7 with fail
        refine dliv7 (x := x) (lv := lv) _ _ _ rfl rfl rfl rfl hwf hi (by omega) hra e2 e3 ?_
        intro a' w5 hw ha
        subst ha
        obtain rfl : w5 = w3 := hw
        simp only [Act.put, List.setIfInBounds_toArray, List.set_cons_zero, List.set_cons_succ]
        clear e2 e3 hI hra hll
        go_wp2
        have hq : ((i : Int) + 1) = ((i + 1 : Nat) : Int) := by omega
        rw [hq]
        refine ⟨⟨i + 1, _, rfl, rfl, hi, HP⟩, ?_⟩
        show n - ((i + 1 : Nat) : Int).toNat < n - (i : Int).toNat
        omega
      | false =>
        have HP : Hid (IdI w L (.slice (some ⟨eb, 0, none⟩) n rc) (idsE (L.take (i + 1)) true) lv w4) := by
          rw [HTF.out hd]; exact hI
        clear hd HTT HTF e2 e3 hI hra hll HP3
        go_wp2
        have hq : ((i : Int) + 1) = ((i + 1 : Nat) : Int) := by omega
        rw [hq]
        refine ⟨⟨i + 1, _, rfl, rfl, hi, HP⟩, ?_⟩
        show n - ((i + 1 : Nat) : Int).toNat < n - (i : Int).toNat
        omega
    · obtain rfl : n = i := by omega
      rw [List.take_of_length_le (by rw [HN.out]; exact Nat.le_refl _)] at hI
      go_wp2
      go_ret
      exact ⟨_, rfl, hI.out.own, hI.out.bel⟩
theorem live_ref (h : RefV w base pv R) : Calls Try.prog 47 #[pv] w fun e w' => ∃ a c, e = .returned (.slice a (idsE (rowR R) true).length c) ∧ OwnI w' w.heap.size (.slice a (idsE (rowR R) true).length c) (idsE (rowR R) true) ∧ Below w.heap.size w w' := by
  refine (live_own h).mono ?_
  rintro e w' ⟨v, rfl, o, b⟩
  obtain ⟨a, c, rfl, _⟩ := o.open (idsE_ok (row_wf h.ok.1) _)
  exact ⟨a, c, rfl, o, b⟩
theorem len_ref (h : RefV w base pv R) : Calls Try.prog 44 #[pv] w fun e w' => e = .returned (.int .i64 ((visE (rowR R) false).length : Int)) ∧ Below w.heap.size w w' := by
  have HR := hidMk (row_ref h)
  have hv : (visE (rowR R) false).length = (rowR R).length := by simp [idsE, visE_all]
  rw [hv]
  generalize (rowR R).length = n at *
  clear hv
  go_enter Try.func44, Try.ntmps44
  go_wp2_with (first
    | (go_at_call 67; refine HR.out.mono ?_; rintro e w1 ⟨ra, rc, rfl, o1, b1⟩)
    | fail)
  go_ret
  exact ⟨rfl, b1⟩
theorem shown_ref (h : RefV w base pv R) : Calls Try.prog 45 #[pv] w fun e w' => e = .returned (.int .i64 ((visE (rowR R) true).length : Int)) ∧ Below w.heap.size w w' := by
  have HR := hidMk (live_ref h)
  have hv : (visE (rowR R) true).length = (idsE (rowR R) true).length := by simp [idsE, visE_all]
  rw [hv]
  generalize (idsE (rowR R) true).length = n at *
  clear hv
  go_enter Try.func45, Try.ntmps45
  go_wp2_with (first
    | (go_at_call 47; refine HR.out.mono ?_; rintro e w1 ⟨ra, rc, rfl, o1, b1⟩)
    | fail)
  go_ret
  exact ⟨rfl, b1⟩
theorem has_ref (h : RefV w base pv R) {k : IdK} (hk : k.ok) : Calls Try.prog 52 #[pv, k.v] w fun e w' => e = .returned (.bool (hasE R k)) ∧ Below w.heap.size w w' := by
  have bx : Below w.heap.size w (w.alloc (.cells k.c.toArray 32)) := (Below.refl _ _).alloc (Nat.le_refl _) _
  have hx := id_new w k
  have HF := hidMk (rfind_ref (h.below bx) hk)
  have HG : Hid (decide (aheadE R false k ≥ 0) = hasE R k) := by
    show _ = _
    cases q : hasE R k with
    | true => exact decide_eq_true (rank_pos q)
    | false => exact decide_eq_false (by rw [rank_neg q]; omega)
  generalize aheadE R false k = r at *
  generalize hasE R k = g at *
  show Calls Try.prog 52 #[pv, .agg k.c.toArray] w _
  go_enter Try.func52, Try.ntmps52
  go_upto_region 1 with fail
  generalize w.alloc (.cells k.c.toArray 32) = wx at *
  have HL := hidMk (load_id hk hx)
  clear hx
  go_wp2_with (first
    | (refine wload wx rfl rfl rfl HL.out rfl ?_)
    | (go_at_call 38; refine HF.out.mono ?_; rintro e w1 ⟨rfl, b1⟩)
    | fail)
  go_ret
  refine ⟨?_, bx.trans (b1.mono bx.size)⟩
  have := HG.out
  subst this
  first | rfl | (congr 2; simp)
theorem rank_ref (h : RefV w base pv R) {k : IdK} (hk : k.ok) : Calls Try.prog 53 #[pv, k.v] w fun e w' => e = .returned (.int .i64 (aheadE (rowR R) false k)) ∧ Below w.heap.size w w' := by
  have bx : Below w.heap.size w (w.alloc (.cells k.c.toArray 32)) := (Below.refl _ _).alloc (Nat.le_refl _) _
  have hx := id_new w k
  have HR := hidMk (row_ref (h.below bx))
  have HWF := hidMk (row_wf h.ok.1)
  have HOK := hidMk h.ok.1.row
  have hln : (rowR R).length ≤ 1400000000000 := by rw [row_len]; exact h.ok.2
  generalize rowR R = L at *
  obtain ⟨n, hn⟩ : ∃ n, L.length = n := ⟨_, rfl⟩
  rw [hn] at HR hln
  have HN := hidMk hn
  obtain ⟨r, hr⟩ : ∃ r, aheadE L false k = r := ⟨_, rfl⟩
  have HRR := hidMk hr
  rw [hr]
  show Calls Try.prog 53 #[pv, .agg k.c.toArray] w _
  clear hr hn h
  go_enter Try.func53, Try.ntmps53
  go_upto_region 1 with fail
  generalize w.alloc (.cells k.c.toArray 32) = wx at *
  obtain ⟨kb, hkb⟩ : ∃ kb, w.heap.size = kb := ⟨_, rfl⟩
  rw [hkb] at hx bx ⊢
  have HK := hidMk hkb
  clear hkb
  go_wp2_with (first
    | (go_at_call 67; refine HR.out.mono ?_; rintro e w1 ⟨ra, rc, rfl, o1, b1⟩)
    | fail)
  have st0 : Hid (RE.Own w1 wx.heap.size (.slice ra n rc) L ∧ IdAt w1 kb k ∧ Below kb w w1) := ⟨o1, hx.below b1, bx.trans (b1.mono (by rw [← HK.out]; exact bx.size))⟩
  clear o1 b1 HR hx bx
  go_loopw [6] (fun v6 wr => ∃ (i : Nat), v6 = .int .i64 (i : Int) ∧ i ≤ n ∧ Hid (RE.Own wr wx.heap.size (.slice ra n rc) L ∧ IdAt wr kb k ∧ Below kb w wr) ∧ Hid (∀ j (hj : j < L.length), j < i → L[j].id ≠ k)) (fun v6 wr => n - (match v6 with | .int _ i => i.toNat | _ => 0))
  case atStart => exact ⟨0, rfl, Nat.zero_le _, st0, fun j hj h => by omega⟩
  case round =>
    clear st0
    obtain ⟨i, rfl, hin, hI, hno⟩ := hrel
    by_cases hi : i < n
    · have hi' : i < L.length := by rw [HN.out]; exact hi
      obtain ⟨eb, ec, e1, hra⟩ := hI.out.1.zero RE_is HWF.out hi'
      rw [HN.out] at e1
      cases e1
      have hra2 : wr.rangeAt eb (0 + 67 * i) L[i].c := by rw [Nat.zero_add]; exact hra
      have hwf : L[i].wf := HWF.out _ (List.getElem_mem hi')
      have HX := hidMk (ahead_get HOK.out false hi')
      have HC := hidMk (cnt_take true hi')
      have HNX : Hid (L[i].id ≠ k → ∀ j (hj : j < L.length), j < i + 1 → L[j].id ≠ k) := fun q j hj hji => by
        by_cases e : j = i
        · subst e; exact q
        · exact hno.out j hj (by omega)
      have hcE : cE true L[i] = L[i].sh := rfl
      rw [hcE] at HC
      clear hcE
      generalize L[i] = x at *
      have HX2 : Hid ((((L.take i).countP (cE false) : Nat) : Int) = (i : Int)) := by
        show _ = _
        rw [cnt_all, List.length_take, Nat.min_eq_left (by omega)]
      rw [HX2.out] at HX
      clear HX2
      go_upto_region 5 with fail
      refine drnk5 (x := x) (k := k) (g := decide (x.id = k)) _ _ _ rfl rfl rfl rfl hwf hi (by omega) hk rfl hra2 hI.out.2.1 ?_
      intro a' w2 hw ha
      subst ha
      obtain rfl : w2 = wr.drew := hw
      simp only [Act.put, List.setIfInBounds_toArray, List.set_cons_zero, List.set_cons_succ]
      have hI2 : Hid (RE.Own wr.drew wx.heap.size (.slice (some ⟨eb, 0, none⟩) n rc) L ∧ IdAt wr.drew kb k ∧ Below kb w wr.drew) := ⟨hI.out.1.below ((Below.refl _ _).drew), hI.out.2.1, hI.out.2.2.drew⟩
      have hra3 : wr.drew.rangeAt eb (0 + 67 * i) x.c := hra2
      generalize wr.drew = w2 at *
      clear hI hra hra2
      cases hd : decide (x.id = k) with
      | true =>
        have e2 : r = (i : Int) := by rw [← HRR.out, ← HX.out, of_decide_eq_true hd]
        subst e2
        clear hd HX HNX hno HC
        go_wp2
        go_ret
        exact ⟨rfl, by rw [HK.out]; exact hI2.out.2.2⟩
      | false =>
        have HD := hidMk (of_decide_eq_false hd)
        clear hd HX hno
        go_wp2
        have hq : ((i : Int) + 1) = ((i + 1 : Nat) : Int) := by omega
        rw [hq]
        refine ⟨⟨i + 1, rfl, hi, hI2, HNX.out HD.out⟩, ?_⟩
        show n - ((i + 1 : Nat) : Int).toNat < n - (i : Int).toNat
        omega
    · obtain rfl : n = i := by omega
      have e2 : r = -1 := by
        rw [← HRR.out]
        exact rank_neg (none_has (fun j hj => hno.out j hj (by rw [← HN.out]; exact hj))) _
      subst e2
      clear hno
      go_wp2
      go_ret
      exact ⟨rfl, by rw [HK.out]; exact hI.out.2.2⟩
theorem index_ref (h : RefV w base pv R) {k : IdK} (hk : k.ok) : Calls Try.prog 54 #[pv, k.v] w fun e w' => e = .returned (.int .i64 (aheadE (rowR R) true k)) ∧ Below w.heap.size w w' := by
  have bx : Below w.heap.size w (w.alloc (.cells k.c.toArray 32)) := (Below.refl _ _).alloc (Nat.le_refl _) _
  have hx := id_new w k
  have HR := hidMk (row_ref (h.below bx))
  have HWF := hidMk (row_wf h.ok.1)
  have HOK := hidMk h.ok.1.row
  have hln : (rowR R).length ≤ 1400000000000 := by rw [row_len]; exact h.ok.2
  generalize rowR R = L at *
  obtain ⟨n, hn⟩ : ∃ n, L.length = n := ⟨_, rfl⟩
  rw [hn] at HR hln
  have HN := hidMk hn
  obtain ⟨r, hr⟩ : ∃ r, aheadE L true k = r := ⟨_, rfl⟩
  have HRR := hidMk hr
  rw [hr]
  show Calls Try.prog 54 #[pv, .agg k.c.toArray] w _
  clear hr hn h
  go_enter Try.func54, Try.ntmps54
  go_upto_region 1 with fail
  generalize w.alloc (.cells k.c.toArray 32) = wx at *
  obtain ⟨kb, hkb⟩ : ∃ kb, w.heap.size = kb := ⟨_, rfl⟩
  rw [hkb] at hx bx ⊢
  have HK := hidMk hkb
  clear hkb
  go_wp2_with (first
    | (go_at_call 67; refine HR.out.mono ?_; rintro e w1 ⟨ra, rc, rfl, o1, b1⟩)
    | fail)
  have st0 : Hid (RE.Own w1 wx.heap.size (.slice ra n rc) L ∧ IdAt w1 kb k ∧ Below kb w w1) := ⟨o1, hx.below b1, bx.trans (b1.mono (by rw [← HK.out]; exact bx.size))⟩
  clear o1 b1 HR hx bx
  go_loopw [6, 7] (fun v6 v7 wr => ∃ (i : Nat), v6 = .int .i64 (((L.take i).countP (cE true) : Nat) : Int) ∧ v7 = .int .i64 (i : Int) ∧ i ≤ n ∧ Hid (RE.Own wr wx.heap.size (.slice ra n rc) L ∧ IdAt wr kb k ∧ Below kb w wr) ∧ Hid (∀ j (hj : j < L.length), j < i → L[j].id ≠ k)) (fun v6 v7 wr => n - (match v7 with | .int _ i => i.toNat | _ => 0))
  case atStart => exact ⟨0, rfl, rfl, Nat.zero_le _, st0, fun j hj h => by omega⟩
  case round =>
    clear st0
    obtain ⟨i, rfl, rfl, hin, hI, hno⟩ := hrel
    by_cases hi : i < n
    · have hi' : i < L.length := by rw [HN.out]; exact hi
      obtain ⟨eb, ec, e1, hra⟩ := hI.out.1.zero RE_is HWF.out hi'
      rw [HN.out] at e1
      cases e1
      have hra2 : wr.rangeAt eb (0 + 67 * i) L[i].c := by rw [Nat.zero_add]; exact hra
      have hwf : L[i].wf := HWF.out _ (List.getElem_mem hi')
      have HX := hidMk (ahead_get HOK.out true hi')
      have HC := hidMk (cnt_take true hi')
      have HNX : Hid (L[i].id ≠ k → ∀ j (hj : j < L.length), j < i + 1 → L[j].id ≠ k) := fun q j hj hji => by
        by_cases e : j = i
        · subst e; exact q
        · exact hno.out j hj (by omega)
      have hcE : cE true L[i] = L[i].sh := rfl
      rw [hcE] at HC
      clear hcE
      generalize L[i] = x at *
      obtain ⟨q, hq0⟩ : ∃ q, (L.take i).countP (cE true) = q := ⟨_, rfl⟩
      have HQL : Hid (q ≤ 1400000000000) := by
        have h1 := List.countP_le_length (p := cE true) (l := L.take i)
        rw [List.length_take] at h1
        show q ≤ _
        omega
      rw [hq0] at HX HC ⊢
      clear hq0
      go_upto_region 6 with fail
      refine didx6 (x := x) (k := k) (g := decide (x.id = k)) _ _ _ rfl rfl rfl rfl hwf hi (by omega) hk rfl hra2 hI.out.2.1 ?_
      intro a' w2 hw ha
      subst ha
      obtain rfl : w2 = wr.drew := hw
      simp only [Act.put, List.setIfInBounds_toArray, List.set_cons_zero, List.set_cons_succ]
      have hI2 : Hid (RE.Own wr.drew wx.heap.size (.slice (some ⟨eb, 0, none⟩) n rc) L ∧ IdAt wr.drew kb k ∧ Below kb w wr.drew) := ⟨hI.out.1.below ((Below.refl _ _).drew), hI.out.2.1, hI.out.2.2.drew⟩
      have hra3 : wr.drew.rangeAt eb (0 + 67 * i) x.c := hra2
      generalize wr.drew = w2 at *
      clear hI hra hra2
      cases hd : decide (x.id = k) with
      | true =>
        have e2 : r = (q : Int) := by rw [← HRR.out, ← HX.out, of_decide_eq_true hd]
        subst e2
        clear hd HX HNX hno HC
        go_wp2
        go_ret
        exact ⟨rfl, by rw [HK.out]; exact hI2.out.2.2⟩
      | false =>
        have HD := hidMk (of_decide_eq_false hd)
        clear hd HX hno
        go_upto_region 8 with fail
        refine didx8 (x := x) _ _ _ rfl rfl rfl hwf hi (by omega) hra3 ?_
        intro a' w3 hw ha
        subst ha
        obtain rfl : w3 = w2 := hw
        simp only [Act.put, List.setIfInBounds_toArray, List.set_cons_zero, List.set_cons_succ]
        clear hra3
        have hql := HQL.out
        cases hs : x.sh with
        | true =>
          rw [hs] at HC
          clear hs
          go_wp2
          have hq : ((i : Int) + 1) = ((i + 1 : Nat) : Int) := by omega
          have hq2 : ((q : Int) + 1) = ((q + 1 : Nat) : Int) := by omega
          rw [hq, hq2]
          refine ⟨⟨i + 1, by rw [HC.out]; rfl, rfl, hi, hI2, HNX.out HD.out⟩, ?_⟩
          show n - ((i + 1 : Nat) : Int).toNat < n - (i : Int).toNat
          omega
        | false =>
          rw [hs] at HC
          clear hs
          go_wp2
          have hq : ((i : Int) + 1) = ((i + 1 : Nat) : Int) := by omega
          rw [hq]
          refine ⟨⟨i + 1, by rw [HC.out]; rfl, rfl, hi, hI2, HNX.out HD.out⟩, ?_⟩
          show n - ((i + 1 : Nat) : Int).toNat < n - (i : Int).toNat
          omega
    · obtain rfl : n = i := by omega
      have e2 : r = -1 := by
        rw [← HRR.out]
        exact rank_neg (none_has (fun j hj => hno.out j hj (by rw [← HN.out]; exact hj))) _
      subst e2
      clear hno
      go_wp2
      go_ret
      exact ⟨rfl, by rw [HK.out]; exact hI.out.2.2⟩
theorem at_ref (h : RefV w base pv R) (z : Int) (hz : -9223372036854775808 ≤ z ∧ z ≤ 9223372036854775807) : Calls Try.prog 50 #[pv, .int .i64 z] w fun e w' => e = .returned (.tuple #[(nthE (rowR R) false z).1.v, .bool (nthE (rowR R) false z).2]) ∧ Below w.heap.size w w' := by
  have hr := id_new w zId
  have bx : Below w.heap.size w (w.alloc (.cells zId.c.toArray 32)) := (Below.refl _ _).alloc (Nat.le_refl _) _
  have zx : (w.alloc (.cells zId.c.toArray 32)).heap.size = w.heap.size + 1 := by simp
  have HL := hidMk (ids_ref (h.below bx))
  have HOK := hidMk (idsE_ok (row_wf h.ok.1) false)
  have hll : (idsE (rowR R) false).length ≤ 1400000000000 := by
    have h1 := ids_len (rowR R) false
    rw [row_len] at h1
    have := h.ok.2
    omega
  have HNT : Hid (nthE (rowR R) false z = if 0 ≤ z ∧ z < ((idsE (rowR R) false).length : Int) then ((idsE (rowR R) false).getD z.toNat zId, true) else (zId, false)) := by
    show _ = _
    unfold nthE
    simp only [idsE, List.length_map]
  generalize nthE (rowR R) false z = res at *
  generalize idsE (rowR R) false = L at *
  obtain ⟨n, hn⟩ : ∃ n, L.length = n := ⟨_, rfl⟩
  rw [hn] at HL hll HNT
  have HN := hidMk hn
  clear hn h
  go_enter Try.func50, Try.ntmps50
  go_upto_region 1 with (first
    | (refine wpList_run rfl (exec_alloc (t := 32) rfl (id_zero _)) ?_)
    | fail)
  generalize w.alloc (.cells zId.c.toArray 32) = wx at *
  have ZX := hidMk zx
  clear zx
  obtain ⟨rb, hrb⟩ : ∃ rb, w.heap.size = rb := ⟨_, rfl⟩
  rw [hrb] at hr bx ⊢
  have HB := hidMk hrb
  clear hrb
  go_upto_region 2 with (first
    | (go_at_call 46; refine HL.out.mono ?_; rintro e w1 ⟨ia, ic, rfl, o1, b1⟩)
    | fail)
  have hr1 := hr.below b1
  have b2 : Below rb w w1 := bx.trans (b1.mono (by rw [← HB.out]; exact bx.size))
  clear HL
  have fin0 : Hid (∀ w2, w2 = w1.setRow rb zId.c.toArray → IdAt w2 rb zId ∧ Below rb w w2) := fun w2 e => by
    subst e
    exact ⟨hr1.set zId, b2.trans (set_below _ (by rw [← HB.out]; exact b2.size) (Nat.le_refl _))⟩
  by_cases hneg : z < 0
  · have hres : res = (zId, false) := by rw [HNT.out, if_neg (by omega)]
    refine dat2a (z := z) _ _ _ rfl rfl rfl (decide_eq_true hneg) ?_
    intro a' w2 hw ha
    subst ha
    obtain rfl : w2 = w1 := hw
    simp only [Act.put, List.setIfInBounds_toArray, List.set_cons_zero, List.set_cons_succ]
    go_upto_region 3 with fail
    refine dat3 _ _ _ rfl rfl (store_id zId_ok zId_ok hr1) ?_
    intro a' w3 hw ha
    subst ha
    obtain ⟨i3, b3⟩ := fin0.out _ hw
    simp only [Act.put, List.setIfInBounds_toArray, List.set_cons_zero, List.set_cons_succ]
    clear fin0 hw
    subst hres
    go_wp2
    refine bodyPost_ret (results_c2 rfl rfl (loadVar_id zId_ok i3)) rfl ?_
    exact ⟨rfl, by rw [HB.out]; exact b3⟩
  · by_cases hbig : z ≥ (n : Int)
    · have hres : res = (zId, false) := by rw [HNT.out, if_neg (by omega)]
      refine dat2b (z := z) (n := n) (g := true) _ _ _ rfl rfl rfl (decide_eq_false hneg) (decide_eq_true hbig) ?_
      intro a' w2 hw ha
      subst ha
      obtain rfl : w2 = w1 := hw
      simp only [Act.put, List.setIfInBounds_toArray, List.set_cons_zero, List.set_cons_succ]
      go_upto_region 3 with fail
      refine dat3 _ _ _ rfl rfl (store_id zId_ok zId_ok hr1) ?_
      intro a' w3 hw ha
      subst ha
      obtain ⟨i3, b3⟩ := fin0.out _ hw
      simp only [Act.put, List.setIfInBounds_toArray, List.set_cons_zero, List.set_cons_succ]
      clear fin0 hw
      subst hres
      go_wp2
      refine bodyPost_ret (results_c2 rfl rfl (loadVar_id zId_ok i3)) rfl ?_
      exact ⟨rfl, by rw [HB.out]; exact b3⟩
    · obtain ⟨i, rfl⟩ : ∃ i : Nat, z = (i : Int) := ⟨z.toNat, by omega⟩
      have hi : i < n := by omega
      have hi' : i < L.length := by rw [HN.out]; exact hi
      have hres : res = (L[i], true) := by
        rw [HNT.out, if_pos (by omega), Int.toNat_natCast, List.getD_eq_getElem?_getD, List.getElem?_eq_getElem hi']; rfl
      have hxo := HOK.out _ (List.getElem_mem hi')
      obtain ⟨ib, io, hl, hrr⟩ : ∃ ib io, ia = some ⟨ib, io, none⟩ ∧ w1.rangeAt ib (io + 33 * i) L[i].c := by
        obtain ⟨a, c, e, ha, _⟩ := o1.open HOK.out
        rw [HN.out] at e
        cases e
        rcases ha with q | ⟨b, o, e, _, hr⟩
        · rw [q] at hi'; cases hi'
        · exact ⟨b, o, e, hr i _ (List.getElem?_eq_getElem hi')⟩
      subst hl
      generalize L[i] = x at *
      refine dat2b (z := (i : Int)) (n := n) (g := false) _ _ _ rfl rfl rfl (decide_eq_false hneg) (decide_eq_false hbig) ?_
      intro a' w2 hw ha
      subst ha
      obtain rfl : w2 = w1 := hw
      simp only [Act.put, List.setIfInBounds_toArray, List.set_cons_zero, List.set_cons_succ]
      go_upto_region 4 with fail
      refine dat4 (x := x) _ _ _ rfl rfl rfl rfl hxo hi hll hrr (store_id zId_ok hxo hr1) ?_
      intro a' w3 hw ha
      subst ha
      obtain rfl : w3 = _ := hw
      simp only [Act.put, List.setIfInBounds_toArray, List.set_cons_zero, List.set_cons_succ]
      have i3 := hr1.set x
      have b3 : Below rb w (w2.setRow rb x.c.toArray) := b2.trans (set_below _ (by rw [← HB.out]; exact b2.size) (Nat.le_refl _))
      generalize w2.setRow rb x.c.toArray = w3 at *
      clear fin0 hrr o1
      subst hres
      go_wp2
      refine bodyPost_ret (results_c2 rfl rfl (loadVar_id hxo i3)) rfl ?_
      exact ⟨rfl, by rw [HB.out]; exact b3⟩
theorem nth_ref (h : RefV w base pv R) (z : Int) (hz : -9223372036854775808 ≤ z ∧ z ≤ 9223372036854775807) : Calls Try.prog 51 #[pv, .int .i64 z] w fun e w' => e = .returned (.tuple #[(nthE (rowR R) true z).1.v, .bool (nthE (rowR R) true z).2]) ∧ Below w.heap.size w w' := by
  have hr := id_new w zId
  have bx : Below w.heap.size w (w.alloc (.cells zId.c.toArray 32)) := (Below.refl _ _).alloc (Nat.le_refl _) _
  have zx : (w.alloc (.cells zId.c.toArray 32)).heap.size = w.heap.size + 1 := by simp
  have HL := hidMk (live_ref (h.below bx))
  have HOK := hidMk (idsE_ok (row_wf h.ok.1) true)
  have hll : (idsE (rowR R) true).length ≤ 1400000000000 := by
    have h1 := ids_len (rowR R) true
    rw [row_len] at h1
    have := h.ok.2
    omega
  have HNT : Hid (nthE (rowR R) true z = if 0 ≤ z ∧ z < ((idsE (rowR R) true).length : Int) then ((idsE (rowR R) true).getD z.toNat zId, true) else (zId, false)) := by
    show _ = _
    unfold nthE
    simp only [idsE, List.length_map]
  generalize nthE (rowR R) true z = res at *
  generalize idsE (rowR R) true = L at *
  obtain ⟨n, hn⟩ : ∃ n, L.length = n := ⟨_, rfl⟩
  rw [hn] at HL hll HNT
  have HN := hidMk hn
  clear hn h
  go_enter Try.func51, Try.ntmps51
  go_upto_region 1 with (first
    | (refine wpList_run rfl (exec_alloc (t := 32) rfl (id_zero _)) ?_)
    | fail)
  generalize w.alloc (.cells zId.c.toArray 32) = wx at *
  have ZX := hidMk zx
  clear zx
  obtain ⟨rb, hrb⟩ : ∃ rb, w.heap.size = rb := ⟨_, rfl⟩
  rw [hrb] at hr bx ⊢
  have HB := hidMk hrb
  clear hrb
  go_upto_region 2 with (first
    | (go_at_call 47; refine HL.out.mono ?_; rintro e w1 ⟨ia, ic, rfl, o1, b1⟩)
    | fail)
  have hr1 := hr.below b1
  have b2 : Below rb w w1 := bx.trans (b1.mono (by rw [← HB.out]; exact bx.size))
  clear HL
  have fin0 : Hid (∀ w2, w2 = w1.setRow rb zId.c.toArray → IdAt w2 rb zId ∧ Below rb w w2) := fun w2 e => by
    subst e
    exact ⟨hr1.set zId, b2.trans (set_below _ (by rw [← HB.out]; exact b2.size) (Nat.le_refl _))⟩
  by_cases hneg : z < 0
  · have hres : res = (zId, false) := by rw [HNT.out, if_neg (by omega)]
    refine dnth2a (z := z) _ _ _ rfl rfl rfl (decide_eq_true hneg) ?_
    intro a' w2 hw ha
    subst ha
    obtain rfl : w2 = w1 := hw
    simp only [Act.put, List.setIfInBounds_toArray, List.set_cons_zero, List.set_cons_succ]
    go_upto_region 3 with fail
    refine dnth3 _ _ _ rfl rfl (store_id zId_ok zId_ok hr1) ?_
    intro a' w3 hw ha
    subst ha
    obtain ⟨i3, b3⟩ := fin0.out _ hw
    simp only [Act.put, List.setIfInBounds_toArray, List.set_cons_zero, List.set_cons_succ]
    clear fin0 hw
    subst hres
    go_wp2
    refine bodyPost_ret (results_c2 rfl rfl (loadVar_id zId_ok i3)) rfl ?_
    exact ⟨rfl, by rw [HB.out]; exact b3⟩
  · by_cases hbig : z ≥ (n : Int)
    · have hres : res = (zId, false) := by rw [HNT.out, if_neg (by omega)]
      refine dnth2b (z := z) (n := n) (g := true) _ _ _ rfl rfl rfl (decide_eq_false hneg) (decide_eq_true hbig) ?_
      intro a' w2 hw ha
      subst ha
      obtain rfl : w2 = w1 := hw
      simp only [Act.put, List.setIfInBounds_toArray, List.set_cons_zero, List.set_cons_succ]
      go_upto_region 3 with fail
      refine dnth3 _ _ _ rfl rfl (store_id zId_ok zId_ok hr1) ?_
      intro a' w3 hw ha
      subst ha
      obtain ⟨i3, b3⟩ := fin0.out _ hw
      simp only [Act.put, List.setIfInBounds_toArray, List.set_cons_zero, List.set_cons_succ]
      clear fin0 hw
      subst hres
      go_wp2
      refine bodyPost_ret (results_c2 rfl rfl (loadVar_id zId_ok i3)) rfl ?_
      exact ⟨rfl, by rw [HB.out]; exact b3⟩
    · obtain ⟨i, rfl⟩ : ∃ i : Nat, z = (i : Int) := ⟨z.toNat, by omega⟩
      have hi : i < n := by omega
      have hi' : i < L.length := by rw [HN.out]; exact hi
      have hres : res = (L[i], true) := by
        rw [HNT.out, if_pos (by omega), Int.toNat_natCast, List.getD_eq_getElem?_getD, List.getElem?_eq_getElem hi']; rfl
      have hxo := HOK.out _ (List.getElem_mem hi')
      obtain ⟨ib, io, hl, hrr⟩ : ∃ ib io, ia = some ⟨ib, io, none⟩ ∧ w1.rangeAt ib (io + 33 * i) L[i].c := by
        obtain ⟨a, c, e, ha, _⟩ := o1.open HOK.out
        rw [HN.out] at e
        cases e
        rcases ha with q | ⟨b, o, e, _, hr⟩
        · rw [q] at hi'; cases hi'
        · exact ⟨b, o, e, hr i _ (List.getElem?_eq_getElem hi')⟩
      subst hl
      generalize L[i] = x at *
      refine dnth2b (z := (i : Int)) (n := n) (g := false) _ _ _ rfl rfl rfl (decide_eq_false hneg) (decide_eq_false hbig) ?_
      intro a' w2 hw ha
      subst ha
      obtain rfl : w2 = w1 := hw
      simp only [Act.put, List.setIfInBounds_toArray, List.set_cons_zero, List.set_cons_succ]
      go_upto_region 4 with fail
      refine dnth4 (x := x) _ _ _ rfl rfl rfl rfl hxo hi hll hrr (store_id zId_ok hxo hr1) ?_
      intro a' w3 hw ha
      subst ha
      obtain rfl : w3 = _ := hw
      simp only [Act.put, List.setIfInBounds_toArray, List.set_cons_zero, List.set_cons_succ]
      have i3 := hr1.set x
      have b3 : Below rb w (w2.setRow rb x.c.toArray) := b2.trans (set_below _ (by rw [← HB.out]; exact b2.size) (Nat.le_refl _))
      generalize w2.setRow rb x.c.toArray = w3 at *
      clear fin0 hrr o1
      subst hres
      go_wp2
      refine bodyPost_ret (results_c2 rfl rfl (loadVar_id hxo i3)) rfl ?_
      exact ⟨rfl, by rw [HB.out]; exact b3⟩
theorem behind_ref (h : RefV w base pv R) {k : IdK} (hk : k.ok) : Calls Try.prog 49 #[pv, k.v] w fun e w' => e = .returned (.tuple #[(behE R k).v, .bool (hasE R k)]) ∧ Below w.heap.size w w' := by
  obtain ⟨hx, hr, bx, zx⟩ := two_boxes w k zId
  have HF := hidMk (rfind_ref (h.below bx) hk)
  have B0 : Hid (hasE R k = false → aheadE R false k = -1 ∧ behE R k = zId) := fun q => ⟨rank_neg q _, behE_none q⟩
  have B1 : Hid (hasE R k = true → ∃ i, ∃ hi : i < R.length, aheadE R false k = (i : Int) ∧ behE R k = R[i].bh) := fun q => by
    obtain ⟨e, he, r⟩ := hasE_iff.1 q
    obtain ⟨i, hi, rfl⟩ := List.getElem_of_mem he
    refine ⟨i, hi, by rw [← r]; exact rank_get h.ok.1.seq hi, ?_⟩
    have hs : R = R.take i ++ R[i] :: R.drop (i + 1) := by rw [List.getElem_cons_drop]; exact (List.take_append_drop i R).symm
    have nd := h.ok.1.nd
    generalize R[i] = x at *
    rw [hs, List.map_append, List.map_cons, List.nodup_append] at nd
    unfold behE
    rw [hs, find_mid (x := x) (p := fun e : Elt => decide (e.id = k)) (fun y hy => ?_) (decide_eq_true r)]
    · rfl
    · refine decide_eq_false (fun e => ?_)
      exact nd.2.2 y.id (List.mem_map.2 ⟨y, hy, rfl⟩) x.id (by simp) (e.trans r.symm)
  have HH := hidMk h
  show Calls Try.prog 49 #[pv, .agg k.c.toArray] w _
  generalize behE R k = bk at *
  generalize aheadE R false k = r at *
  go_enter Try.func49, Try.ntmps49
  go_upto_region 1 with (first
    | (refine wpList_run rfl (exec_alloc (t := 32) rfl (id_zero _)) ?_)
    | fail)
  generalize (w.alloc (.cells k.c.toArray 32)).alloc (.cells zId.c.toArray 32) = wx at *
  have ZX := hidMk zx
  clear zx
  refine dbeh1 (k := k) (r := r) (fun w' => Below wx.heap.size wx w') _ _ _ rfl rfl rfl hk hx HF.out ?_
  intro a' w1 hw ha
  subst ha
  have hr2 := hr.below hw
  have b2 := bx.trans (hw.mono bx.size)
  have hz1 : w.heap.size + 1 < w1.heap.size := by have := hw.size; have := ZX.out; omega
  simp only [Act.put, List.setIfInBounds_toArray, List.set_cons_zero, List.set_cons_succ]
  clear HF
  cases hq : hasE R k with
  | false =>
    obtain ⟨rfl, rfl⟩ := B0.out hq
    have HQ := hidMk hq
    clear B0 B1 hq
    go_upto_region 3 with fail
    refine dbeh3 _ _ _ rfl rfl (store_id zId_ok zId_ok hr2) ?_
    intro a' w3 hw3 ha
    subst ha
    obtain rfl : w3 = _ := hw3
    simp only [Act.put, List.setIfInBounds_toArray, List.set_cons_zero, List.set_cons_succ]
    have i3 := hr2.set zId
    have b3 : Below w.heap.size w (w1.setRow (w.heap.size + 1) zId.c.toArray) := b2.trans (set_below _ b2.size (by omega))
    generalize w1.setRow (w.heap.size + 1) zId.c.toArray = w3 at *
    go_wp2
    refine bodyPost_ret (results_c2 rfl rfl (loadVar_id zId_ok i3)) rfl ?_
    exact ⟨by rw [HQ.out]; rfl, b3⟩
  | true =>
    obtain ⟨i, hi, rfl, hbk⟩ := B1.out hq
    have HQ := hidMk hq
    clear B0 B1 hq
    have hV := HH.out.below b2
    rcases hV with ⟨_, rfl⟩ | ⟨d, v, rfl, hV⟩
    · cases hi
    · obtain ⟨eb, eo, ec, e1, hl, hwf, hra⟩ := hV.get hi
      have hc0 := hV.c0
      rw [e1] at hc0
      have hln := hV.len
      generalize R[i] = x at *
      have HBK := hidMk hbk
      clear hbk
      have hneg : ¬ ((i : Int) < 0) := by omega
      obtain ⟨n, hn⟩ : ∃ n, R.length = n := ⟨_, rfl⟩
      rw [hn] at hc0 hi hln
      clear hn hV HH e1 hl
      go_upto_region 4 with fail
      refine dbeh4 (x := x) _ _ _ rfl rfl rfl rfl hwf hi (by omega) hc0 hra (store_id zId_ok hwf.2 hr2) ?_
      intro a' w3 hw3 ha
      subst ha
      obtain rfl : w3 = _ := hw3
      simp only [Act.put, List.setIfInBounds_toArray, List.set_cons_zero, List.set_cons_succ]
      have i3 := hr2.set x.bh
      have b3 : Below w.heap.size w (w1.setRow (w.heap.size + 1) x.bh.c.toArray) := b2.trans (set_below _ b2.size (by omega))
      generalize w1.setRow (w.heap.size + 1) x.bh.c.toArray = w3 at *
      go_wp2
      refine bodyPost_ret (results_c2 rfl rfl (loadVar_id hwf.2 i3)) rfl ?_
      exact ⟨by rw [HQ.out, HBK.out]; rfl, b3⟩
end
end Go.Proofs.Ytpdepbakopdgpaa
