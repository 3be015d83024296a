import Derived.Test.YtlejbdepoemcjaaP0
import Derived.Lib.BufferMore
import Derived.Test.YtlejbdepoemcjaaZr
import Derived.Test.YtlejbdepoemcjaaXi
import Derived.Laws.CopyRow
set_option maxRecDepth 100000
set_option maxHeartbeats 4000000
namespace Go.Proofs.Ytlejbdepoemcjaa
open Go.RowKit Go.Shelf Sq
set_option linter.unusedVariables false
set_option linter.unusedSimpArgs false
theorem M.MapAt.clone {κ : Type} {w : World} {b : Nat} {enc : κ → Value} {V : κ → Prop} {E : List (κ × Value)} (h : M.MapAt w b enc V E) : ∃ es clock, w.heap[b]? = some (.map es clock) ∧ M.MapAt (w.alloc (.map es clock)) w.heap.size enc V E := by
  obtain ⟨⟨es, c, hb, he, hs⟩, hn, hV⟩ := h
  exact ⟨es, c, hb, ⟨es, c, heap_alloc_new _ _, he, hs⟩, hn, hV⟩
theorem pnil_len (w : World) : Calls Try.prog 32 #[.pointer none] w fun e w' => e = .returned (.int .i64 0) ∧ Below w.heap.size w w' := by
  have HM : Hid (Calls Try.prog 57 #[.pointer none, .int .i64 0] w fun e w' => e = .returned (.int .i64 0) ∧ Below w.heap.size w w') := by
    show Calls Try.prog 57 #[.pointer none, .int .i64 0] w _
    go_enter Try.func57, Try.ntmps57
    go_wp2
    go_ret
    exact ⟨rfl, Below.refl _ _⟩
  go_enter Try.func32, Try.ntmps32
  go_wp2_with (first
    | (go_at_call 57; refine HM.out.mono ?_; rintro e w1 ⟨rfl, b1⟩)
    | fail)
  go_ret
  exact ⟨rfl, b1⟩
theorem pnil_shown (w : World) : Calls Try.prog 27 #[.pointer none] w fun e w' => e = .returned (.int .i64 0) ∧ Below w.heap.size w w' := by
  have HM : Hid (Calls Try.prog 57 #[.pointer none, .int .i64 1] w fun e w' => e = .returned (.int .i64 0) ∧ Below w.heap.size w w') := by
    show Calls Try.prog 57 #[.pointer none, .int .i64 1] w _
    go_enter Try.func57, Try.ntmps57
    go_wp2
    go_ret
    exact ⟨rfl, Below.refl _ _⟩
  go_enter Try.func27, Try.ntmps27
  go_wp2_with (first
    | (go_at_call 57; refine HM.out.mono ?_; rintro e w1 ⟨rfl, b1⟩)
    | fail)
  go_ret
  exact ⟨rfl, b1⟩
theorem pnil_ids (w : World) : Calls Try.prog 22 #[.pointer none] w fun e w' => e = .returned (.slice none 0 0) ∧ Below w.heap.size w w' := by
  have HM : Hid (Calls Try.prog 54 #[.pointer none, .int .i64 0] w fun e w' => e = .returned (.slice none 0 0) ∧ Below w.heap.size w w') := by
    show Calls Try.prog 54 #[.pointer none, .int .i64 0] w _
    go_enter Try.func54, Try.ntmps54
    go_wp2
    go_ret
    exact ⟨rfl, Below.refl _ _⟩
  go_enter Try.func22, Try.ntmps22
  go_wp2_with (first
    | (go_at_call 54; refine HM.out.mono ?_; rintro e w1 ⟨rfl, b1⟩)
    | fail)
  go_ret
  exact ⟨rfl, b1⟩
theorem pnil_live (w : World) : Calls Try.prog 29 #[.pointer none] w fun e w' => e = .returned (.slice none 0 0) ∧ Below w.heap.size w w' := by
  have HM : Hid (Calls Try.prog 54 #[.pointer none, .int .i64 1] w fun e w' => e = .returned (.slice none 0 0) ∧ Below w.heap.size w w') := by
    show Calls Try.prog 54 #[.pointer none, .int .i64 1] w _
    go_enter Try.func54, Try.ntmps54
    go_wp2
    go_ret
    exact ⟨rfl, Below.refl _ _⟩
  go_enter Try.func29, Try.ntmps29
  go_wp2_with (first
    | (go_at_call 54; refine HM.out.mono ?_; rintro e w1 ⟨rfl, b1⟩)
    | fail)
  go_ret
  exact ⟨rfl, b1⟩
end Go.Proofs.Ytlejbdepoemcjaa
namespace Go.Proofs.Ytlejbdepoemcjaa
open Go.RowKit Sq
set_option linter.unusedVariables false
set_option linter.unusedSimpArgs false
end Go.Proofs.Ytlejbdepoemcjaa
namespace Go.Proofs.Ytlejbdepoemcjaa
open Go.RowKit Sq
set_option linter.unusedVariables false
set_option linter.unusedSimpArgs false
theorem snoc_ind {α : Type} {P : List α → Prop} (h0 : P []) (hs : ∀ l x, P l → P (l ++ [x])) (l : List α) : P l := by
  have : ∀ n (l : List α), l.length = n → P l := by
    intro n
    induction n with
    | zero => intro l h; rw [List.eq_nil_of_length_eq_zero h]; exact h0
    | succ n ih =>
      intro l h
      have hne : l ≠ [] := by intro q; rw [q] at h; cases h
      rw [← List.dropLast_concat_getLast hne]
      exact hs _ _ (ih _ (by simp; omega))
  exact this _ l rfl
theorem OwnP.cells {w : World} {base : Nat} {v : Value} {l : List PutV} (h : OwnP w base v l) {k : Nat} (hk : v.ownBlock = some k) : base ≤ k ∧ k < w.heap.size := by
  rcases h.2 with ⟨rfl, _⟩ | ⟨g, cap, cur, rfl, hb, hg, _⟩
  · cases hk
  · simp only [Value.ownBlock, Option.some.injEq] at hk
    subst hk
    exact ⟨hb, (Array.getElem?_eq_some_iff.1 hg).1⟩
theorem Tch.belowS {w w' : World} {s : Sx} {B : Nat} (h : Tch (fun j => j ∈ s.bl) w w') (hB : B ≤ w.heap.size) (hs : ∀ j ∈ s.bl, B ≤ j) : Below B w w' := h.below hB hs
theorem Nxt.bl {s s' : Sx} {w w' : World} {E' : List Elt} (h : Nxt s w s' E' w') : ∀ j ∈ s'.bl, j ∈ s.bl ∨ w.heap.size ≤ j := fun j hj => by
  simp only [Sx.bl, List.mem_cons, List.not_mem_nil, or_false, h.sb, h.mb] at hj ⊢
  rcases hj with q | q | q
  · exact .inl (.inl q)
  · exact .inl (.inr (.inl q))
  · rcases h.own with e | e
    · exact .inl (.inr (.inr (q.trans e)))
    · exact .inr (by omega)
structure LyI (w : World) (sb : Nat) (st : List Elt × List PutV) (v : Value) (W : World) : Prop where
  sq : ∃ s : Sx, s.sb = sb ∧ SeqAt W s st.1 ∧ (∀ j ∈ s.bl, w.heap.size ≤ j) ∧ ∀ k, v.ownBlock = some k → k ∉ s.bl
  own : OwnP W w.heap.size v st.2
  bel : Below w.heap.size w W
theorem LyI.drew {w W : World} {sb : Nat} {st : List Elt × List PutV} {v : Value} (h : LyI w sb st v W) : LyI w sb st v W.drew := by
  obtain ⟨⟨s, a, b, c, d⟩, o, b'⟩ := h
  exact ⟨⟨s, a, b.drew, c, d⟩, o.keep (fun _ _ => rfl), b'.drew⟩
theorem LyI.ins {w W : World} {sb : Nat} {st : List Elt × List PutV} {v : Value} (h : LyI w sb st v W) {p : PutV} (hp : p.ok) (hl : st.1.length + 2 ≤ 1400000000000) : Calls Try.prog 10 #[.pointer (some ⟨sb, 0, none⟩), p.id.v, p.bh.v] W fun e w' => e = .returned (.int .i64 (insC st.1 p.id p.bh : Int)) ∧ LyI w sb (insR st.1 p.id p.bh, st.2) v w' := by
  obtain ⟨⟨s, rfl, b, c, d⟩, o, b'⟩ := h
  refine (insert_any b hp.id hp.bh hl).mono ?_
  rintro e w' ⟨rfl, s', nx⟩
  have bb : Below w.heap.size W w' := nx.tch.belowS b'.size c
  refine ⟨rfl, ⟨s', nx.sb, nx.at', fun j hj => ?_, fun k hk hj => ?_⟩, o.keep (fun k hk => nx.tch.block k (o.cells hk).2 (d k hk)), b'.trans bb⟩
  · rcases nx.bl j hj with q | q
    · exact c j q
    · exact Nat.le_trans b'.size q
  · rcases nx.bl k hj with q | q
    · exact d k hk q
    · have := (o.cells hk).2; omega
theorem PutsAt.get {w : World} {a : Option Addr} {l : List PutV} (h : PutsAt w a l) {i : Nat} (hi : i < l.length) : ∃ b o, a = some ⟨b, o, none⟩ ∧ b < w.heap.size ∧ w.rangeAt b (o + 66 * i) (l[i]).c := by
  rcases h with rfl | ⟨b, o, e, hl, hr⟩
  · simp at hi
  · exact ⟨b, o, e, hl, hr i l[i] (List.getElem?_eq_getElem hi)⟩
theorem OwnI.app {w W : World} {v : Value} {T : List IdK} (o : OwnI W w.heap.size v T) (b' : Below w.heap.size w W) {k : IdK} (hk : k.ok) (hl : T.length + 1 ≤ 1400000000000) : ∃ v' w1 w2, (Instr.buildSlice 44 1 #[(0, k.v)]).run Try.prog W = .ok (.slice (some ⟨W.heap.size, 0, none⟩) 1 1) w1 ∧ (Builtin.append_ #[44, 44] 44 #[v, .slice (some ⟨W.heap.size, 0, none⟩) 1 1]).run Try.prog w1 = .ok v' w2 ∧ OwnI w2 w.heap.size v' (T ++ [k]) ∧ Below w.heap.size w w2 := by
  have eb := run_bsI k hk W
  have b1 : Below W.heap.size W (W.alloc (.cells k.c.toArray 32)) := (Below.refl _ _).alloc (Nat.le_refl _) _
  have zW : (W.alloc (.cells k.c.toArray 32)).heap.size = W.heap.size + 1 := by simp
  obtain ⟨v', w2, ea, o2, g2, ow⟩ := run_appI (W.alloc (.cells k.c.toArray 32)) w.heap.size v T (some ⟨W.heap.size, 0, none⟩) [k] 1 (o.below b1) (ids_lit W k _) (by simp [hk]) (by simp; omega) (by rw [zW]; have := b'.size; omega)
  exact ⟨v', _, w2, eb, ea, o2, b'.trans ((b1.mono b'.size).trans ⟨g2.os, g2.tape, g2.output, g2.size, fun j hj => g2.block j (by have := b'.size; omega) (fun e => by have := (o.cells e.symm).1; omega)⟩)⟩
def idsE (E : List Elt) (c : Bool) : List IdK := (visE E c).map (·.id)
structure BK (w : World) (s : Sx) (E : List Elt) (Ls : List (Value × List IdK)) (W : World) : Prop where
  sq : SeqAt W s E
  lo : ∀ j ∈ s.bl, w.heap.size ≤ j
  bel : Below w.heap.size w W
  ls : ∀ p ∈ Ls, OwnI W w.heap.size p.1 p.2 ∧ (∀ x ∈ p.2, x.ok) ∧ p.2.length ≤ 1400000000000 ∧ ∀ k, p.1.ownBlock = some k → k ∉ s.bl
section
variable {w W : World} {s : Sx} {E : List Elt} {Ls : List (Value × List IdK)}
theorem OwnI.lt {w : World} {base : Nat} {v : Value} {l : List IdK} (h : OwnI w base v l) {k : Nat} (hk : v.ownBlock = some k) : k < w.heap.size := by
  obtain ⟨_, c, t, q, e⟩ := h.cells hk
  exact (Array.getElem?_eq_some_iff.1 e).1
theorem BK.below {W' : World} (h : BK w s E Ls W) (b : Below W.heap.size W W') : BK w s E Ls W' :=
  ⟨h.sq.below b, h.lo, h.bel.trans (b.mono h.bel.size), fun p hp => ⟨(h.ls p hp).1.below b, (h.ls p hp).2⟩⟩
theorem BK.add {W' : World} {v : Value} {c : Bool} (h : BK w s E Ls W) (o : OwnI W' W.heap.size v (idsE E c)) (b : Below W.heap.size W W') : BK w s E ((v, idsE E c) :: Ls) W' := by
  have h' := h.below b
  refine ⟨h'.sq, h'.lo, h'.bel, fun p hp => ?_⟩
  rcases List.mem_cons.1 hp with rfl | hp
  · have hl : (visE E c).length ≤ E.length := List.length_filter_le _ _
    have := h.sq.lk.len
    have := h.sq.row.len
    refine ⟨⟨o.1, ?_⟩, fun x hx => ?_, by simp [idsE]; omega, fun k hk hj => ?_⟩
    · rcases o.2 with q | ⟨g, cap, cur, e, hb, r⟩
      · exact .inl q
      · exact .inr ⟨g, cap, cur, e, Nat.le_trans h.bel.size hb, r⟩
    · obtain ⟨e, he, rfl⟩ := List.mem_map.1 hx
      exact (h.sq.lk.ok.ok e (List.mem_filter.1 he).1).1
    · have := h.sq.lt k hj
      have := (o.cells hk).1
      omega
  · exact h'.ls p hp
theorem BK.ids (h : BK w s E Ls W) : Calls Try.prog 22 #[.pointer (some ⟨s.sb, 0, none⟩)] W fun e w' => ∃ v n c, e = .returned (.slice v n c) ∧ (n = (idsE E false).length ∧ n ≤ 1400000000000) ∧ BK w s E ((.slice v n c, idsE E false) :: Ls) w' := by
  refine (ids_any h.sq).mono ?_
  rintro e w' ⟨v, rfl, o, b⟩
  have h2 := h.add o b
  obtain ⟨a, c, rfl, _, _⟩ := o.open (h2.ls (v, idsE E false) (by simp)).2.1
  exact ⟨a, _, c, rfl, ⟨rfl, (h2.ls _ (List.mem_cons_self ..)).2.2.1⟩, h2⟩
theorem BK.live (h : BK w s E Ls W) : Calls Try.prog 29 #[.pointer (some ⟨s.sb, 0, none⟩)] W fun e w' => ∃ v n c, e = .returned (.slice v n c) ∧ (n = (idsE E true).length ∧ n ≤ 1400000000000) ∧ BK w s E ((.slice v n c, idsE E true) :: Ls) w' := by
  refine (live_any h.sq).mono ?_
  rintro e w' ⟨v, rfl, o, b⟩
  have h2 := h.add o b
  obtain ⟨a, c, rfl, _, _⟩ := o.open (h2.ls (v, idsE E true) (by simp)).2.1
  exact ⟨a, _, c, rfl, ⟨rfl, (h2.ls _ (List.mem_cons_self ..)).2.2.1⟩, h2⟩
theorem BK.same (h : BK w s E Ls W) {u v : Value} {A B : List IdK} (h1 : (u, A) ∈ Ls) (h2 : (v, B) ∈ Ls) : Calls Try.prog 44 #[u, v] W fun e w' => e = .returned (.bool (decide (A = B))) ∧ BK w s E Ls w' := by
  obtain ⟨a1, a2, a3, _⟩ := h.ls _ h1
  obtain ⟨b1, b2, b3, _⟩ := h.ls _ h2
  simp only at a1 a2 a3 b1 b2 b3
  obtain ⟨a, ca, rfl, ia, _⟩ := OwnI.open a1 a2
  obtain ⟨b, cb, rfl, ib, _⟩ := OwnI.open b1 b2
  refine (same_ids a b ca cb A B W ia ib a2 b2 (by omega)).mono ?_
  rintro e w' ⟨rfl, bb⟩
  exact ⟨rfl, h.below bb⟩
end
theorem insC_zero {E : List Elt} {k b : IdK} (h : insC E k b = 0) : 1 ≤ k.n ∧ hasE E k = false ∧ (b = zId ∨ hasE E b = true) := by
  unfold insC at h
  split at h
  · cases h
  · next h1 =>
    split at h
    · cases h
    · next h2 =>
      split at h
      · cases h
      · next h3 =>
        refine ⟨by omega, by simpa using h2, ?_⟩
        by_cases q : b = zId
        · exact .inl q
        · refine .inr ?_
          cases r : hasE E b with
          | true => rfl
          | false => exact absurd ⟨q, r⟩ h3
theorem visE_all (E : List Elt) : visE E false = E := List.filter_eq_self.2 fun x _ => rfl
theorem BK.drew {w W : World} {s : Sx} {E : List Elt} {Ls : List (Value × List IdK)} (h : BK w s E Ls W) : BK w s E Ls W.drew := h.below ((Below.refl _ _).drew)
theorem ahead_get {F : List Elt} (ok : SeqOk F) (c : Bool) {i : Nat} (hi : i < F.length) : aheadE F c F[i].id = ((F.take i).countP (cE c) : Int) := by
  have hs : F = F.take i ++ F[i] :: F.drop (i + 1) := by rw [List.getElem_cons_drop]; exact (List.take_append_drop i F).symm
  have hh : hasE F F[i].id = true := hasE_iff.2 ⟨F[i], List.getElem_mem hi, rfl⟩
  unfold aheadE
  rw [if_pos hh]
  have e : F.takeWhile (fun e => !decide (e.id = F[i].id)) = F.take i := by
    have nd := ok.nd
    generalize F[i] = x at *
    rw [hs, List.map_append, List.map_cons, List.nodup_append] at nd
    conv => lhs; rw [hs]
    refine takeWhile_mid (fun y hy => ?_) (by simp)
    have : y.id ≠ x.id := nd.2.2 y.id (List.mem_map.2 ⟨y, hy, rfl⟩) x.id (by simp)
    simpa using this
  rw [e]
theorem cnt_all (l : List Elt) : l.countP (cE false) = l.length := List.countP_eq_length.2 fun x _ => rfl
theorem rank_get {F : List Elt} (ok : SeqOk F) {i : Nat} (hi : i < F.length) : aheadE F false F[i].id = (i : Int) := by
  rw [ahead_get ok false hi, cnt_all, List.length_take, Nat.min_eq_left (by omega)]
theorem rank_neg {F : List Elt} {x : IdK} (h : hasE F x = false) (c : Bool) : aheadE F c x = -1 := by unfold aheadE; rw [h]; rfl
theorem rank_pos {F : List Elt} {x : IdK} {c : Bool} (h : hasE F x = true) : 0 ≤ aheadE F c x := by unfold aheadE; rw [if_pos h]; omega
structure Stays (E F : List Elt) (g : IdK → Prop) : Prop where
  sub : ((E.map (·.id)).filter (fun x => hasE F x)).Sublist (F.map (·.id))
  has : ∀ x, hasE E x = true → hasE F x = false → g x
theorem Stays.refl (E : List Elt) (g : IdK → Prop) : Stays E E g := ⟨List.filter_sublist, fun x h1 h2 => by rw [h1] at h2; cases h2⟩
theorem SeqOk.ins {E : List Elt} (ok : SeqOk E) {k b : IdK} (hk : k.ok) (hb : b.ok) : SeqOk (insR E k b) := by
  unfold insR
  split
  · next h =>
    obtain ⟨h1, h2, h3⟩ := insC_zero h
    exact ok.put (x := ⟨k, b, true⟩) ⟨hk, hb, h1⟩ h2 h3
  · exact ok
def rowR (R : List Elt) : List Elt := R.foldl (fun l e => putE l e.bh e) []
theorem rowR_snoc (R : List Elt) (e : Elt) : rowR (R ++ [e]) = putE (rowR R) e.bh e := by simp [rowR]
theorem rowR_perm (R : List Elt) : (rowR R).Perm R := by
  refine snoc_ind (P := fun R => (rowR R).Perm R) (List.Perm.refl _) (fun R e ih => ?_) R
  rw [rowR_snoc]
  exact (putE_perm _ _ _).trans ((List.Perm.cons e ih).trans (List.perm_append_comm (l₁ := [e])))
structure RefOk (R : List Elt) : Prop where
  ok : ∀ e ∈ R, e.id.ok ∧ e.bh.ok ∧ 1 ≤ e.id.n
  nd : (R.map (·.id)).Nodup
  bh : ∀ A e B, R = A ++ e :: B → e.bh = zId ∨ hasE A e.bh = true
theorem RefOk.nil : RefOk [] := ⟨fun e he => by simp at he, by simp, fun A e B h => by simp at h⟩
theorem RefOk.all {R : List Elt} (h : RefOk R) : ∀ e ∈ R, e.bh = zId ∨ hasE R e.bh = true := fun e he => by
  obtain ⟨A, B, rfl⟩ := List.append_of_mem he
  refine (h.bh A e B rfl).imp id (fun q => ?_)
  obtain ⟨x, hx, r⟩ := hasE_iff.1 q
  exact hasE_iff.2 ⟨x, List.mem_append_left _ hx, r⟩
theorem RefOk.seq {R : List Elt} (h : RefOk R) : SeqOk R := ⟨h.nd, h.ok, h.all⟩
theorem RefOk.row {R : List Elt} (h : RefOk R) : SeqOk (rowR R) := h.seq.perm (rowR_perm R).symm
theorem RefOk.left {A B : List Elt} (h : RefOk (A ++ B)) : RefOk A := by
  refine ⟨fun e he => h.ok e (List.mem_append_left _ he), ?_, fun C e D q => h.bh C e (D ++ B) (by rw [q]; simp)⟩
  have := h.nd
  rw [List.map_append, List.nodup_append] at this
  exact this.1
theorem has_row (R : List Elt) (k : IdK) : hasE (rowR R) k = hasE R k := hasE_perm (rowR_perm R) k
theorem insC_row (R : List Elt) (k b : IdK) : insC (rowR R) k b = insC R k b := by unfold insC; rw [has_row, has_row]
def insD (R : List Elt) (k b : IdK) : List Elt := if insC R k b = 0 then R ++ [⟨k, b, true⟩] else R
theorem insD_row (R : List Elt) (k b : IdK) : rowR (insD R k b) = insR (rowR R) k b := by
  unfold insD insR
  rw [insC_row]
  split
  · rw [rowR_snoc]
  · rfl
theorem RefOk.ins {R : List Elt} (h : RefOk R) {k b : IdK} (hk : k.ok) (hb : b.ok) : RefOk (insD R k b) := by
  unfold insD
  split
  · next q =>
    obtain ⟨h1, h2, h3⟩ := insC_zero q
    refine ⟨fun e he => ?_, ?_, fun A e B r => ?_⟩
    · rcases List.mem_append.1 he with r | r
      · exact h.ok e r
      · rw [List.mem_singleton.1 r]; exact ⟨hk, hb, h1⟩
    · rw [List.map_append, List.nodup_append]
      refine ⟨h.nd, by simp, fun a ha c hc => ?_⟩
      simp at hc
      rw [hc]
      obtain ⟨e, he, rfl⟩ := List.mem_map.1 ha
      intro r
      have : hasE R k = true := hasE_iff.2 ⟨e, he, r⟩
      rw [h2] at this; cases this
    · rcases List.append_eq_append_iff.1 r with ⟨C, e1, e2⟩ | ⟨C, e1, e2⟩
      · cases C with
        | nil =>
          simp at e1 e2
          subst e1
          rw [← e2.1]; exact h3
        | cons c C =>
          simp at e2
      · cases C with
        | nil =>
          simp at e1 e2
          subst e1
          rw [e2.1]; exact h3
        | cons c C =>
          simp only [List.cons_append, List.cons.injEq] at e2
          exact h.bh A e C (by rw [e1, ← e2.1])
  · exact h
theorem insD_len (R : List Elt) (k b : IdK) : (insD R k b).length ≤ R.length + 1 := by
  unfold insD
  split <;> simp
theorem RefOk.show {R : List Elt} (h : RefOk R) (k : IdK) (s : Bool) : RefOk (showE R k s) := by
  have ok := h.seq.show k s
  refine ⟨ok.ok, ok.nd, fun A e B q => ?_⟩
  unfold showE at q
  obtain ⟨A', B', e1, e2, e3⟩ := List.map_eq_append_iff.1 q
  obtain ⟨e', B'', e4, e5, e6⟩ := List.map_eq_cons_iff.1 e3
  have := h.bh A' e' B'' (by rw [e1, e4])
  rw [← e2]
  have hb : e.bh = e'.bh := by rw [← e5]; split <;> rfl
  rw [hb]
  refine this.imp id (fun r => ?_)
  have := showE_has A' k s e'.bh
  unfold showE at this
  rw [this]; exact r
def AtIs (l : List Elt) (b : IdK) (k at' : Nat) : Prop := (at' = 0 ∧ ∀ j (h : j < l.length), j < k → l[j].id ≠ b) ∨ (∃ j, ∃ h : j < l.length, j < k ∧ at' = j + 1 ∧ l[j].id = b)
theorem AtIs.zero (l : List Elt) (b : IdK) : AtIs l b 0 0 := .inl ⟨rfl, fun j _ h => by omega⟩
theorem AtIs.hit {l : List Elt} {b : IdK} {k : Nat} (hk : k < l.length) (h : l[k].id = b) : AtIs l b (k + 1) (k + 1) := .inr ⟨k, hk, by omega, rfl, h⟩
theorem AtIs.miss {l : List Elt} {b : IdK} {k a : Nat} (hk : k < l.length) (h : l[k].id ≠ b) (q : AtIs l b k a) : AtIs l b (k + 1) a := by
  rcases q with ⟨h1, h2⟩ | ⟨j, hj, h1, h2, h3⟩
  · refine .inl ⟨h1, fun j hj hjk => ?_⟩
    by_cases e : j = k
    · subst e; exact h
    · exact h2 j hj (by omega)
  · exact .inr ⟨j, hj, by omega, h2, h3⟩
theorem AtIs.le {l : List Elt} {b : IdK} {k a : Nat} (q : AtIs l b k a) : a ≤ l.length ∧ a ≤ k := by
  rcases q with ⟨h1, h2⟩ | ⟨j, hj, h1, h2, h3⟩ <;> omega
theorem put_at {l : List Elt} (nd : (l.map (·.id)).Nodup) (h1 : ∀ e ∈ l, 1 ≤ e.id.n) {b : IdK} (hb : b = zId ∨ hasE l b = true) {a : Nat} (q : AtIs l b l.length a) (x : Elt) : putE l b x = l.take a ++ x :: l.drop a := by
  rcases q with ⟨rfl, h2⟩ | ⟨j, hj, _, rfl, h3⟩
  · have hz : b = zId := by
      rcases hb with r | r
      · exact r
      · obtain ⟨e, he, r⟩ := hasE_iff.1 r
        obtain ⟨i, hi, rfl⟩ := List.getElem_of_mem he
        exact absurd r (h2 i hi hi)
    unfold putE
    rw [if_pos hz]; rfl
  · have hz : b ≠ zId := fun r => by
      have := h1 l[j] (List.getElem_mem hj)
      rw [h3, r] at this
      simp [zId] at this
    have e : l = l.take j ++ l[j] :: l.drop (j + 1) := by rw [List.getElem_cons_drop]; exact (List.take_append_drop j l).symm
    have et : l.take (j + 1) = l.take j ++ [l[j]] := by rw [List.take_add_one, List.getElem?_eq_getElem hj]; rfl
    generalize l[j] = z at *
    have hn : ∀ y ∈ l.take j, y.id ≠ z.id := fun y hy => by
      have nd2 := nd
      rw [e, List.map_append, List.map_cons, List.nodup_append] at nd2
      exact nd2.2.2 y.id (List.mem_map.2 ⟨y, hy, rfl⟩) _ (by simp)
    unfold putE
    rw [if_neg hz, ← h3, et]
    conv => lhs; rw [e]
    rw [insE_mid (A := l.take j) (B := l.drop (j + 1)) (e := z) (x := x) hn]
    simp
theorem shift_step {l : List Elt} {k : Nat} (h0 : 0 < k) (hk : k ≤ l.length) (y : Elt) : (l.take k ++ y :: l.drop k).set k l[k - 1] = l.take (k - 1) ++ l[k - 1] :: l.drop (k - 1) := by
  have hl : (l.take k).length = k := by rw [List.length_take]; omega
  have e1 : (l.take k ++ y :: l.drop k).set k l[k - 1] = l.take k ++ l[k - 1] :: l.drop k := by
    rw [List.set_append_right _ _ (by omega), hl]; simp
  have e2 : l.take k = l.take (k - 1) ++ [l[k - 1]] := by
    conv => lhs; rw [show k = (k - 1) + 1 by omega]
    rw [List.take_add_one, List.getElem?_eq_getElem (by omega)]; rfl
  have e3 : l.drop (k - 1) = l[k - 1] :: l.drop k := by
    rw [List.drop_eq_getElem_cons (by omega)]
    congr 2; omega
  rw [e1, e3]
  conv => lhs; rw [e2]
  rw [List.append_assoc]; rfl
theorem shift_last {l : List Elt} {a : Nat} (ha : a ≤ l.length) (y x : Elt) : (l.take a ++ y :: l.drop a).set a x = l.take a ++ x :: l.drop a := by
  have hl : (l.take a).length = a := by rw [List.length_take]; omega
  rw [List.set_append_right _ _ (by omega), hl]; simp
theorem shift_get {l : List Elt} {k : Nat} (h0 : 0 < k) (hk : k ≤ l.length) (y : Elt) : (l.take k ++ y :: l.drop k)[k - 1]? = some l[k - 1] := by
  rw [List.getElem?_append_left (by rw [List.length_take]; omega), List.getElem?_take, if_pos (by omega), List.getElem?_eq_getElem (by omega)]
theorem shift_len (l : List Elt) {k : Nat} (hk : k ≤ l.length) (y : Elt) : (l.take k ++ y :: l.drop k).length = l.length + 1 := by simp; omega
end Go.Proofs.Ytlejbdepoemcjaa
namespace Go.Proofs.Ytlejbdepoemcjaa
open Go.RowKit
set_option linter.unusedVariables false
set_option linter.unusedSimpArgs false
structure RowT (κ : Type) where
  c : κ → List Value
  ok : κ → Prop
  k : Nat
  bytes : Nat
  e : TypeId
  t : TypeId
  z : κ
structure RowT.Is {κ : Type} (R : RowT κ) : Prop where
  zok : R.ok R.z
  len : ∀ x, R.ok x → (R.c x).length = R.k
  one : ∀ x, ∀ v ∈ R.c x, v.oneCell' = true
  und : Try.prog.underlying R.t = some (.slice R.e)
  info : (Try.prog.info? R.e).map (fun i => (i.zero, i.size, i.bytes)) = some (some (.agg (R.c R.z).toArray), R.k, R.bytes)
  row : ∃ d, Try.prog.underlying R.e = some d ∧ d.isRow = true
  kpos : 0 < R.k
  kmax : R.k ≤ 100000
section
variable {κ : Type} {R : RowT κ}
def RowT.At (R : RowT κ) (w : World) (a : Option Addr) (L : List κ) : Prop := L = [] ∨ ∃ b off, a = some ⟨b, off, none⟩ ∧ b < w.heap.size ∧ ∀ i h, L[i]? = some h → w.rangeAt b (off + R.k * i) (R.c h)
theorem RowT.At.keepB {w w' : World} {a : Option Addr} {L : List κ} (h : R.At w a L) (hs : w.heap.size ≤ w'.heap.size) (hk : ∀ b o, a = some ⟨b, o, none⟩ → b < w.heap.size → w'.heap[b]? = w.heap[b]?) : R.At w' a L := by
  rcases h with h | ⟨b, off, e, hl, hr⟩
  · exact .inl h
  · exact .inr ⟨b, off, e, Nat.lt_of_lt_of_le hl hs, fun i x hx => rangeAt_keep (hr i x hx) (hk b off e hl)⟩
theorem RowT.At.below {w w' : World} {a : Option Addr} {L : List κ} (h : R.At w a L) (hb : Below w.heap.size w w') : R.At w' a L := h.keepB hb.size (fun b _ _ hl => hb.block b hl)
theorem RowT.At.get {w : World} {a : Option Addr} {L : List κ} (h : R.At w a L) {i : Nat} (hi : i < L.length) : ∃ b o, a = some ⟨b, o, none⟩ ∧ b < w.heap.size ∧ w.rangeAt b (o + R.k * i) (R.c L[i]) := by
  rcases h with h | ⟨b, off, e, hl, hr⟩
  · subst h; cases hi
  · exact ⟨b, off, e, hl, hr i _ (List.getElem?_eq_getElem hi)⟩
def RowT.flat (R : RowT κ) (L : List κ) : List Value := L.flatMap R.c
theorem RowT.flat_app (L M : List κ) : R.flat (L ++ M) = R.flat L ++ R.flat M := by simp [RowT.flat]
theorem RowT.flat_cons (x : κ) (L : List κ) : R.flat (x :: L) = R.c x ++ R.flat L := rfl
theorem RowT.flat_len (I : R.Is) : ∀ {L : List κ}, (∀ h ∈ L, R.ok h) → (R.flat L).length = R.k * L.length
  | [], _ => rfl
  | x :: L, ok => by
    have := RowT.flat_len I (L := L) (fun h hh => ok h (by simp [hh]))
    rw [RowT.flat_cons, List.length_append, I.len x (ok x (by simp)), this, List.length_cons, Nat.mul_succ, Nat.add_comm]
theorem RowT.flat_get (I : R.Is) : ∀ {L : List κ}, (∀ h ∈ L, R.ok h) → ∀ {i : Nat} {h : κ}, L[i]? = some h → ∀ {j : Nat} {v : Value}, (R.c h)[j]? = some v → (R.flat L)[R.k * i + j]? = some v
  | x :: L, ok, 0, h, hi, j, v, hj => by
    simp only [List.getElem?_cons_zero, Option.some.injEq] at hi
    subst hi
    have hl := (List.getElem?_eq_some_iff.1 hj).1
    rw [Nat.mul_zero, Nat.zero_add, RowT.flat_cons, List.getElem?_append_left hl]
    exact hj
  | x :: L, ok, i + 1, h, hi, j, v, hj => by
    simp only [List.getElem?_cons_succ] at hi
    have := RowT.flat_get I (L := L) (fun h hh => ok h (by simp [hh])) hi hj
    have l := I.len x (ok x (by simp))
    rw [RowT.flat_cons, List.getElem?_append_right (by rw [l, Nat.mul_succ]; omega), l, show R.k * (i + 1) + j - R.k = R.k * i + j by rw [Nat.mul_succ]; omega]
    exact this
  | [], _, i, h, hi, _, _, _ => by simp at hi
theorem RowT.flat_inv (I : R.Is) : ∀ {L : List κ}, (∀ h ∈ L, R.ok h) → ∀ {p : Nat} {u : Value}, (R.flat L)[p]? = some u → ∃ i h j, p = R.k * i + j ∧ L[i]? = some h ∧ (R.c h)[j]? = some u
  | [], _, p, u, hp => by simp [RowT.flat] at hp
  | x :: L, ok, p, u, hp => by
    have l := I.len x (ok x (by simp))
    rw [RowT.flat_cons, List.getElem?_append] at hp
    by_cases h : p < (R.c x).length
    · rw [if_pos h] at hp
      exact ⟨0, x, p, by simp, rfl, hp⟩
    · rw [if_neg h] at hp
      obtain ⟨i, y, j, e, hi, hj⟩ := RowT.flat_inv I (L := L) (fun h hh => ok h (by simp [hh])) hp
      exact ⟨i + 1, y, j, by rw [Nat.mul_succ]; omega, hi, hj⟩
theorem RowT.flat_one (I : R.Is) (L : List κ) : ∀ u ∈ R.flat L, u.oneCell' = true := by
  intro u hu
  simp only [RowT.flat, List.mem_flatMap] at hu
  obtain ⟨h, _, hv⟩ := hu
  exact I.one h u hv
def RowT.Own (R : RowT κ) (w : World) (base : Nat) (v : Value) (L : List κ) : Prop := w.ownsRow base R.e R.k v L.length (R.flat L)
theorem RowT.Own.keep {w w' : World} {base : Nat} {v : Value} {L : List κ} (h : R.Own w base v L) (hk : ∀ k, v.ownBlock = some k → w'.heap[k]? = w.heap[k]?) : R.Own w' base v L := by
  refine ⟨h.1, ?_⟩
  rcases h.2 with hn | ⟨g, cap, cur, rfl, hbg, hg, rest⟩
  · exact .inl hn
  · exact .inr ⟨g, cap, cur, rfl, hbg, by rw [hk g rfl]; exact hg, rest⟩
theorem RowT.Own.cells {w : World} {base : Nat} {v : Value} {L : List κ} (h : R.Own w base v L) {k : Nat} (hk : v.ownBlock = some k) : base ≤ k ∧ ∃ c, w.heap[k]? = some (.cells c R.e (0, 0)) := by
  rcases h.2 with ⟨rfl, _⟩ | ⟨g, cap, cur, rfl, hb, hg, _⟩
  · cases hk
  · simp only [Value.ownBlock, Option.some.injEq] at hk
    subst hk
    exact ⟨hb, _, hg⟩
theorem RowT.Own.lt {w : World} {base : Nat} {v : Value} {L : List κ} (h : R.Own w base v L) {k : Nat} (hk : v.ownBlock = some k) : k < w.heap.size := by
  obtain ⟨_, c, e⟩ := h.cells hk
  exact (Array.getElem?_eq_some_iff.1 e).1
theorem RowT.Own.below {w w' : World} {base : Nat} {v : Value} {L : List κ} (h : R.Own w base v L) (hb : Below w.heap.size w w') : R.Own w' base v L := h.keep (fun k hk => hb.block k (h.lt hk))
theorem RowT.Own.open {w : World} {base : Nat} {v : Value} {L : List κ} (I : R.Is) (h : R.Own w base v L) (ok : ∀ h ∈ L, R.ok h) : ∃ a c, v = .slice a L.length c ∧ R.At w a L ∧ L.length ≤ c ∧ (∀ b o, a = some ⟨b, o, none⟩ → v.ownBlock = some b) := by
  rcases h.2 with ⟨rfl, hn⟩ | ⟨g, cap, cur, rfl, hbg, hg, hnc, hcm, hcs, htake⟩
  · obtain rfl : L = [] := List.eq_nil_of_length_eq_zero hn
    exact ⟨none, 0, rfl, .inl rfl, Nat.le_refl _, fun b o e => by cases e⟩
  · refine ⟨some ⟨g, 0, none⟩, cap, rfl, .inr ⟨g, 0, rfl, (Array.getElem?_eq_some_iff.1 hg).1, fun i x hx j u hj => ?_⟩, hnc, fun b o e => by cases e; rfl⟩
    have e := RowT.flat_get I ok hx hj
    rw [Nat.zero_add, cell_of_row w g _ cur R.e (0, 0) hg]
    rw [← htake, List.getElem?_take] at e
    split at e
    · simpa using e
    · cases e
theorem RowT.own_nil (R : RowT κ) (w : World) (base : Nat) : R.Own w base (.slice none 0 0) [] := ⟨by simp [RowT.flat], .inl ⟨rfl, rfl⟩⟩
theorem RowT.Own.mono {w : World} {base b2 : Nat} {v : Value} {L : List κ} (h : R.Own w base v L) (hb : b2 ≤ base) : R.Own w b2 v L := by
  refine ⟨h.1, ?_⟩
  rcases h.2 with hn | ⟨g, cap, cur, rfl, hbg, rest⟩
  · exact .inl hn
  · exact .inr ⟨g, cap, cur, rfl, Nat.le_trans hb hbg, rest⟩
theorem RowT.run_app (I : R.Is) (w : World) (base : Nat) (v : Value) (L : List κ) (a : Option Addr) (M : List κ) (c : Nat) (hown : R.Own w base v L) (hb : R.At w a M) (ok : ∀ h ∈ M, R.ok h) (h63 : L.length + M.length ≤ maxLen) (h : ((L.length + M.length) + (L.length + M.length) / 4 + 192) * R.bytes ≤ 281474976710656) (hbase : base ≤ w.heap.size) :
    ∃ v' w', (Builtin.append_ #[R.t, R.t] R.t #[v, .slice a M.length c]).run Try.prog w = .ok v' w' ∧ R.Own w' base v' (L ++ M) ∧ w.grownBy w' v.ownBlock ∧ (v'.ownBlock = v.ownBlock ∨ v'.ownBlock = some w.heap.size) := by
  obtain ⟨i, hi, hz, hs, hby⟩ := info_parts I.info
  have zc : (Value.agg (R.c R.z).toArray).cells.size = R.k := by
    show (R.c R.z).toArray.size = R.k
    rw [List.size_toArray, I.len _ I.zok]
  cases a with
  | some ad =>
    have hnews : ∀ j u, (R.flat M)[j]? = some u → w.cell? (ad.add j) = some u := fun j u hj => by
      rcases hb with rfl | ⟨b, off, e, _, hc⟩
      · simp [RowT.flat] at hj
      · cases e
        obtain ⟨k, x, r, rfl, hx, hr⟩ := RowT.flat_inv I ok hj
        rw [Addr.add_mid, ← Nat.add_assoc]
        exact hc k x hx r u hr
    obtain ⟨v', w', hr, h2, h3, h5⟩ := app_at (P := Try.prog) w base R.t R.t R.e i _ R.k R.bytes I.und hi hz hs hby zc I.kpos v L.length (R.flat L) hown ad M.length c (R.flat M) (by rw [RowT.flat_len I ok, Nat.mul_comm]) hnews (RowT.flat_one I M) h63 h hbase
    refine ⟨v', w', hr, ?_, h3, h5⟩
    unfold RowT.Own
    rw [List.length_append, RowT.flat_app]
    exact h2
  | none =>
    obtain rfl : M = [] := by
      rcases hb with rfl | ⟨b, off, e, _⟩
      · rfl
      · cases e
    rcases hown.2 with ⟨rfl, hn⟩ | ⟨g, cap, cur, rfl, hbg, hg, hnc, rest⟩
    · refine ⟨.slice none 0 0, w, ?_, by rw [List.append_nil]; exact hown, ⟨rfl, rfl, rfl, Nat.le_refl _, fun _ _ _ => rfl⟩, .inl rfl⟩
      simp [Builtin.append_, run_underlying I.und, sizeOf, typeInfo, hi, Builtin.lenOf, Builtin.firstCells, loadCells, loadCellsFrom]
    · refine ⟨.slice (some ⟨g, 0, none⟩) L.length cap, w, ?_, by rw [List.append_nil]; exact hown, ⟨rfl, rfl, rfl, Nat.le_refl _, fun _ _ _ => rfl⟩, .inl rfl⟩
      simp [Builtin.append_, run_underlying I.und, sizeOf, typeInfo, hi, Builtin.lenOf, Builtin.firstCells, hnc, storeCells]
theorem RowT.lit (R : RowT κ) (w : World) (h : κ) (t : TypeId) : R.At (w.alloc (.cells (R.c h).toArray t)) (some ⟨w.heap.size, 0, none⟩) [h] :=
  .inr ⟨w.heap.size, 0, rfl, by simp, fun i x hx j v hj => by
    have hl := (List.getElem?_eq_some_iff.1 hx).1
    obtain rfl : i = 0 := by simp at hl; omega
    simp at hx
    subst hx
    rw [Nat.mul_zero, Nat.add_zero, Nat.zero_add]
    exact cell_new w (R.c h) t j v hj⟩
theorem RowT.run_bs (I : R.Is) (h : κ) (ok : R.ok h) (w : World) : (Instr.buildSlice R.t 1 #[(0, .agg (R.c h).toArray)]).run Try.prog w = .ok (.slice (some ⟨w.heap.size, 0, none⟩) 1 1) (w.alloc (.cells (R.c h).toArray R.e)) := by
  obtain ⟨ie, hi, hz, hs, hby⟩ := info_parts I.info
  refine run_buildSlice w R.t R.e 1 _ (R.c h).toArray ie _ I.und hi hz (by rw [hs]; have := I.kmax; have := I.kpos; omega) (by rw [hs]; have := I.kmax; have := I.kpos; omega) ?_
  rw [hs]
  have := Go.Great.fill_whole (s := R.k) I.kpos [.agg (R.c h).toArray] ((Array.range (1 * R.k)).map ((Value.agg (R.c R.z).toArray).cells[· % (Value.agg (R.c R.z).toArray).cells.size]!)) (by intro v hv; simp at hv; subst hv; show (R.c h).toArray.size = R.k; rw [List.size_toArray, I.len _ ok]) (by simp)
  simpa [Value.cells] using this
theorem RowT.run_push (I : R.Is) (w : World) (base : Nat) (v : Value) (L : List κ) (x : κ) (hown : R.Own w base v L) (ok : R.ok x) (h63 : L.length + 1 ≤ maxLen) (h : ((L.length + 1) + (L.length + 1) / 4 + 192) * R.bytes ≤ 281474976710656) (hbase : base ≤ w.heap.size) :
    ∃ sv w1 v' w', (Instr.buildSlice R.t 1 #[(0, .agg (R.c x).toArray)]).run Try.prog w = .ok sv w1 ∧ (Builtin.append_ #[R.t, R.t] R.t #[v, sv]).run Try.prog w1 = .ok v' w' ∧ R.Own w' base v' (L ++ [x]) ∧ Below w.heap.size w w1 ∧ w1.heap.size = w.heap.size + 1 ∧ w1.grownBy w' v.ownBlock ∧ (v'.ownBlock = v.ownBlock ∨ v'.ownBlock = some w1.heap.size) := by
  have b1 : Below w.heap.size w (w.alloc (.cells (R.c x).toArray R.e)) := (Below.refl _ _).alloc (Nat.le_refl _) _
  obtain ⟨v', w', e, o, g, q⟩ := RowT.run_app I _ base v L _ [x] 1 (hown.below b1) (RowT.lit R w x R.e) (fun y hy => by rw [List.mem_singleton.1 hy]; exact ok) h63 h (Nat.le_trans hbase b1.size)
  exact ⟨_, _, v', w', RowT.run_bs I x ok w, e, o, b1, by simp, g, q⟩
theorem RowT.sz (I : R.Is) : (Try.prog.info? R.e).map (·.size) = some R.k := by
  have := I.info
  cases q : Try.prog.info? R.e with
  | none => rw [q] at this; cases this
  | some i => rw [q] at this; simp at this ⊢; exact this.2.1
theorem RowT.ld (I : R.Is) {w : World} {b o : Nat} {x : κ} (hx : R.ok x) (h : w.rangeAt b o (R.c x)) : (Instr.loadAt R.e (.pointer (some ⟨b, o, none⟩))).run Try.prog w = .ok (.agg (R.c x).toArray) w := by
  obtain ⟨d, hd, hr⟩ := I.row
  exact run_loadAt_mid (P := Try.prog) w b o R.e (R.c x) d h hd hr (by rw [I.len x hx]; exact RowT.sz I)
theorem RowT.take_seg {α : Type} {cur FA y FB x : List α} {N o : Nat} (h : cur.take N = FA ++ y ++ FB) (hN : N = FA.length + y.length + FB.length) (ho : FA.length = o) (hx : x.length = y.length) : (cur.take o ++ x ++ cur.drop (o + x.length)).take N = FA ++ x ++ FB := by
  obtain ⟨R, hR⟩ : ∃ R, cur = FA ++ y ++ FB ++ R := ⟨cur.drop N, by rw [← h, List.take_append_drop]⟩
  subst hR
  have e1 : (FA ++ y ++ FB ++ R).take o = FA := by rw [← ho]; simp [List.append_assoc]
  have e2 : (FA ++ y ++ FB ++ R).drop (o + x.length) = FB ++ R := by
    rw [← ho, hx, ← List.length_append, List.append_assoc (FA ++ y), List.drop_left]
  rw [e1, e2, hN]
  rw [show FA ++ x ++ (FB ++ R) = (FA ++ x ++ FB) ++ R by simp]
  rw [show FA.length + y.length + FB.length = (FA ++ x ++ FB).length by simp [hx]; omega]
  exact List.take_left
theorem RowT.own_set (I : R.Is) {w : World} {base : Nat} {v : Value} {L : List κ} (own : R.Own w base v L) (ok : ∀ x ∈ L, R.ok x) {i : Nat} (hi : i < L.length) {x : κ} (hx : R.ok x) :
    ∃ g cap, v = .slice (some ⟨g, 0, none⟩) L.length cap ∧ g < w.heap.size ∧ ∃ w', (Instr.storeAt R.e (.pointer (some ⟨g, R.k * i, none⟩)) (.agg (R.c x).toArray)).run Try.prog w = .ok () w' ∧ R.Own w' base v (L.set i x) ∧ Tch (fun j => v.ownBlock = some j) w w' ∧ w'.heap.size = w.heap.size := by
  rcases own.2 with ⟨rfl, hn⟩ | ⟨g, cap, cur, rfl, hbg, hg, hnc, hcm, hcs, htake⟩
  · omega
  · have hkn : R.k * i + R.k ≤ R.k * cap := by rw [← Nat.mul_succ]; exact Nat.mul_le_mul_left _ (by omega)
    refine ⟨g, cap, rfl, (Array.getElem?_eq_some_iff.1 hg).1, w.setRow g (cur.toList.take (R.k * i) ++ R.c x ++ cur.toList.drop (R.k * i + (R.c x).length)).toArray, ?_, ?_, setRow_tch w g _, by simp [World.setRow]⟩
    · have hlen := I.len x hx
      have hb : R.k * i + R.k ≤ cur.size := by rw [hcs, Nat.mul_comm cap]; exact hkn
      have h := run_storeCells_at Try.prog g (R.k * i) R.e (R.c x) 0 cur w hg (by rw [hlen]; omega) (fun v hv => I.one x v hv)
      rw [Nat.add_zero] at h
      have hs := RowT.sz I
      cases hq : Try.prog.info? R.e with
      | none => rw [hq] at hs; simp at hs
      | some ii =>
        rw [hq] at hs
        simp at hs
        have hcz : (R.c x).toArray.size = ii.size := by simp [hlen, hs]
        simp only [Instr.storeAt, Instr.sureAddr, Sem.run_bind, Sem.run_pure, Result.andThen_ok, storeVar, sizeOf, typeInfo, hq, Value.cells]
        simp [typeInfo, hq, hlen, hs, h]
    · have hA : ∃ A y B, L = A ++ y :: B ∧ A.length = i := ⟨L.take i, L[i], L.drop (i + 1), by rw [← List.drop_eq_getElem_cons hi, List.take_append_drop], by simp; omega⟩
      obtain ⟨A, y, B, rfl, hA⟩ := hA
      have okA : ∀ x ∈ A, R.ok x := fun x hx => ok x (by simp [hx])
      have okB : ∀ x ∈ B, R.ok x := fun x hx => ok x (by simp [hx])
      have oky : R.ok y := ok y (by simp)
      have hset : (A ++ y :: B).set i x = A ++ x :: B := by rw [← hA, List.set_append_right _ _ (Nat.le_refl _)]; simp
      rw [hset]
      have hfl : R.flat (A ++ x :: B) = R.flat A ++ R.c x ++ R.flat B := by rw [RowT.flat_app, RowT.flat_cons]; simp
      have hfl' : R.flat (A ++ y :: B) = R.flat A ++ R.c y ++ R.flat B := by rw [RowT.flat_app, RowT.flat_cons]; simp
      rw [hfl'] at htake
      have hlA := RowT.flat_len I okA
      have hlB := RowT.flat_len I okB
      have l1 := I.len y oky
      have l2 := I.len x hx
      have hlenx : (A ++ x :: B).length = (A ++ y :: B).length := by simp
      have hsum : R.k * (A ++ y :: B).length = R.k * A.length + R.k + R.k * B.length := by
        simp only [List.length_append, List.length_cons, Nat.mul_add, Nat.mul_one]; omega
      refine ⟨?_, Or.inr ⟨g, cap, _, by rw [hlenx], hbg, setRow_heap w g cur _ R.e (0, 0) hg, by rw [hlenx]; exact hnc, hcm, ?_, ?_⟩⟩
      · rw [hfl, hlenx, Nat.mul_comm, hsum]; simp only [List.length_append]; omega
      · rw [← hcs]
        have : cur.toList.length = cur.size := by simp
        have hb : R.k * i + R.k ≤ cur.size := by rw [hcs, Nat.mul_comm cap]; exact hkn
        simp only [List.size_toArray, List.length_append, List.length_take, List.length_drop]
        omega
      · rw [List.toList_toArray, hfl, hlenx]
        refine RowT.take_seg htake ?_ (by rw [hlA, hA]) (by omega)
        rw [Nat.mul_comm, hsum]
        omega
end
end Go.Proofs.Ytlejbdepoemcjaa
namespace Go.Proofs.Ytlejbdepoemcjaa
open Go.RowKit Sq
set_option linter.unusedVariables false
set_option linter.unusedSimpArgs false
def Elt.c (e : Elt) : List Value := e.id.c ++ (e.bh.c ++ [.bool e.sh])
def Elt.wf (e : Elt) : Prop := e.id.ok ∧ e.bh.ok
def zElt : Elt := ⟨zId, zId, false⟩
theorem zElt_wf : zElt.wf := ⟨zId_ok, zId_ok⟩
theorem Elt.len {e : Elt} (h : e.wf) : e.c.length = 67 := by simp [Elt.c, IdK.len h.1, IdK.len h.2]
theorem Elt.one (e : Elt) : ∀ v ∈ e.c, v.oneCell' = true := by
  intro v hv
  simp only [Elt.c, List.mem_append, List.mem_cons, List.not_mem_nil, or_false] at hv
  rcases hv with h | h | rfl
  · exact IdK.one _ v h
  · exact IdK.one _ v h
  · rfl
def RE : RowT Elt := ⟨Elt.c, Elt.wf, 67, 88, 100, 93, zElt⟩
theorem RE_is : RE.Is := ⟨zElt_wf, fun _ h => Elt.len h, Elt.one, Try.underlying93, by kernel_rfl, ⟨_, Try.underlying100, rfl⟩, by decide, by decide⟩
section
variable {w : World} {b o : Nat} {x : Elt}
theorem ld_el (hx : x.wf) (h : w.rangeAt b o x.c) : (Instr.loadAt 100 (.pointer (some ⟨b, o, none⟩))).run Try.prog w = .ok (.agg x.c.toArray) w := RowT.ld RE_is hx h
theorem el_id (hx : x.wf) (h : w.rangeAt b o x.c) : (Instr.loadAt 32 (.pointer (some ⟨b, o + 0, none⟩))).run Try.prog w = .ok x.id.v w :=
  run_loadAt_mid (P := Try.prog) w b o 32 x.id.c _ (fun j v hv => h j v (by rw [Elt.c, List.getElem?_append_left (List.getElem?_eq_some_iff.1 hv).1]; exact hv)) Try.underlying32 rfl (by rw [IdK.len hx.1]; exact szId)
theorem el_bh (hx : x.wf) (h : w.rangeAt b o x.c) : (Instr.loadAt 32 (.pointer (some ⟨b, o + 33, none⟩))).run Try.prog w = .ok x.bh.v w :=
  run_loadAt_mid (P := Try.prog) w b (o + 33) 32 x.bh.c _ (fun j v hv => by
    have hl := (List.getElem?_eq_some_iff.1 hv).1
    rw [Nat.add_assoc]
    exact h (33 + j) v (by rw [Elt.c, List.getElem?_append_right (by rw [IdK.len hx.1]; omega), IdK.len hx.1, show 33 + j - 33 = j by omega, List.getElem?_append_left hl]; exact hv)) Try.underlying32 rfl (by rw [IdK.len hx.2]; exact szId)
theorem el_sh (hx : x.wf) (h : w.rangeAt b o x.c) : (Instr.loadAt 4 (.pointer (some ⟨b, o + 66, none⟩))).run Try.prog w = .ok (.bool x.sh) w := by
  have l1 := IdK.len hx.1
  have l2 := IdK.len hx.2
  have hc : w.cell? ⟨b, o + 66, none⟩ = some (.bool x.sh) := h 66 _ (by rw [Elt.c, List.getElem?_append_right (by omega), l1, List.getElem?_append_right (by omega), l2]; rfl)
  go_simp
end
theorem ix_el {b o m c i : Nat} (hi : i < m) (hm : m ≤ 1400000000001) (W : World) : (Instr.indexAt 93 (.slice (some ⟨b, o, none⟩) m c) (.int .i64 (i : Int))).run Try.prog W = .ok (.pointer (some ⟨b, o + 67 * i, none⟩)) W := by
  have h2 : m ≤ 9223372036854775807 := by omega
  rw [Nat.mul_comm]
  go_simp
theorem fg_100_0 (b o : Nat) (w : World) : (Instr.fieldAt 100 (.pointer (some ⟨b, o, none⟩)) 0).run Try.prog w = .ok (.pointer (some ⟨b, o + 0, none⟩)) w := by go_simp
theorem fg_100_1 (b o : Nat) (w : World) : (Instr.fieldAt 100 (.pointer (some ⟨b, o, none⟩)) 1).run Try.prog w = .ok (.pointer (some ⟨b, o + 33, none⟩)) w := by go_simp
theorem fg_100_2 (b o : Nat) (w : World) : (Instr.fieldAt 100 (.pointer (some ⟨b, o, none⟩)) 2).run Try.prog w = .ok (.pointer (some ⟨b, o + 66, none⟩)) w := by go_simp
theorem fg_95_0 (b o : Nat) (w : World) : (Instr.fieldAt 95 (.pointer (some ⟨b, o, none⟩)) 0).run Try.prog w = .ok (.pointer (some ⟨b, o + 0, none⟩)) w := by go_simp
theorem len_els (a : Option Addr) (n c : Nat) (W : World) (ty : TypeId) : (Builtin.len_ #[93] ty #[.slice a n c]).run Try.prog W = .ok (.int .i64 (n : Int)) W := by go_simp
theorem build_elz (W : World) : (Instr.build 100 #[]).run Try.prog W = .ok (.agg zElt.c.toArray) W := by kernel_rfl
structure RefAt (w : World) (base d : Nat) (v : Value) (R : List Elt) : Prop where
  c0 : w.heap[d]? = some (.cells #[v] 95 (0, 0))
  own : RE.Own w base v R
  ok : RefOk R
  hd : base ≤ d
  len : R.length ≤ 1400000000000
theorem RefAt.ne {w : World} {base d : Nat} {v : Value} {R : List Elt} (h : RefAt w base d v R) : v.ownBlock ≠ some d := fun e => by
  obtain ⟨_, c, q⟩ := h.own.cells e
  rw [h.c0] at q
  simp [RE] at q
theorem RefAt.keep {w w' : World} {base d : Nat} {v : Value} {R : List Elt} (h : RefAt w base d v R) (h1 : w'.heap[d]? = w.heap[d]?) (h2 : ∀ k, v.ownBlock = some k → w'.heap[k]? = w.heap[k]?) : RefAt w' base d v R := ⟨h1.trans h.c0, h.own.keep h2, h.ok, h.hd, h.len⟩
theorem RefAt.lt {w : World} {base d : Nat} {v : Value} {R : List Elt} (h : RefAt w base d v R) : d < w.heap.size := (Array.getElem?_eq_some_iff.1 h.c0).1
theorem RefAt.below {w w' : World} {base d : Nat} {v : Value} {R : List Elt} (h : RefAt w base d v R) (b : Below w.heap.size w w') : RefAt w' base d v R := h.keep (b.block d h.lt) (fun k hk => b.block k (h.own.lt hk))
theorem RefAt.wf {w : World} {base d : Nat} {v : Value} {R : List Elt} (h : RefAt w base d v R) : ∀ e ∈ R, RE.ok e := fun e he => ⟨(h.ok.ok e he).1, (h.ok.ok e he).2.1⟩
theorem RefAt.open {w : World} {base d : Nat} {v : Value} {R : List Elt} (h : RefAt w base d v R) : ∃ a c, v = .slice a R.length c ∧ RE.At w a R := by
  obtain ⟨a, c, e, ha, _⟩ := h.own.open RE_is h.wf
  exact ⟨a, c, e, ha⟩
theorem ld_all {w : World} {d : Nat} {v : Value} {a : Option Addr} {n c : Nat} (h : w.heap[d]? = some (.cells #[v] 95 (0, 0))) (e : v = .slice a n c) : (Instr.loadAt 93 (.pointer (some ⟨d, 0 + 0, none⟩))).run Try.prog w = .ok v w := by
  have hc : w.cell? ⟨d, 0, none⟩ = some v := by rw [cell_of_row w d 0 _ _ _ h]; rfl
  subst e
  rw [Nat.add_zero]
  go_simp
theorem st_all {w : World} {d : Nat} {v : Value} {a : Option Addr} {n c : Nat} (h : w.heap[d]? = some (.cells #[v] 95 (0, 0))) : (Instr.storeAt 93 (.pointer (some ⟨d, 0 + 0, none⟩)) (.slice a n c)).run Try.prog w = .ok () (w.setCell ⟨d, 0, none⟩ (.slice a n c)) ∧ (w.setCell ⟨d, 0, none⟩ (.slice a n c)).heap[d]? = some (.cells #[.slice a n c] 95 (0, 0)) := by
  have hc : w.cell? ⟨d, 0, none⟩ = some v := by rw [cell_of_row w d 0 _ _ _ h]; rfl
  have hf := frozen_of_row w d 0 _ _ h
  refine ⟨by rw [Nat.add_zero]; go_simp, ?_⟩
  exact Go.heap_setCell_same _ _ 0 _ _ _ h
end Go.Proofs.Ytlejbdepoemcjaa
