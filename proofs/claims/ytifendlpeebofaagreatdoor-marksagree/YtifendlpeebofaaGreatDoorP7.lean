import Derived.Test.YtifendlpeebofaaGreatDoorP6
import Derived.Test.YtifendlpeebofaaGreatDoorTie
import Derived.Test.YtifendlpeebofaaGreatDoorCards
import Derived.Lib.LaidU8T
import Derived.Lib.LaidU8
import Derived.LaidMore
import Derived.MakeChecks
import Derived.Lay
import Derived.Lib.SmallJoins
import Derived.Stop.Joined
import Derived.SevenTiedAt
import Derived.SizedLaws
import Derived.Deep.DeepHandedRow
import Derived.JoinedCond
import Derived.Test.YtifendlpeebofaaGreatDoorP0
import Derived.Test.YtifendlpeebofaaGreatDoorP3
set_option linter.unusedSimpArgs false
set_option linter.unusedVariables false
set_option maxRecDepth 100000
set_option maxHeartbeats 4000000
namespace Go.Proofs.YtifendlpeebofaaGreatDoor
open Go.RowKit Go.Shelf Sq
theorem Gr.lt {w W : World} {sb mb : Nat} {E : List Elt} {L : List MkV} (h : Gr w sb mb E L W) : L.length ≤ 900000000000 := by
  obtain ⟨⟨s, m, _, _, _, hm, e3, _⟩, _⟩ := h
  rw [← e3]; exact hm.n
section
variable {w W W' : World} {sb mb : Nat} {E : List Elt} {L : List MkV}
structure SpW (E : List Elt) (L : List MkV) (v : Value) (b : Nat) (S : List SpV) (W : World) : Prop where
  lo : RSp.Lo W b v S
  is : SpansIs (hE E L) S
  ok : ∀ p ∈ S, p.ok
  len : S.length ≤ 2000000000000
end
attribute [local go_sem] Oper.semAt_some
theorem szN (n : Int) : ∃ s : Nat, szP n = s ∧ s ≤ 12 := by
  have := szP_bd n
  exact ⟨(szP n).toNat, by omega, by omega⟩
end Go.Proofs.YtifendlpeebofaaGreatDoor
namespace Go.Proofs.YtifendlpeebofaaGreatDoor
open Go.ChangeShapes Go.WideShapes Go.ChangeAt Go.RowKit Go.Shelf
def u8_ren : Go.Shelf.Ren := ⟨fun n => n, fun | 119 => 177 | 138 => 179 | 139 => 180 | n => n, fun | 3 => 1 | 4 => 2 | n => n⟩
theorem u8t : U8Types Tryz.prog u8_ren := ⟨Tryz.underlying5, Tryz.underlying177, Tryz.underlying179, Tryz.underlying180⟩
theorem u8x : U8Extra Tryz.prog u8_ren := ⟨by kernel_rfl, by kernel_rfl, by kernel_rfl, by kernel_rfl, by kernel_rfl, by kernel_rfl, by kernel_rfl⟩
theorem dF : (Rows.laid_unicode_utf8_first : DataW Unit) = Lib.firstData := by kernel_rfl
theorem dA : (Rows.laid_unicode_utf8_acceptRanges : DataW Unit) = Lib.acceptData := by kernel_rfl
theorem tabs_of {W : World} {laid : List (String × DataW Unit)} (h : laidMet Tryz.prog laid W) (h3 : ("unicode/utf8.first", (Rows.laid_unicode_utf8_first : DataW Unit)) ∈ laid) (h4 : ("unicode/utf8.acceptRanges", (Rows.laid_unicode_utf8_acceptRanges : DataW Unit)) ∈ laid) : K.V.Tabs W := by
  rw [dF] at h3
  rw [dA] at h4
  exact utf8Tabs_of_readsT u8t u8x (Lib.laidMet.reads h h3) (Lib.laidMet.reads h h4)
theorem reach_opsM {H : Type} {ts : List TypeId} {ds : List (DataW H)} (hsz : (DataW.weightsEach Tryz.prog ts ds).all (· ≤ reachBytes) = true) (j : Nat) (ht : ts[j]? = some 22) {d : DataW H} (hd : ds[j]? = some d) {len : Nat}
    (h : d = .nil ∧ len = 0 ∨ ∃ el sp, d = .slice el sp ∧ el.length = len) : len ≤ 800000000000 := by
  rcases h with ⟨_, rfl⟩ | ⟨el, sp, rfl, rfl⟩
  · omega
  · have := sized_slice hsz (j := j) (t := 22) (e := 42) ht hd Tryz.underlying22
    rw [bytes_opM] at this
    simp only [reachBytes] at this
    omega
end Go.Proofs.YtifendlpeebofaaGreatDoor
namespace Go.Proofs.YtifendlpeebofaaGreatDoor
open Go.RowKit Go.Shelf Sq
/-! ### of each name the last mark that covers a rank -/
def isN (nm : ByteArray) (x : MkV) : Bool := decide (x.nm = nm)
theorem find_cons_nm (nm : ByteArray) (p : MkV → Bool) (x : MkV) (l : List MkV) : ((x :: l).find? fun y => isN nm y && p y) = if x.nm = nm ∧ p x = true then some x else l.find? fun y => isN nm y && p y := by
  rw [List.find?_cons]
  unfold isN
  by_cases h : x.nm = nm ∧ p x = true
  · rw [if_pos h]; simp [h.1, h.2]
  · rw [if_neg h]
    have : (decide (x.nm = nm) && p x) = false := by
      by_cases e : x.nm = nm
      · have : p x = false := by
          cases q : p x with
          | false => rfl
          | true => exact absurd ⟨e, q⟩ h
        simp [this]
      · simp [e]
    rw [this]
theorem step_find (E : List Elt) (r : Int) : ∀ (l acc : List MkV), (acc.map (·.nm)).Nodup → ((l.foldl (covStep E r) acc).map (·.nm)).Nodup ∧ ∀ nm, (l.foldl (covStep E r) acc).find? (isN nm) = (acc.find? (isN nm)).or (l.find? fun y => isN nm y && covR E r y)
  | [], acc, h => ⟨h, fun nm => by simp⟩
  | x :: l, acc, h => by
    rw [List.foldl_cons]
    by_cases hh : (acc.any fun y => decide (y.nm = x.nm)) = true
    · have e : covStep E r acc x = acc := by unfold covStep; rw [if_pos hh]
      rw [e]
      obtain ⟨h1, h2⟩ := step_find E r l acc h
      refine ⟨h1, fun nm => ?_⟩
      rw [h2, find_cons_nm]
      by_cases q : x.nm = nm ∧ covR E r x = true
      · rw [if_pos q]
        cases f : acc.find? (isN nm) with
        | some y => rfl
        | none =>
          obtain ⟨y, hy, hy2⟩ := List.any_eq_true.1 hh
          have := List.find?_eq_none.1 f y hy
          unfold isN at this
          rw [← q.1] at this
          exact absurd hy2 this
      · rw [if_neg q]
    · by_cases hc : (reachP E x).1 ≤ r ∧ r < (reachP E x).2
      · have e : covStep E r acc x = acc ++ [x] := by unfold covStep; rw [if_neg hh, if_pos hc]
        have hn : x.nm ∉ acc.map (·.nm) := fun q => by
          obtain ⟨y, hy, e2⟩ := List.mem_map.1 q
          exact hh (List.any_eq_true.2 ⟨y, hy, decide_eq_true e2⟩)
        rw [e]
        obtain ⟨h1, h2⟩ := step_find E r l (acc ++ [x]) (by
          rw [List.map_append, List.nodup_append]
          refine ⟨h, by simp, fun a ha b hb e2 => ?_⟩
          simp at hb
          rw [← hb, ← e2] at hn
          exact hn ha)
        refine ⟨h1, fun nm => ?_⟩
        have cr : covR E r x = true := decide_eq_true hc
        rw [h2, find_cons_nm, List.find?_append, Option.or_assoc]
        congr 1
        by_cases q : x.nm = nm
        · rw [if_pos ⟨q, cr⟩]
          have : isN nm x = true := decide_eq_true q
          simp [List.find?_cons, this]
        · rw [if_neg (fun z => q z.1)]
          have : isN nm x = false := decide_eq_false q
          simp [List.find?_cons, this]
      · have e : covStep E r acc x = acc := by unfold covStep; rw [if_neg hh, if_neg hc]
        rw [e]
        obtain ⟨h1, h2⟩ := step_find E r l acc h
        refine ⟨h1, fun nm => ?_⟩
        rw [h2, find_cons_nm, if_neg (fun q => hc (of_decide_eq_true q.2))]
theorem cov_nodup (E : List Elt) (L : List MkV) (r : Int) : ((covL E L r).map (·.nm)).Nodup := (step_find E r L.reverse [] (by simp)).1
theorem cov_find (E : List Elt) (L : List MkV) (r : Int) (nm : ByteArray) : (covL E L r).find? (isN nm) = (L.filter fun x => decide (x.nm = nm) && covR E r x).getLast? := by
  unfold covL
  rw [(step_find E r L.reverse [] (by simp)).2]
  rw [show ([] : List MkV).find? (isN nm) = none from rfl, Option.none_or, ← List.head?_filter, List.filter_reverse, List.head?_reverse]
  rfl
theorem cov_mem {E : List Elt} {L : List MkV} {r : Int} {x : MkV} : x ∈ covL E L r ↔ (L.filter fun y => decide (y.nm = x.nm) && covR E r y).getLast? = some x := by
  rw [← cov_find]
  constructor
  · intro h
    cases f : (covL E L r).find? (isN x.nm) with
    | none => exact absurd (show isN x.nm x = true from decide_eq_true rfl) (List.find?_eq_none.1 f x h)
    | some y =>
      have hy := List.mem_of_find?_eq_some f
      have e0 : isN x.nm y = true := List.find?_some f
      have e : y.nm = x.nm := of_decide_eq_true e0
      have nd := cov_nodup E L r
      obtain ⟨i, hi⟩ := List.mem_iff_getElem?.1 h
      obtain ⟨j, hj⟩ := List.mem_iff_getElem?.1 hy
      have hil := (List.getElem?_eq_some_iff.1 hi).1
      have hjl := (List.getElem?_eq_some_iff.1 hj).1
      have : i = j := (List.getElem?_inj (by rw [List.length_map]; exact hil) nd).1 (by rw [List.getElem?_map, List.getElem?_map, hi, hj]; simp [e])
      rw [this, hj] at hi
      exact hi
  · exact fun h => List.mem_of_find?_eq_some h
theorem spL_mem {f t : Int} {C : List MkV} {p : SpV} : p ∈ spL f t C ↔ ∃ x ∈ C, x.v.k ≠ 0 ∧ p = ⟨f, t, x.nm, x.v⟩ := by
  unfold spL
  rw [List.mem_map]
  constructor
  · rintro ⟨x, hx, rfl⟩
    obtain ⟨h1, h2⟩ := List.mem_filter.1 hx
    exact ⟨x, h1, of_decide_eq_true h2, rfl⟩
  · rintro ⟨x, h1, h2, rfl⟩
    exact ⟨x, List.mem_filter.2 ⟨h1, decide_eq_true h2⟩, rfl⟩
theorem ov_mem {E : List Elt} {L : List MkV} {r f t : Int} {p : SpV} : p ∈ spL f t (covL E L r) ↔ p.fr = f ∧ p.to = t ∧ hR E L p.nm r = some p.v := by
  rw [spL_mem]
  constructor
  · rintro ⟨x, hx, hk, rfl⟩
    refine ⟨rfl, rfl, ?_⟩
    have := cov_mem.1 hx
    unfold hR
    rw [this]
    show (if x.v.k = 0 then none else some x.v) = _
    rw [if_neg hk]
  · rintro ⟨rfl, rfl, h⟩
    unfold hR at h
    cases q : (L.filter fun x => decide (x.nm = p.nm) && covR E r x).getLast? with
    | none => rw [q] at h; cases h
    | some x =>
      rw [q] at h
      have h' : (if x.v.k = 0 then none else some x.v) = some p.v := h
      have hm := List.mem_of_getLast? q
      have hn : x.nm = p.nm := by
        have := (List.mem_filter.1 hm).2
        simp only [Bool.and_eq_true, decide_eq_true_eq] at this
        exact this.1
      split at h'
      · cases h'
      · rename_i hk
        refine ⟨x, cov_mem.2 (by rw [hn]; exact q), hk, ?_⟩
        rw [hn, Option.some.inj h']
theorem ov_nodup (E : List Elt) (L : List MkV) (r f t : Int) : ((spL f t (covL E L r)).map (·.nm)).Nodup := by
  have e : (spL f t (covL E L r)).map (·.nm) = ((covL E L r).filter fun x => decide (x.v.k ≠ 0)).map (·.nm) := by
    unfold spL
    rw [List.map_map]
    rfl
  rw [e]
  exact (cov_nodup E L r).sublist (List.Sublist.map _ List.filter_sublist)
/-! ### runs over one place -/
theorem run_some {E : List Elt} {L : List MkV} {nm : ByteArray} {j : Int} {v : VaV} (h : hE E L nm j = some v) : ∃ p, Run (hE E L) p ∧ p.nm = nm ∧ p.fr ≤ j ∧ j < p.to := by
  have hC : cvN E L nm ≠ [] := fun q => by
    unfold hE at h
    rw [q] at h
    simp [valC, lastI, valI] at h
  obtain ⟨c, hc⟩ := List.exists_mem_of_ne_nil _ hC
  have k := cuts_of (cvN E L nm)
  have h2 := cuts_two hc (cvN_lt c hc)
  have r := runsN_to k nm ((cutsL (cvN E L nm)).length - 1) (by omega)
  have hz : j < (cutsL (cvN E L nm)).getD ((cutsL (cvN E L nm)).length - 1) 0 := by
    by_cases q : j < (cutsL (cvN E L nm)).getD ((cutsL (cvN E L nm)).length - 1) 0
    · exact q
    · have := k.last (m := (cutsL (cvN E L nm)).length - 1) (by omega) (getD_get (by omega)) (show (cutsL (cvN E L nm)).getD ((cutsL (cvN E L nm)).length - 1) 0 ≤ j by omega)
      unfold hE at h
      rw [this] at h
      cases h
  obtain ⟨p, hp, h3, h4⟩ := r.all j v hz h
  have := (((runs_mem (h := hE E L) hC cvN_lt (fun j => rfl)).1 p).1 hp)
  exact ⟨p, this.1, this.2, h3, h4⟩
def overB (j : Int) (p : SpV) : Bool := decide (p.fr ≤ j ∧ j < p.to)
theorem srt_nodup {h : ByteArray → Int → Option VaV} {S : List SpV} (a : SpansIs h S) : S.Nodup :=
  a.srt.imp fun {x y} q e => by
    subst e
    rw [cSp_self] at q
    omega
theorem over_names {E : List Elt} {L : List MkV} {S : List SpV} (a : SpansIs (hE E L) S) (j : Int) : ((S.filter (overB j)).map (·.nm)).Nodup ∧ ∀ nm, nm ∈ (S.filter (overB j)).map (·.nm) ↔ ∃ v, hE E L nm j = some v := by
  have key : ∀ p ∈ S.filter (overB j), Run (hE E L) p ∧ p.fr ≤ j ∧ j < p.to := fun p hp => by
    obtain ⟨h1, h2⟩ := List.mem_filter.1 hp
    exact ⟨(a.mem p).1 h1, of_decide_eq_true h2⟩
  constructor
  · rw [List.Nodup, List.pairwise_map]
    have nd : (S.filter (overB j)).Nodup := (srt_nodup a).sublist List.filter_sublist
    refine (List.pairwise_iff_forall_sublist.2 fun {p q} hs => ?_)
    have hp := key p (hs.subset (by simp))
    have hq := key q (hs.subset (by simp))
    have hne : p ≠ q := (List.pairwise_iff_forall_sublist.1 nd) hs
    exact fun e => hne (hp.1.eq hq.1 e hp.2.1 hp.2.2 hq.2.1 hq.2.2)
  · intro nm
    constructor
    · intro h
      obtain ⟨p, hp, rfl⟩ := List.mem_map.1 h
      have := key p hp
      exact ⟨p.v, this.1.2.1 j this.2.1 this.2.2⟩
    · rintro ⟨v, hv⟩
      obtain ⟨p, h1, rfl, h3, h4⟩ := run_some hv
      exact List.mem_map.2 ⟨p, List.mem_filter.2 ⟨(a.mem p).2 h1, decide_eq_true ⟨h3, h4⟩⟩, rfl⟩
theorem agree_len {E : List Elt} (ok : SeqOk E) {L : List MkV} {S O : List SpV} (a : SpansIs (hE E L) S) {r : Nat} (hr : r < E.length) (hs : E[r].sh = true) {f t : Int} (hO : O.Perm (spL f t (covL E L (r : Int)))) : (S.filter (overB (cntE E r : Int))).length = O.length := by
  obtain ⟨n1, m1⟩ := over_names a (cntE E r : Int)
  have n2 := ov_nodup E L (r : Int) f t
  have m2 : ∀ nm, nm ∈ (spL f t (covL E L (r : Int))).map (·.nm) ↔ ∃ v, hE E L nm (cntE E r : Int) = some v := fun nm => by
    rw [hE_rank ok L nm hr hs, List.mem_map]
    constructor
    · rintro ⟨p, hp, rfl⟩
      exact ⟨p.v, (ov_mem.1 hp).2.2⟩
    · rintro ⟨v, hv⟩
      exact ⟨⟨f, t, nm, v⟩, ov_mem.2 ⟨rfl, rfl, hv⟩, rfl⟩
  have pm : ((S.filter (overB (cntE E r : Int))).map (·.nm)).Perm ((spL f t (covL E L (r : Int))).map (·.nm)) := (List.perm_ext_iff_of_nodup n1 n2).2 fun nm => (m1 nm).trans (m2 nm).symm
  have := pm.length_eq
  rw [List.length_map, List.length_map] at this
  rw [this, hO.length_eq]
theorem agree_there {E : List Elt} (ok : SeqOk E) {L : List MkV} {S O : List SpV} (a : SpansIs (hE E L) S) {r : Nat} (hr : r < E.length) (hs : E[r].sh = true) {f t : Int} (hO : O.Perm (spL f t (covL E L (r : Int)))) {p : SpV} (hp : p ∈ S) (h1 : p.fr ≤ (cntE E r : Int)) (h2 : (cntE E r : Int) < p.to) : (⟨f, t, p.nm, p.v⟩ : SpV) ∈ O := by
  have := ((a.mem p).1 hp).2.1 _ h1 h2
  rw [hE_rank ok L p.nm hr hs] at this
  exact hO.mem_iff.2 (ov_mem.2 ⟨rfl, rfl, this⟩)
theorem run_in {E : List Elt} (ok : SeqOk E) {L : List MkV} {p : SpV} (h : Run (hE E L) p) : 0 ≤ p.fr ∧ p.fr < p.to ∧ p.to ≤ ((visE E true).length : Int) ∧ p.v.k ≠ 0 := by
  have a := h.2.1 p.fr (Int.le_refl _) h.1
  have b := h.2.1 (p.to - 1) (by have := h.1; omega) (by omega)
  refine ⟨?_, h.1, ?_, ?_⟩
  · by_cases q : p.fr < 0
    · rw [hE_out ok L p.nm (.inl q)] at a; cases a
    · omega
  · by_cases q : ((visE E true).length : Int) ≤ p.to - 1
    · rw [hE_out ok L p.nm (.inr q)] at b; cases b
    · omega
  · unfold hE valC valI at a
    split at a
    · split at a
      · split at a
        · cases a
        · rename_i hk
          rw [← Option.some.inj a]; exact hk
      · cases a
    · cases a
theorem run_apart {E : List Elt} {L : List MkV} {S : List SpV} (a : SpansIs (hE E L) S) {p q : SpV} (hp : p ∈ S) (hq : q ∈ S) (hne : p ≠ q) (e : p.nm = q.nm) : ¬ (p.to > q.fr ∧ p.fr < q.to) ∧ ((p.to = q.fr ∨ q.to = p.fr) → p.v ≠ q.v) := by
  have rp := (a.mem p).1 hp
  have rq := (a.mem q).1 hq
  constructor
  · rintro ⟨h1, h2⟩
    by_cases c : p.fr ≤ q.fr
    · exact hne (rp.eq rq e c (by omega) (Int.le_refl _) rq.1)
    · exact hne (rp.eq rq e (Int.le_refl _) rp.1 (by omega) (by omega))
  · rintro (h | h) ev
    · have := rq.2.1 q.fr (Int.le_refl _) rq.1
      rw [← e, ← h, ← ev] at this
      exact rp.2.2.2 this
    · have := rp.2.1 p.fr (Int.le_refl _) rp.1
      rw [e, ← h, ev] at this
      exact rq.2.2.2 this
/-! ### all elements shown, one behind the other -/
theorem seg_sh {a n : Nat} {y : Elt} (h : y ∈ seg a n) : y.sh = true := by
  obtain ⟨i, hi, rfl⟩ := List.mem_map.1 h
  rfl
theorem cnt_seg {k r : Nat} (h : r ≤ k) : cntE (seg 0 k) r = r := by
  unfold cntE
  rw [List.countP_eq_length.2 (fun y hy => by show (!true || y.sh) = true; rw [seg_sh (List.mem_of_mem_take hy)]; rfl), List.length_take, seg_len]
  omega
theorem vis_seg (k : Nat) : (visE (seg 0 k) true).length = k := by
  rw [← cntE_len (seg 0 k) (Nat.le_of_eq (seg_len 0 k)), cnt_seg (Nat.le_refl k)]
theorem idx_seg {k r : Nat} (ok : SeqOk (seg 0 k)) (h : r ≤ k) : idxE (seg 0 k) (r : Int) = (r : Int) := by
  rw [idx_cnt ok (by rw [seg_len]; exact h), cnt_seg h]
theorem cov_sub {E : List Elt} {L : List MkV} {r : Int} {x : MkV} (h : x ∈ covL E L r) : x ∈ L :=
  (List.mem_filter.1 (List.mem_of_getLast? (cov_mem.1 h))).1
/-! ### two runs of a name -/
theorem cSp_fr {p q : SpV} (h : cSp p q < 0) : p.fr ≤ q.fr := by
  unfold cSp or3 cI at h
  by_cases e : p.fr ≤ q.fr
  · exact e
  · rw [if_neg (show ¬ p.fr < q.fr by omega), if_pos (show q.fr < p.fr by omega)] at h
    simp at h
theorem two_runs {E : List Elt} {L : List MkV} {S : List SpV} (a : SpansIs (hE E L) S) {k i : Nat} (hk : k < i) {p q : SpV} (hp : S[k]? = some p) (hq : S[i]? = some q) (e : p.nm = q.nm) : ¬ p.to > q.fr ∧ (p.to = q.fr → p.v ≠ q.v) ∧ ¬ q.to = p.fr := by
  obtain ⟨lk, rfl⟩ := List.getElem?_eq_some_iff.1 hp
  obtain ⟨li, rfl⟩ := List.getElem?_eq_some_iff.1 hq
  have hs := (List.pairwise_iff_getElem.1 a.srt) k i lk li hk
  have le := cSp_fr hs
  have m1 := List.getElem_mem lk
  have m2 := List.getElem_mem li
  have r1 := ((a.mem _).1 m1).1
  have r2 := ((a.mem _).1 m2).1
  have hne : S[k] ≠ S[i] := fun q => by
    rw [q, cSp_self] at hs
    omega
  obtain ⟨h1, h2⟩ := run_apart a m1 m2 hne e
  exact ⟨fun q => h1 ⟨q, by omega⟩, fun q => h2 (.inl q), fun q => by omega⟩
/-! ### an element's marks against the runs over it -/
def cntA (S : List SpV) (e : Nat) (i : Nat) : Nat := ((S.take i).filter (overB (e : Int))).length
theorem cntA_snoc {S : List SpV} {e i : Nat} {x : SpV} (hx : S[i]? = some x) : cntA S e (i + 1) = cntA S e i + (if overB (e : Int) x = true then 1 else 0) := by
  unfold cntA
  rw [List.take_add_one, hx, List.filter_append, List.length_append]
  congr 1
  by_cases h : overB (e : Int) x = true
  · rw [if_pos h]; simp [h]
  · rw [if_neg h]; simp [h]
theorem cntA_le (S : List SpV) (e i : Nat) : cntA S e i ≤ i := by
  unfold cntA
  have h1 := List.length_filter_le (overB (e : Int)) (S.take i)
  have h2 := List.length_take_le i S
  omega
def thrA (O : List SpV) (nm : ByteArray) (j : Nat) : Bool := (O.take j).any fun y => decide (y.nm = nm)
theorem thrA_snoc {O : List SpV} {nm : ByteArray} {j : Nat} {y : SpV} (hy : O[j]? = some y) : thrA O nm (j + 1) = (thrA O nm j || decide (y.nm = nm)) := by
  unfold thrA
  rw [List.take_add_one, hy, List.any_append]
  simp
structure OvK (S O : List SpV) (e : Nat) : Prop where
  len : cntA S e S.length = O.length
  hit : ∀ x ∈ S, overB (e : Int) x = true → thrA O x.nm O.length = true
  of : ∀ x ∈ S, overB (e : Int) x = true → ∀ y ∈ O, y.nm = x.nm → y.v = x.v ∧ y.fr = (e : Int) ∧ y.to = (e : Int) + 1
theorem ovk_of {k : Nat} {L : List MkV} {S O : List SpV} (ok : SeqOk (seg 0 k)) (a : SpansIs (hE (seg 0 k) L) S) {e : Nat} (he : e < k) (hO : O.Perm (ovL (seg 0 k) L (idN ((e : Int) + 1)))) : OvK S O e ∧ ∀ y ∈ O, y.fr = (e : Int) ∧ y.to = (e : Int) + 1 ∧ ∃ x ∈ L, y.nm = x.nm ∧ y.v = x.v := by
  have hA : aheadE (seg 0 k) false (idN ((e : Int) + 1)) = (e : Int) := by
    have := ahead_seg (k := k) (p := e + 1) (by omega) (by omega)
    rw [show ((e + 1 : Nat) : Int) = (e : Int) + 1 by omega] at this
    omega
  have hl : e < (seg 0 k).length := by rw [seg_len]; exact he
  have hs : (seg 0 k)[e].sh = true := seg_sh (List.getElem_mem hl)
  have hc : cntE (seg 0 k) e = e := cnt_seg (by omega)
  have hP : ovL (seg 0 k) L (idN ((e : Int) + 1)) = spL (e : Int) ((e : Int) + 1) (covL (seg 0 k) L (e : Int)) := by
    unfold ovL
    rw [hA, idx_seg ok (by omega), show (e : Int) + 1 = ((e + 1 : Nat) : Int) by omega, idx_seg ok (by omega)]
  rw [hP] at hO
  have key : ∀ y ∈ O, y.fr = (e : Int) ∧ y.to = (e : Int) + 1 ∧ hR (seg 0 k) L y.nm (e : Int) = some y.v := fun y hy => ov_mem.1 (hO.mem_iff.1 hy)
  refine ⟨⟨?_, fun x hx hx2 => ?_, fun x hx hx2 y hy hn => ?_⟩, fun y hy => ?_⟩
  · have := agree_len ok a hl hs hO
    rw [hc] at this
    unfold cntA
    rw [List.take_of_length_le (Nat.le_refl _)]
    exact this
  · obtain ⟨q1, q2⟩ : x.fr ≤ (e : Int) ∧ (e : Int) < x.to := of_decide_eq_true hx2
    have := agree_there ok a hl hs hO hx (by rw [hc]; exact q1) (by rw [hc]; exact q2)
    unfold thrA
    rw [List.take_of_length_le (Nat.le_refl _)]
    exact List.any_eq_true.2 ⟨_, this, decide_eq_true rfl⟩
  · obtain ⟨q1, q2⟩ : x.fr ≤ (e : Int) ∧ (e : Int) < x.to := of_decide_eq_true hx2
    have h1 := agree_there ok a hl hs hO hx (by rw [hc]; exact q1) (by rw [hc]; exact q2)
    have h2 := (key _ h1).2.2
    have h3 := key y hy
    rw [hn] at h3
    have h2' : hR (seg 0 k) L x.nm (e : Int) = some x.v := h2
    rw [h2'] at h3
    exact ⟨(Option.some.inj h3.2.2).symm, h3.1, h3.2.1⟩
  · obtain ⟨x, hx, _, e2⟩ := spL_mem.1 (hO.mem_iff.1 hy)
    refine ⟨(key y hy).1, (key y hy).2.1, x, cov_sub hx, ?_⟩
    rw [e2]
    exact ⟨rfl, rfl⟩
end Go.Proofs.YtifendlpeebofaaGreatDoor
namespace Go.Proofs.YtifendlpeebofaaGreatDoor
open Go.RowKit
section
variable {w : World} {a : Act} {o : Oper} {x y : Operand}
theorem ex_eq64n {p q : Int} (ho : o.op = .binOp .eql 2 x y 2) (hx : a.eval x = .int .i64 p) (hy : a.eval y = .int .i64 q) (h : p ≠ q) : (execOp a.eval o).run Tryz.prog w = .ok (.value (.bool false)) w := by
  unfold execOp
  simp only [ho, hx, hy]
  go_simp
theorem ex_equ64n {p q : Int} (ho : o.op = .binOp .eql 123 x y 123) (hx : a.eval x = .int .u64 p) (hy : a.eval y = .int .u64 q) (h : p ≠ q) : (execOp a.eval o).run Tryz.prog w = .ok (.value (.bool false)) w := by
  unfold execOp
  simp only [ho, hx, hy]
  go_simp
theorem ex_eqTr {s t : ByteArray} {r : Bool} (ho : o.op = .binOp .eql 9 x y 9) (hx : a.eval x = .string s) (hy : a.eval y = .string t) (hr : decide (s = t) = r) : (execOp a.eval o).run Tryz.prog w = .ok (.value (.bool r)) w := by
  refine exec_binOp ho hx hy ?_ ?_
  · kernel_rfl
  · have e : (s.toList == t.toList) = r := by
      subst hr
      by_cases h : s = t
      · subst h; simp
      · rw [decide_eq_false h]
        have : ¬ s.toList = t.toList := fun q => h (ba_inj q)
        simpa using this
    first
      | (go_simp; done)
      | (go_simp; exact e)
end
def samK_ops : Array Oper := (⟨_, rfl⟩ : {o // some o = rgB Tryz.f35 1}).1
theorem samK {b2 b3 : Nat} {x y : VaV} (S : World → Prop) (a : Act) (w : World) (Q : Exit → Act → World → Prop) (zz : a.tmps.size = 33)
    (t2 : a.tmps.getD 2 undef = .pointer (some ⟨b2, 0, none⟩))
    (t3 : a.tmps.getD 3 undef = .pointer (some ⟨b3, 0, none⟩))
    (h0 : S w.drew) (hk : ¬ x.k = y.k) (Lb20 : ∀ W, S W → (Instr.loadAt 37 (.pointer (some ⟨b2, 0 + 0, none⟩))).run Tryz.prog W = .ok (.int .u8 x.k) W) (Lb21 : ∀ W, S W → (Instr.loadAt 2 (.pointer (some ⟨b2, 0 + 1, none⟩))).run Tryz.prog W = .ok (.int .i64 x.n) W) (Lb22 : ∀ W, S W → (Instr.loadAt 38 (.pointer (some ⟨b2, 0 + 2, none⟩))).run Tryz.prog W = .ok (.float .f64 x.f) W) (Lb23 : ∀ W, S W → (Instr.loadAt 9 (.pointer (some ⟨b2, 0 + 3, none⟩))).run Tryz.prog W = .ok (.string x.s) W) (Lb30 : ∀ W, S W → (Instr.loadAt 37 (.pointer (some ⟨b3, 0 + 0, none⟩))).run Tryz.prog W = .ok (.int .u8 y.k) W) (Lb31 : ∀ W, S W → (Instr.loadAt 2 (.pointer (some ⟨b3, 0 + 1, none⟩))).run Tryz.prog W = .ok (.int .i64 y.n) W) (Lb32 : ∀ W, S W → (Instr.loadAt 38 (.pointer (some ⟨b3, 0 + 2, none⟩))).run Tryz.prog W = .ok (.float .f64 y.f) W) (Lb33 : ∀ W, S W → (Instr.loadAt 9 (.pointer (some ⟨b3, 0 + 3, none⟩))).run Tryz.prog W = .ok (.string y.s) W)
    (h : ∀ a' w', S w' → a' = ((((((((((((((((((((((((((((a.put (some 5) (.pointer (some ⟨b2, 0 + 0, none⟩))).put (some 6) (.int .u8 x.k)).put (some 7) (.pointer (some ⟨b3, 0 + 0, none⟩))).put (some 8) (.int .u8 y.k)).put (some 9) (.bool false)).put (some 10) (.bool false)).put (some 11) (undef)).put (some 12) (undef)).put (some 13) (undef)).put (some 14) (undef)).put (some 15) (undef)).put (some 16) (.bool false)).put (some 17) (.bool false)).put (some 18) (undef)).put (some 19) (undef)).put (some 20) (undef)).put (some 21) (undef)).put (some 22) (undef)).put (some 23) (undef)).put (some 24) (undef)).put (some 25) (.bool false)).put (some 26) (.bool false)).put (some 27) (undef)).put (some 28) (undef)).put (some 29) (undef)).put (some 30) (undef)).put (some 31) (undef)).put (some 32) (.bool false)).put (some 4) (.bool false) → Q .normal a' w') :
    (Code.region 1 samK_ops true).wp Tryz.prog Q a w := by
  refine y0 (fun w' => S w') (h0) (fun hHeld => ?_)
  refine yv 0 rfl rfl (fun w1 hw => xfa rfl (zi t2 rfl) (fg_40_0 _ _ _)) hHeld ?_
  refine yv 1 rfl rfl (fun w1 hw => xld rfl (zg zz rfl) (Lb20 _ hw)) hHeld ?_
  refine yv 2 rfl rfl (fun w1 hw => xfa rfl (zi t3 rfl) (fg_40_0 _ _ _)) hHeld ?_
  refine yv 3 rfl rfl (fun w1 hw => xld rfl (zg zz rfl) (Lb30 _ hw)) hHeld ?_
  refine yv (v := .bool false) 4 rfl rfl (fun w1 hw => ex_eqlK rfl (zg zz rfl) (zg zz rfl) (decide_eq_false hk)) hHeld ?_
  refine yv 5 rfl rfl (fun w1 hw => xmv rfl (zg zz rfl)) hHeld ?_
  refine yn 6 rfl (zx zz rfl rfl rfl (zg zz rfl)) hHeld ?_
  refine yn 7 rfl (zx zz rfl rfl rfl (zg zz rfl)) hHeld ?_
  refine yn 8 rfl (zx zz rfl rfl rfl (zg zz rfl)) hHeld ?_
  refine yn 9 rfl (zx zz rfl rfl rfl (zg zz rfl)) hHeld ?_
  refine yn 10 rfl (zx zz rfl rfl rfl (zg zz rfl)) hHeld ?_
  refine yv 11 rfl rfl (fun w1 hw => exec_pickF rfl (zg zz rfl) rfl) hHeld ?_
  refine yv 12 rfl rfl (fun w1 hw => xmv rfl (zg zz rfl)) hHeld ?_
  refine yn 13 rfl (zx zz rfl rfl rfl (zg zz rfl)) hHeld ?_
  refine yn 14 rfl (zx zz rfl rfl rfl (zg zz rfl)) hHeld ?_
  refine yn 15 rfl (zx zz rfl rfl rfl (zg zz rfl)) hHeld ?_
  refine yn 16 rfl (zx zz rfl rfl rfl (zg zz rfl)) hHeld ?_
  refine yn 17 rfl (zx zz rfl rfl rfl (zg zz rfl)) hHeld ?_
  refine yn 18 rfl (zx zz rfl rfl rfl (zg zz rfl)) hHeld ?_
  refine yn 19 rfl (zx zz rfl rfl rfl (zg zz rfl)) hHeld ?_
  refine yv 20 rfl rfl (fun w1 hw => exec_pickF rfl (zg zz rfl) rfl) hHeld ?_
  refine yv 21 rfl rfl (fun w1 hw => xmv rfl (zg zz rfl)) hHeld ?_
  refine yn 22 rfl (zx zz rfl rfl rfl (zg zz rfl)) hHeld ?_
  refine yn 23 rfl (zx zz rfl rfl rfl (zg zz rfl)) hHeld ?_
  refine yn 24 rfl (zx zz rfl rfl rfl (zg zz rfl)) hHeld ?_
  refine yn 25 rfl (zx zz rfl rfl rfl (zg zz rfl)) hHeld ?_
  refine yn 26 rfl (zx zz rfl rfl rfl (zg zz rfl)) hHeld ?_
  refine yv 27 rfl rfl (fun w1 hw => exec_pickF rfl (zg zz rfl) rfl) hHeld ?_
  refine yv 28 rfl rfl (fun w1 hw => xas rfl (zg zz rfl)) hHeld ?_
  exact ye rfl (h _ _ (hHeld) rfl)
theorem samN {b2 b3 : Nat} {x y : VaV} (S : World → Prop) (a : Act) (w : World) (Q : Exit → Act → World → Prop) (zz : a.tmps.size = 33)
    (t2 : a.tmps.getD 2 undef = .pointer (some ⟨b2, 0, none⟩))
    (t3 : a.tmps.getD 3 undef = .pointer (some ⟨b3, 0, none⟩))
    (h0 : S w.drew) (hk : x.k = y.k) (hn : x.n ≠ y.n) (Lb20 : ∀ W, S W → (Instr.loadAt 37 (.pointer (some ⟨b2, 0 + 0, none⟩))).run Tryz.prog W = .ok (.int .u8 x.k) W) (Lb21 : ∀ W, S W → (Instr.loadAt 2 (.pointer (some ⟨b2, 0 + 1, none⟩))).run Tryz.prog W = .ok (.int .i64 x.n) W) (Lb22 : ∀ W, S W → (Instr.loadAt 38 (.pointer (some ⟨b2, 0 + 2, none⟩))).run Tryz.prog W = .ok (.float .f64 x.f) W) (Lb23 : ∀ W, S W → (Instr.loadAt 9 (.pointer (some ⟨b2, 0 + 3, none⟩))).run Tryz.prog W = .ok (.string x.s) W) (Lb30 : ∀ W, S W → (Instr.loadAt 37 (.pointer (some ⟨b3, 0 + 0, none⟩))).run Tryz.prog W = .ok (.int .u8 y.k) W) (Lb31 : ∀ W, S W → (Instr.loadAt 2 (.pointer (some ⟨b3, 0 + 1, none⟩))).run Tryz.prog W = .ok (.int .i64 y.n) W) (Lb32 : ∀ W, S W → (Instr.loadAt 38 (.pointer (some ⟨b3, 0 + 2, none⟩))).run Tryz.prog W = .ok (.float .f64 y.f) W) (Lb33 : ∀ W, S W → (Instr.loadAt 9 (.pointer (some ⟨b3, 0 + 3, none⟩))).run Tryz.prog W = .ok (.string y.s) W)
    (h : ∀ a' w', S w' → a' = ((((((((((((((((((((((((((((a.put (some 5) (.pointer (some ⟨b2, 0 + 0, none⟩))).put (some 6) (.int .u8 x.k)).put (some 7) (.pointer (some ⟨b3, 0 + 0, none⟩))).put (some 8) (.int .u8 y.k)).put (some 9) (.bool true)).put (some 10) (.bool true)).put (some 11) (.pointer (some ⟨b2, 0 + 1, none⟩))).put (some 12) (.int .i64 x.n)).put (some 13) (.pointer (some ⟨b3, 0 + 1, none⟩))).put (some 14) (.int .i64 y.n)).put (some 15) (.bool false)).put (some 16) (.bool false)).put (some 17) (.bool false)).put (some 18) (undef)).put (some 19) (undef)).put (some 20) (undef)).put (some 21) (undef)).put (some 22) (undef)).put (some 23) (undef)).put (some 24) (undef)).put (some 25) (.bool false)).put (some 26) (.bool false)).put (some 27) (undef)).put (some 28) (undef)).put (some 29) (undef)).put (some 30) (undef)).put (some 31) (undef)).put (some 32) (.bool false)).put (some 4) (.bool false) → Q .normal a' w') :
    (Code.region 1 samK_ops true).wp Tryz.prog Q a w := by
  refine y0 (fun w' => S w') (h0) (fun hHeld => ?_)
  refine yv 0 rfl rfl (fun w1 hw => xfa rfl (zi t2 rfl) (fg_40_0 _ _ _)) hHeld ?_
  refine yv 1 rfl rfl (fun w1 hw => xld rfl (zg zz rfl) (Lb20 _ hw)) hHeld ?_
  refine yv 2 rfl rfl (fun w1 hw => xfa rfl (zi t3 rfl) (fg_40_0 _ _ _)) hHeld ?_
  refine yv 3 rfl rfl (fun w1 hw => xld rfl (zg zz rfl) (Lb30 _ hw)) hHeld ?_
  refine yv (v := .bool true) 4 rfl rfl (fun w1 hw => ex_eqlK rfl (zg zz rfl) (zg zz rfl) (decide_eq_true hk)) hHeld ?_
  refine yv 5 rfl rfl (fun w1 hw => xmv rfl (zg zz rfl)) hHeld ?_
  refine yv 6 rfl (zw zz rfl rfl rfl (zg zz rfl)) (fun w1 hw => xfa rfl (zi t2 rfl) (fg_40_1 _ _ _)) hHeld ?_
  refine yv 7 rfl (zw zz rfl rfl rfl (zg zz rfl)) (fun w1 hw => xld rfl (zg zz rfl) (Lb21 _ hw)) hHeld ?_
  refine yv 8 rfl (zw zz rfl rfl rfl (zg zz rfl)) (fun w1 hw => xfa rfl (zi t3 rfl) (fg_40_1 _ _ _)) hHeld ?_
  refine yv 9 rfl (zw zz rfl rfl rfl (zg zz rfl)) (fun w1 hw => xld rfl (zg zz rfl) (Lb31 _ hw)) hHeld ?_
  refine yv (v := .bool false) 10 rfl (zw zz rfl rfl rfl (zg zz rfl)) (fun w1 hw => ex_eq64n rfl (zg zz rfl) (zg zz rfl) hn) hHeld ?_
  refine yv 11 rfl rfl (fun w1 hw => exec_pickT rfl (zg zz rfl) (zg zz rfl)) hHeld ?_
  refine yv 12 rfl rfl (fun w1 hw => xmv rfl (zg zz rfl)) hHeld ?_
  refine yn 13 rfl (zx zz rfl rfl rfl (zg zz rfl)) hHeld ?_
  refine yn 14 rfl (zx zz rfl rfl rfl (zg zz rfl)) hHeld ?_
  refine yn 15 rfl (zx zz rfl rfl rfl (zg zz rfl)) hHeld ?_
  refine yn 16 rfl (zx zz rfl rfl rfl (zg zz rfl)) hHeld ?_
  refine yn 17 rfl (zx zz rfl rfl rfl (zg zz rfl)) hHeld ?_
  refine yn 18 rfl (zx zz rfl rfl rfl (zg zz rfl)) hHeld ?_
  refine yn 19 rfl (zx zz rfl rfl rfl (zg zz rfl)) hHeld ?_
  refine yv 20 rfl rfl (fun w1 hw => exec_pickF rfl (zg zz rfl) rfl) hHeld ?_
  refine yv 21 rfl rfl (fun w1 hw => xmv rfl (zg zz rfl)) hHeld ?_
  refine yn 22 rfl (zx zz rfl rfl rfl (zg zz rfl)) hHeld ?_
  refine yn 23 rfl (zx zz rfl rfl rfl (zg zz rfl)) hHeld ?_
  refine yn 24 rfl (zx zz rfl rfl rfl (zg zz rfl)) hHeld ?_
  refine yn 25 rfl (zx zz rfl rfl rfl (zg zz rfl)) hHeld ?_
  refine yn 26 rfl (zx zz rfl rfl rfl (zg zz rfl)) hHeld ?_
  refine yv 27 rfl rfl (fun w1 hw => exec_pickF rfl (zg zz rfl) rfl) hHeld ?_
  refine yv 28 rfl rfl (fun w1 hw => xas rfl (zg zz rfl)) hHeld ?_
  exact ye rfl (h _ _ (hHeld) rfl)
theorem samF {b2 b3 : Nat} {x y : VaV} (S : World → Prop) (a : Act) (w : World) (Q : Exit → Act → World → Prop) (zz : a.tmps.size = 33)
    (t2 : a.tmps.getD 2 undef = .pointer (some ⟨b2, 0, none⟩))
    (t3 : a.tmps.getD 3 undef = .pointer (some ⟨b3, 0, none⟩))
    (h0 : S w.drew) (hk : x.k = y.k) (hn : x.n = y.n) (hf : (x.f : Int) ≠ (y.f : Int)) (Lb20 : ∀ W, S W → (Instr.loadAt 37 (.pointer (some ⟨b2, 0 + 0, none⟩))).run Tryz.prog W = .ok (.int .u8 x.k) W) (Lb21 : ∀ W, S W → (Instr.loadAt 2 (.pointer (some ⟨b2, 0 + 1, none⟩))).run Tryz.prog W = .ok (.int .i64 x.n) W) (Lb22 : ∀ W, S W → (Instr.loadAt 38 (.pointer (some ⟨b2, 0 + 2, none⟩))).run Tryz.prog W = .ok (.float .f64 x.f) W) (Lb23 : ∀ W, S W → (Instr.loadAt 9 (.pointer (some ⟨b2, 0 + 3, none⟩))).run Tryz.prog W = .ok (.string x.s) W) (Lb30 : ∀ W, S W → (Instr.loadAt 37 (.pointer (some ⟨b3, 0 + 0, none⟩))).run Tryz.prog W = .ok (.int .u8 y.k) W) (Lb31 : ∀ W, S W → (Instr.loadAt 2 (.pointer (some ⟨b3, 0 + 1, none⟩))).run Tryz.prog W = .ok (.int .i64 y.n) W) (Lb32 : ∀ W, S W → (Instr.loadAt 38 (.pointer (some ⟨b3, 0 + 2, none⟩))).run Tryz.prog W = .ok (.float .f64 y.f) W) (Lb33 : ∀ W, S W → (Instr.loadAt 9 (.pointer (some ⟨b3, 0 + 3, none⟩))).run Tryz.prog W = .ok (.string y.s) W)
    (h : ∀ a' w', S w' → a' = ((((((((((((((((((((((((((((a.put (some 5) (.pointer (some ⟨b2, 0 + 0, none⟩))).put (some 6) (.int .u8 x.k)).put (some 7) (.pointer (some ⟨b3, 0 + 0, none⟩))).put (some 8) (.int .u8 y.k)).put (some 9) (.bool true)).put (some 10) (.bool true)).put (some 11) (.pointer (some ⟨b2, 0 + 1, none⟩))).put (some 12) (.int .i64 x.n)).put (some 13) (.pointer (some ⟨b3, 0 + 1, none⟩))).put (some 14) (.int .i64 y.n)).put (some 15) (.bool true)).put (some 16) (.bool true)).put (some 17) (.bool true)).put (some 18) (.pointer (some ⟨b2, 0 + 2, none⟩))).put (some 19) (.float .f64 x.f)).put (some 21) (.pointer (some ⟨b3, 0 + 2, none⟩))).put (some 22) (.float .f64 y.f)).put (some 20) (.int .u64 (x.f : Int))).put (some 23) (.int .u64 (y.f : Int))).put (some 24) (.bool false)).put (some 25) (.bool false)).put (some 26) (.bool false)).put (some 27) (undef)).put (some 28) (undef)).put (some 29) (undef)).put (some 30) (undef)).put (some 31) (undef)).put (some 32) (.bool false)).put (some 4) (.bool false) → Q .normal a' w') :
    (Code.region 1 samK_ops true).wp Tryz.prog Q a w := by
  refine y0 (fun w' => S w') (h0) (fun hHeld => ?_)
  refine yv 0 rfl rfl (fun w1 hw => xfa rfl (zi t2 rfl) (fg_40_0 _ _ _)) hHeld ?_
  refine yv 1 rfl rfl (fun w1 hw => xld rfl (zg zz rfl) (Lb20 _ hw)) hHeld ?_
  refine yv 2 rfl rfl (fun w1 hw => xfa rfl (zi t3 rfl) (fg_40_0 _ _ _)) hHeld ?_
  refine yv 3 rfl rfl (fun w1 hw => xld rfl (zg zz rfl) (Lb30 _ hw)) hHeld ?_
  refine yv (v := .bool true) 4 rfl rfl (fun w1 hw => ex_eqlK rfl (zg zz rfl) (zg zz rfl) (decide_eq_true hk)) hHeld ?_
  refine yv 5 rfl rfl (fun w1 hw => xmv rfl (zg zz rfl)) hHeld ?_
  refine yv 6 rfl (zw zz rfl rfl rfl (zg zz rfl)) (fun w1 hw => xfa rfl (zi t2 rfl) (fg_40_1 _ _ _)) hHeld ?_
  refine yv 7 rfl (zw zz rfl rfl rfl (zg zz rfl)) (fun w1 hw => xld rfl (zg zz rfl) (Lb21 _ hw)) hHeld ?_
  refine yv 8 rfl (zw zz rfl rfl rfl (zg zz rfl)) (fun w1 hw => xfa rfl (zi t3 rfl) (fg_40_1 _ _ _)) hHeld ?_
  refine yv 9 rfl (zw zz rfl rfl rfl (zg zz rfl)) (fun w1 hw => xld rfl (zg zz rfl) (Lb31 _ hw)) hHeld ?_
  refine yv (v := .bool true) 10 rfl (zw zz rfl rfl rfl (zg zz rfl)) (fun w1 hw => ex_eq64 (p := x.n) rfl (zg zz rfl) (by rw [hn]; exact (zg zz rfl))) hHeld ?_
  refine yv 11 rfl rfl (fun w1 hw => exec_pickT rfl (zg zz rfl) (zg zz rfl)) hHeld ?_
  refine yv 12 rfl rfl (fun w1 hw => xmv rfl (zg zz rfl)) hHeld ?_
  refine yv 13 rfl (zw zz rfl rfl rfl (zg zz rfl)) (fun w1 hw => xfa rfl (zi t2 rfl) (fg_40_2 _ _ _)) hHeld ?_
  refine yv 14 rfl (zw zz rfl rfl rfl (zg zz rfl)) (fun w1 hw => xld rfl (zg zz rfl) (Lb22 _ hw)) hHeld ?_
  refine yv 16 rfl (zw zz rfl rfl rfl (zg zz rfl)) (fun w1 hw => xfa rfl (zi t3 rfl) (fg_40_2 _ _ _)) hHeld ?_
  refine yv 17 rfl (zw zz rfl rfl rfl (zg zz rfl)) (fun w1 hw => xld rfl (zg zz rfl) (Lb32 _ hw)) hHeld ?_
  refine yr (v := .int .u64 (x.f : Int)) 15 rfl (zw zz rfl rfl rfl (zg zz rfl)) (exec_fb rfl (zg zz rfl)) (h0) (fun hHeld => ?_)
  refine yr (v := .int .u64 (y.f : Int)) 18 rfl (zw zz rfl rfl rfl (zg zz rfl)) (exec_fb rfl (zg zz rfl)) (h0) (fun hHeld => ?_)
  refine yv (v := .bool false) 19 rfl (zw zz rfl rfl rfl (zg zz rfl)) (fun w1 hw => ex_equ64n rfl (zg zz rfl) (zg zz rfl) hf) hHeld ?_
  refine yv 20 rfl rfl (fun w1 hw => exec_pickT rfl (zg zz rfl) (zg zz rfl)) hHeld ?_
  refine yv 21 rfl rfl (fun w1 hw => xmv rfl (zg zz rfl)) hHeld ?_
  refine yn 22 rfl (zx zz rfl rfl rfl (zg zz rfl)) hHeld ?_
  refine yn 23 rfl (zx zz rfl rfl rfl (zg zz rfl)) hHeld ?_
  refine yn 24 rfl (zx zz rfl rfl rfl (zg zz rfl)) hHeld ?_
  refine yn 25 rfl (zx zz rfl rfl rfl (zg zz rfl)) hHeld ?_
  refine yn 26 rfl (zx zz rfl rfl rfl (zg zz rfl)) hHeld ?_
  refine yv 27 rfl rfl (fun w1 hw => exec_pickF rfl (zg zz rfl) rfl) hHeld ?_
  refine yv 28 rfl rfl (fun w1 hw => xas rfl (zg zz rfl)) hHeld ?_
  exact ye rfl (h _ _ (h0) rfl)
theorem samS {b2 b3 : Nat} {x y : VaV} {r : Bool} (S : World → Prop) (a : Act) (w : World) (Q : Exit → Act → World → Prop) (zz : a.tmps.size = 33)
    (t2 : a.tmps.getD 2 undef = .pointer (some ⟨b2, 0, none⟩))
    (t3 : a.tmps.getD 3 undef = .pointer (some ⟨b3, 0, none⟩))
    (h0 : S w.drew) (hk : x.k = y.k) (hn : x.n = y.n) (hf : (x.f : Int) = (y.f : Int)) (hr : decide (x.s = y.s) = r) (Lb20 : ∀ W, S W → (Instr.loadAt 37 (.pointer (some ⟨b2, 0 + 0, none⟩))).run Tryz.prog W = .ok (.int .u8 x.k) W) (Lb21 : ∀ W, S W → (Instr.loadAt 2 (.pointer (some ⟨b2, 0 + 1, none⟩))).run Tryz.prog W = .ok (.int .i64 x.n) W) (Lb22 : ∀ W, S W → (Instr.loadAt 38 (.pointer (some ⟨b2, 0 + 2, none⟩))).run Tryz.prog W = .ok (.float .f64 x.f) W) (Lb23 : ∀ W, S W → (Instr.loadAt 9 (.pointer (some ⟨b2, 0 + 3, none⟩))).run Tryz.prog W = .ok (.string x.s) W) (Lb30 : ∀ W, S W → (Instr.loadAt 37 (.pointer (some ⟨b3, 0 + 0, none⟩))).run Tryz.prog W = .ok (.int .u8 y.k) W) (Lb31 : ∀ W, S W → (Instr.loadAt 2 (.pointer (some ⟨b3, 0 + 1, none⟩))).run Tryz.prog W = .ok (.int .i64 y.n) W) (Lb32 : ∀ W, S W → (Instr.loadAt 38 (.pointer (some ⟨b3, 0 + 2, none⟩))).run Tryz.prog W = .ok (.float .f64 y.f) W) (Lb33 : ∀ W, S W → (Instr.loadAt 9 (.pointer (some ⟨b3, 0 + 3, none⟩))).run Tryz.prog W = .ok (.string y.s) W)
    (h : ∀ a' w', S w' → a' = ((((((((((((((((((((((((((((a.put (some 5) (.pointer (some ⟨b2, 0 + 0, none⟩))).put (some 6) (.int .u8 x.k)).put (some 7) (.pointer (some ⟨b3, 0 + 0, none⟩))).put (some 8) (.int .u8 y.k)).put (some 9) (.bool true)).put (some 10) (.bool true)).put (some 11) (.pointer (some ⟨b2, 0 + 1, none⟩))).put (some 12) (.int .i64 x.n)).put (some 13) (.pointer (some ⟨b3, 0 + 1, none⟩))).put (some 14) (.int .i64 y.n)).put (some 15) (.bool true)).put (some 16) (.bool true)).put (some 17) (.bool true)).put (some 18) (.pointer (some ⟨b2, 0 + 2, none⟩))).put (some 19) (.float .f64 x.f)).put (some 21) (.pointer (some ⟨b3, 0 + 2, none⟩))).put (some 22) (.float .f64 y.f)).put (some 20) (.int .u64 (x.f : Int))).put (some 23) (.int .u64 (y.f : Int))).put (some 24) (.bool true)).put (some 25) (.bool true)).put (some 26) (.bool true)).put (some 27) (.pointer (some ⟨b2, 0 + 3, none⟩))).put (some 28) (.string x.s)).put (some 29) (.pointer (some ⟨b3, 0 + 3, none⟩))).put (some 30) (.string y.s)).put (some 31) (.bool r)).put (some 32) (.bool r)).put (some 4) (.bool r) → Q .normal a' w') :
    (Code.region 1 samK_ops true).wp Tryz.prog Q a w := by
  refine y0 (fun w' => S w') (h0) (fun hHeld => ?_)
  refine yv 0 rfl rfl (fun w1 hw => xfa rfl (zi t2 rfl) (fg_40_0 _ _ _)) hHeld ?_
  refine yv 1 rfl rfl (fun w1 hw => xld rfl (zg zz rfl) (Lb20 _ hw)) hHeld ?_
  refine yv 2 rfl rfl (fun w1 hw => xfa rfl (zi t3 rfl) (fg_40_0 _ _ _)) hHeld ?_
  refine yv 3 rfl rfl (fun w1 hw => xld rfl (zg zz rfl) (Lb30 _ hw)) hHeld ?_
  refine yv (v := .bool true) 4 rfl rfl (fun w1 hw => ex_eqlK rfl (zg zz rfl) (zg zz rfl) (decide_eq_true hk)) hHeld ?_
  refine yv 5 rfl rfl (fun w1 hw => xmv rfl (zg zz rfl)) hHeld ?_
  refine yv 6 rfl (zw zz rfl rfl rfl (zg zz rfl)) (fun w1 hw => xfa rfl (zi t2 rfl) (fg_40_1 _ _ _)) hHeld ?_
  refine yv 7 rfl (zw zz rfl rfl rfl (zg zz rfl)) (fun w1 hw => xld rfl (zg zz rfl) (Lb21 _ hw)) hHeld ?_
  refine yv 8 rfl (zw zz rfl rfl rfl (zg zz rfl)) (fun w1 hw => xfa rfl (zi t3 rfl) (fg_40_1 _ _ _)) hHeld ?_
  refine yv 9 rfl (zw zz rfl rfl rfl (zg zz rfl)) (fun w1 hw => xld rfl (zg zz rfl) (Lb31 _ hw)) hHeld ?_
  refine yv (v := .bool true) 10 rfl (zw zz rfl rfl rfl (zg zz rfl)) (fun w1 hw => ex_eq64 (p := x.n) rfl (zg zz rfl) (by rw [hn]; exact (zg zz rfl))) hHeld ?_
  refine yv 11 rfl rfl (fun w1 hw => exec_pickT rfl (zg zz rfl) (zg zz rfl)) hHeld ?_
  refine yv 12 rfl rfl (fun w1 hw => xmv rfl (zg zz rfl)) hHeld ?_
  refine yv 13 rfl (zw zz rfl rfl rfl (zg zz rfl)) (fun w1 hw => xfa rfl (zi t2 rfl) (fg_40_2 _ _ _)) hHeld ?_
  refine yv 14 rfl (zw zz rfl rfl rfl (zg zz rfl)) (fun w1 hw => xld rfl (zg zz rfl) (Lb22 _ hw)) hHeld ?_
  refine yv 16 rfl (zw zz rfl rfl rfl (zg zz rfl)) (fun w1 hw => xfa rfl (zi t3 rfl) (fg_40_2 _ _ _)) hHeld ?_
  refine yv 17 rfl (zw zz rfl rfl rfl (zg zz rfl)) (fun w1 hw => xld rfl (zg zz rfl) (Lb32 _ hw)) hHeld ?_
  refine yr (v := .int .u64 (x.f : Int)) 15 rfl (zw zz rfl rfl rfl (zg zz rfl)) (exec_fb rfl (zg zz rfl)) (h0) (fun hHeld => ?_)
  refine yr (v := .int .u64 (y.f : Int)) 18 rfl (zw zz rfl rfl rfl (zg zz rfl)) (exec_fb rfl (zg zz rfl)) (h0) (fun hHeld => ?_)
  refine yv (v := .bool true) 19 rfl (zw zz rfl rfl rfl (zg zz rfl)) (fun w1 hw => ex_equ64 (p := (x.f : Int)) rfl (zg zz rfl) (by rw [hf]; exact (zg zz rfl))) hHeld ?_
  refine yv 20 rfl rfl (fun w1 hw => exec_pickT rfl (zg zz rfl) (zg zz rfl)) hHeld ?_
  refine yv 21 rfl rfl (fun w1 hw => xmv rfl (zg zz rfl)) hHeld ?_
  refine yv 22 rfl (zw zz rfl rfl rfl (zg zz rfl)) (fun w1 hw => xfa rfl (zi t2 rfl) (fg_40_3 _ _ _)) hHeld ?_
  refine yv 23 rfl (zw zz rfl rfl rfl (zg zz rfl)) (fun w1 hw => xld rfl (zg zz rfl) (Lb23 _ hw)) hHeld ?_
  refine yv 24 rfl (zw zz rfl rfl rfl (zg zz rfl)) (fun w1 hw => xfa rfl (zi t3 rfl) (fg_40_3 _ _ _)) hHeld ?_
  refine yv 25 rfl (zw zz rfl rfl rfl (zg zz rfl)) (fun w1 hw => xld rfl (zg zz rfl) (Lb33 _ hw)) hHeld ?_
  refine yv (v := .bool r) 26 rfl (zw zz rfl rfl rfl (zg zz rfl)) (fun w1 hw => ex_eqTr rfl (zg zz rfl) (zg zz rfl) hr) hHeld ?_
  refine yv 27 rfl rfl (fun w1 hw => exec_pickT rfl (zg zz rfl) (zg zz rfl)) hHeld ?_
  refine yv 28 rfl rfl (fun w1 hw => xas rfl (zg zz rfl)) hHeld ?_
  exact ye rfl (h _ _ (h0) rfl)
end Go.Proofs.YtifendlpeebofaaGreatDoor
namespace Go.Proofs.YtifendlpeebofaaGreatDoor
open Go.RowKit Go.Shelf Sq
attribute [local go_sem] Oper.semAt_some
theorem same_k (x y : VaV) (hk : ¬ x.k = y.k) (w : World) : Calls Tryz.prog 35 #[x.v, y.v] w fun e w' => e = .returned (.bool false) ∧ Below w.heap.size w w' := by
  obtain ⟨w1, hw1⟩ : ∃ w1, w.alloc (.cells x.c.toArray 40) = w1 := ⟨_, rfl⟩
  obtain ⟨w2, hw2⟩ : ∃ w2, w1.alloc (.cells y.c.toArray 40) = w2 := ⟨_, rfl⟩
  have p1 : VaAt w1 w.heap.size x := by rw [← hw1]; exact heap_alloc_new _ _
  have b1 : Below w.heap.size w w1 := by rw [← hw1]; exact (Below.refl _ _).alloc (Nat.le_refl _) _
  have z1 : w1.heap.size = w.heap.size + 1 := by rw [← hw1]; simp
  have p2 : VaAt w2 (w.heap.size + 1) y := by rw [← hw2, ← z1]; exact heap_alloc_new _ _
  have b2 : Below w1.heap.size w1 w2 := by rw [← hw2]; exact (Below.refl _ _).alloc (Nat.le_refl _) _
  have HB := hidMk (And.intro (p1.below b2) (And.intro p2 (b1.trans (b2.mono b1.size))))
  have HW := hidMk (And.intro hw1 hw2)
  clear p1 b1 z1 p2 b2 hw1 hw2
  show Calls Tryz.prog 35 #[.agg x.c.toArray, .agg y.c.toArray] w _
  go_enter Tryz.func35, Tryz.ntmps35
  go_upto_region 1 with fail
  rw [HW.out.1, HW.out.2]
  refine samK (b2 := w.heap.size) (b3 := w.heap.size + 1) (x := x) (y := y) (fun W => VaAt W w.heap.size x ∧ VaAt W (w.heap.size + 1) y ∧ Below w.heap.size w W) _ w2 _ rfl rfl rfl ⟨HB.out.1, HB.out.2.1, HB.out.2.2.drew⟩ hk (fun W q => load_kd q.1) (fun W q => ld_vn q.1) (fun W q => ld_vf q.1) (fun W q => ld_vs q.1) (fun W q => load_kd q.2.1) (fun W q => ld_vn q.2.1) (fun W q => ld_vf q.2.1) (fun W q => ld_vs q.2.1) ?_
  intro a' w3 hf' ha
  have HF := hidMk hf'
  subst ha
  simp only [Act.put, qsA, qsB, qsC]
  clear hf' HB HW
  go_wp2
  go_ret
  exact ⟨rfl, HF.out.2.2⟩
theorem same_n (x y : VaV) (hk : x.k = y.k) (hn : x.n ≠ y.n) (w : World) : Calls Tryz.prog 35 #[x.v, y.v] w fun e w' => e = .returned (.bool false) ∧ Below w.heap.size w w' := by
  obtain ⟨w1, hw1⟩ : ∃ w1, w.alloc (.cells x.c.toArray 40) = w1 := ⟨_, rfl⟩
  obtain ⟨w2, hw2⟩ : ∃ w2, w1.alloc (.cells y.c.toArray 40) = w2 := ⟨_, rfl⟩
  have p1 : VaAt w1 w.heap.size x := by rw [← hw1]; exact heap_alloc_new _ _
  have b1 : Below w.heap.size w w1 := by rw [← hw1]; exact (Below.refl _ _).alloc (Nat.le_refl _) _
  have z1 : w1.heap.size = w.heap.size + 1 := by rw [← hw1]; simp
  have p2 : VaAt w2 (w.heap.size + 1) y := by rw [← hw2, ← z1]; exact heap_alloc_new _ _
  have b2 : Below w1.heap.size w1 w2 := by rw [← hw2]; exact (Below.refl _ _).alloc (Nat.le_refl _) _
  have HB := hidMk (And.intro (p1.below b2) (And.intro p2 (b1.trans (b2.mono b1.size))))
  have HW := hidMk (And.intro hw1 hw2)
  clear p1 b1 z1 p2 b2 hw1 hw2
  show Calls Tryz.prog 35 #[.agg x.c.toArray, .agg y.c.toArray] w _
  go_enter Tryz.func35, Tryz.ntmps35
  go_upto_region 1 with fail
  rw [HW.out.1, HW.out.2]
  refine samN (b2 := w.heap.size) (b3 := w.heap.size + 1) (x := x) (y := y) (fun W => VaAt W w.heap.size x ∧ VaAt W (w.heap.size + 1) y ∧ Below w.heap.size w W) _ w2 _ rfl rfl rfl ⟨HB.out.1, HB.out.2.1, HB.out.2.2.drew⟩ hk hn (fun W q => load_kd q.1) (fun W q => ld_vn q.1) (fun W q => ld_vf q.1) (fun W q => ld_vs q.1) (fun W q => load_kd q.2.1) (fun W q => ld_vn q.2.1) (fun W q => ld_vf q.2.1) (fun W q => ld_vs q.2.1) ?_
  intro a' w3 hf' ha
  have HF := hidMk hf'
  subst ha
  simp only [Act.put, qsA, qsB, qsC]
  clear hf' HB HW
  go_wp2
  go_ret
  exact ⟨rfl, HF.out.2.2⟩
theorem same_f (x y : VaV) (hk : x.k = y.k) (hn : x.n = y.n) (hf : (x.f : Int) ≠ (y.f : Int)) (w : World) : Calls Tryz.prog 35 #[x.v, y.v] w fun e w' => e = .returned (.bool false) ∧ Below w.heap.size w w' := by
  obtain ⟨w1, hw1⟩ : ∃ w1, w.alloc (.cells x.c.toArray 40) = w1 := ⟨_, rfl⟩
  obtain ⟨w2, hw2⟩ : ∃ w2, w1.alloc (.cells y.c.toArray 40) = w2 := ⟨_, rfl⟩
  have p1 : VaAt w1 w.heap.size x := by rw [← hw1]; exact heap_alloc_new _ _
  have b1 : Below w.heap.size w w1 := by rw [← hw1]; exact (Below.refl _ _).alloc (Nat.le_refl _) _
  have z1 : w1.heap.size = w.heap.size + 1 := by rw [← hw1]; simp
  have p2 : VaAt w2 (w.heap.size + 1) y := by rw [← hw2, ← z1]; exact heap_alloc_new _ _
  have b2 : Below w1.heap.size w1 w2 := by rw [← hw2]; exact (Below.refl _ _).alloc (Nat.le_refl _) _
  have HB := hidMk (And.intro (p1.below b2) (And.intro p2 (b1.trans (b2.mono b1.size))))
  have HW := hidMk (And.intro hw1 hw2)
  clear p1 b1 z1 p2 b2 hw1 hw2
  show Calls Tryz.prog 35 #[.agg x.c.toArray, .agg y.c.toArray] w _
  go_enter Tryz.func35, Tryz.ntmps35
  go_upto_region 1 with fail
  rw [HW.out.1, HW.out.2]
  refine samF (b2 := w.heap.size) (b3 := w.heap.size + 1) (x := x) (y := y) (fun W => VaAt W w.heap.size x ∧ VaAt W (w.heap.size + 1) y ∧ Below w.heap.size w W) _ w2 _ rfl rfl rfl ⟨HB.out.1, HB.out.2.1, HB.out.2.2.drew⟩ hk hn hf (fun W q => load_kd q.1) (fun W q => ld_vn q.1) (fun W q => ld_vf q.1) (fun W q => ld_vs q.1) (fun W q => load_kd q.2.1) (fun W q => ld_vn q.2.1) (fun W q => ld_vf q.2.1) (fun W q => ld_vs q.2.1) ?_
  intro a' w3 hf' ha
  have HF := hidMk hf'
  subst ha
  simp only [Act.put, qsA, qsB, qsC]
  clear hf' HB HW
  go_wp2
  go_ret
  exact ⟨rfl, HF.out.2.2⟩
theorem same_s (x y : VaV) (hk : x.k = y.k) (hn : x.n = y.n) (hf : (x.f : Int) = (y.f : Int)) {r : Bool} (hr : decide (x.s = y.s) = r) (w : World) : Calls Tryz.prog 35 #[x.v, y.v] w fun e w' => e = .returned (.bool r) ∧ Below w.heap.size w w' := by
  obtain ⟨w1, hw1⟩ : ∃ w1, w.alloc (.cells x.c.toArray 40) = w1 := ⟨_, rfl⟩
  obtain ⟨w2, hw2⟩ : ∃ w2, w1.alloc (.cells y.c.toArray 40) = w2 := ⟨_, rfl⟩
  have p1 : VaAt w1 w.heap.size x := by rw [← hw1]; exact heap_alloc_new _ _
  have b1 : Below w.heap.size w w1 := by rw [← hw1]; exact (Below.refl _ _).alloc (Nat.le_refl _) _
  have z1 : w1.heap.size = w.heap.size + 1 := by rw [← hw1]; simp
  have p2 : VaAt w2 (w.heap.size + 1) y := by rw [← hw2, ← z1]; exact heap_alloc_new _ _
  have b2 : Below w1.heap.size w1 w2 := by rw [← hw2]; exact (Below.refl _ _).alloc (Nat.le_refl _) _
  have HB := hidMk (And.intro (p1.below b2) (And.intro p2 (b1.trans (b2.mono b1.size))))
  have HW := hidMk (And.intro hw1 hw2)
  clear p1 b1 z1 p2 b2 hw1 hw2
  show Calls Tryz.prog 35 #[.agg x.c.toArray, .agg y.c.toArray] w _
  go_enter Tryz.func35, Tryz.ntmps35
  go_upto_region 1 with fail
  rw [HW.out.1, HW.out.2]
  refine samS (b2 := w.heap.size) (b3 := w.heap.size + 1) (x := x) (y := y) (fun W => VaAt W w.heap.size x ∧ VaAt W (w.heap.size + 1) y ∧ Below w.heap.size w W) _ w2 _ rfl rfl rfl ⟨HB.out.1, HB.out.2.1, HB.out.2.2.drew⟩ hk hn hf hr (fun W q => load_kd q.1) (fun W q => ld_vn q.1) (fun W q => ld_vf q.1) (fun W q => ld_vs q.1) (fun W q => load_kd q.2.1) (fun W q => ld_vn q.2.1) (fun W q => ld_vf q.2.1) (fun W q => ld_vs q.2.1) ?_
  intro a' w3 hf' ha
  have HF := hidMk hf'
  subst ha
  simp only [Act.put, qsA, qsB, qsC]
  clear hf' HB HW
  go_wp2
  go_ret
  exact ⟨rfl, HF.out.2.2⟩
theorem same_of (x y : VaV) (w : World) : Calls Tryz.prog 35 #[x.v, y.v] w fun e w' => e = .returned (.bool (decide (x = y))) ∧ Below w.heap.size w w' := by
  by_cases hk : x.k = y.k
  · by_cases hn : x.n = y.n
    · by_cases hf : (x.f : Int) = (y.f : Int)
      · have e : decide (x.s = y.s) = decide (x = y) := by
          refine decide_eq_decide.2 ⟨fun h => ?_, fun h => by rw [h]⟩
          obtain ⟨k, n, f, s⟩ := x
          obtain ⟨k', n', f', s'⟩ := y
          simp only at hk hn hf h
          have : f = f' := by omega
          subst this hk hn h
          rfl
        exact same_s x y hk hn hf e w
      · rw [decide_eq_false fun e : x = y => hf (by rw [e])]
        exact same_f x y hk hn hf w
    · rw [decide_eq_false fun e : x = y => hn (by rw [e])]
      exact same_n x y hk hn w
  · rw [decide_eq_false fun e : x = y => hk (by rw [e])]
    exact same_k x y hk w
end Go.Proofs.YtifendlpeebofaaGreatDoor
namespace Go.Proofs.YtifendlpeebofaaGreatDoor
open Go.RowKit
def cmp1_ops : Array Oper := (⟨_, rfl⟩ : {o // some o = rgB Tryz.f34 1}).1
theorem cmp1 {b2 b3 : Nat} {x y : VaV} {r : Bool} (S Fin : World → Prop) (a : Act) (w : World) (Q : Exit → Act → World → Prop) (zz : a.tmps.size = 50)
    (t2 : a.tmps.getD 2 undef = .pointer (some ⟨b2, 0, none⟩))
    (t3 : a.tmps.getD 3 undef = .pointer (some ⟨b3, 0, none⟩))
    (h0 : S w) (La : ∀ W, S W → (Instr.loadAt 40 (.pointer (some ⟨b2, 0, none⟩))).run Tryz.prog W = .ok (x.v) W) (Lb : ∀ W, S W → (Instr.loadAt 40 (.pointer (some ⟨b3, 0, none⟩))).run Tryz.prog W = .ok (y.v) W) (CA : Calls Tryz.prog 67 #[x.v] w fun e w1 => e = .returned (.bool true) ∧ S w1 ∧ Calls Tryz.prog 67 #[y.v] w1 fun e w2 => e = .returned (.bool true) ∧ S w2 ∧ Calls Tryz.prog 35 #[x.v, y.v] w2 fun e w3 => e = .returned (.bool r) ∧ Fin w3)
    (h : ∀ a' w', Fin w' → a' = (((((((((((((a.put (some 6) (x.v)).put (some 7) (.bool true)).put (some 8) (.bool false)).put (some 9) (.bool false)).put (some 10) (y.v)).put (some 11) (.bool true)).put (some 12) (.bool false)).put (some 13) (.bool false)).put (some 14) (.bool false)).put (some 15) (x.v)).put (some 16) (y.v)).put (some 17) (.bool r)).put (some 18) (.bool r)).put (some 5) (.bool r) → Q .normal a' w') :
    (Code.region 1 cmp1_ops false).wp Tryz.prog Q a w := by
  refine z0 rfl ?_
  refine zv rfl (xld rfl (zi t2 rfl) (La _ h0)) ?_
  refine zc rfl (exec_c1 rfl (zg zz rfl)) (CA) (fun e x1 hx => ?_)
  obtain ⟨rfl, S0, CB⟩ := hx
  refine ⟨_, rfl, ?_⟩
  refine zv rfl (exec_not rfl (zg zz rfl)) ?_
  refine zv rfl (xmv rfl (zg zz rfl)) ?_
  refine zv (zw zz rfl rfl rfl (zg zz rfl)) (xld rfl (zi t3 rfl) (Lb _ S0)) ?_
  refine zc (zw zz rfl rfl rfl (zg zz rfl)) (exec_c1 rfl (zg zz rfl)) (CB) (fun e x5 hx => ?_)
  obtain ⟨rfl, S1, CC⟩ := hx
  refine ⟨_, rfl, ?_⟩
  refine zv (zw zz rfl rfl rfl (zg zz rfl)) (exec_not rfl (zg zz rfl)) ?_
  refine zv rfl (exec_pickF rfl (zg zz rfl) (zg zz rfl)) ?_
  refine zv rfl (xmv rfl (zg zz rfl)) ?_
  refine zv (zw zz rfl rfl rfl (zg zz rfl)) (xld rfl (zi t2 rfl) (La _ S1)) ?_
  refine zv (zw zz rfl rfl rfl (zg zz rfl)) (xld rfl (zi t3 rfl) (Lb _ S1)) ?_
  refine zc (zw zz rfl rfl rfl (zg zz rfl)) (exec_c2 rfl (zg zz rfl) (zg zz rfl)) (CC) (fun e x11 hx => ?_)
  obtain ⟨rfl, HF⟩ := hx
  refine ⟨_, rfl, ?_⟩
  refine zv rfl (exec_pickF rfl (zg zz rfl) (zg zz rfl)) ?_
  refine zv rfl (xas rfl (zg zz rfl)) ?_
  exact ze rfl (h _ _ (HF) rfl)
end Go.Proofs.YtifendlpeebofaaGreatDoor
namespace Go.Proofs.YtifendlpeebofaaGreatDoor
open Go.RowKit Go.Shelf Sq
attribute [local go_sem] Oper.semAt_some
theorem refright {x : VaV} (hx : x.ok) (w : World) : Calls Tryz.prog 67 #[x.v] w fun e w' => e = .returned (.bool x.right) ∧ Below w.heap.size w w' :=
  K.V.right27_any x.k x.n x.f x.s w hx.k0 hx.ff (Nat.le_trans hx.ss (by decide))
theorem refcmp {x y : VaV} (hx : x.ok) (hy : y.ok) (rx : x.right = true) (ry : y.right = true) (w : World) : Calls Tryz.prog 34 #[x.v, y.v] w fun e w' => (∃ c : Int, e = .returned (.int .i64 c) ∧ (c = 0 ↔ x = y)) ∧ Below w.heap.size w w' := by
  obtain ⟨w1, hw1⟩ : ∃ w1, w.alloc (.cells x.c.toArray 40) = w1 := ⟨_, rfl⟩
  obtain ⟨w2, hw2⟩ : ∃ w2, w1.alloc (.cells y.c.toArray 40) = w2 := ⟨_, rfl⟩
  have p1 : VaAt w1 w.heap.size x := by rw [← hw1]; exact heap_alloc_new _ _
  have b1 : Below w.heap.size w w1 := by rw [← hw1]; exact (Below.refl _ _).alloc (Nat.le_refl _) _
  have z1 : w1.heap.size = w.heap.size + 1 := by rw [← hw1]; simp
  have p2 : VaAt w2 (w.heap.size + 1) y := by rw [← hw2, ← z1]; exact heap_alloc_new _ _
  have b2 : Below w1.heap.size w1 w2 := by rw [← hw2]; exact (Below.refl _ _).alloc (Nat.le_refl _) _
  have q1 := p1.below b2
  have bb := b1.trans (b2.mono b1.size)
  have CA := (refright hx w2).mono fun e w3 (h : _ ∧ _) => (And.intro h.1 (And.intro (And.intro (q1.below h.2) (And.intro (p2.below h.2) (bb.trans (h.2.mono bb.size)))) ((refright hy w3).mono fun e w4 (g : _ ∧ _) => (And.intro g.1 (And.intro (And.intro ((q1.below h.2).below g.2) (And.intro ((p2.below h.2).below g.2) ((bb.trans (h.2.mono bb.size)).trans (g.2.mono (bb.trans (h.2.mono bb.size)).size)))) ((same_of x y w4).mono fun e w5 (f : _ ∧ _) => (And.intro f.1 (And.intro (((q1.below h.2).below g.2).below f.2) (And.intro (((p2.below h.2).below g.2).below f.2) (((bb.trans (h.2.mono bb.size)).trans (g.2.mono (bb.trans (h.2.mono bb.size)).size)).trans (f.2.mono ((bb.trans (h.2.mono bb.size)).trans (g.2.mono (bb.trans (h.2.mono bb.size)).size)).size)))))))))))
  rw [rx, ry] at CA
  have HC := hidMk CA
  have HB := hidMk (And.intro q1 (And.intro p2 bb))
  have HW := hidMk (And.intro hw1 hw2)
  clear p1 b1 z1 p2 b2 hw1 hw2 q1 bb CA hx hy rx ry
  show Calls Tryz.prog 34 #[.agg x.c.toArray, .agg y.c.toArray] w _
  go_enter Tryz.func34, Tryz.ntmps34
  go_upto_region 1 with fail
  rw [HW.out.1, HW.out.2]
  refine cmp1 (b2 := w.heap.size) (b3 := w.heap.size + 1) (x := x) (y := y) (r := decide (x = y)) (fun W => VaAt W w.heap.size x ∧ VaAt W (w.heap.size + 1) y ∧ Below w.heap.size w W) (fun W => VaAt W w.heap.size x ∧ VaAt W (w.heap.size + 1) y ∧ Below w.heap.size w W) _ w2 _ rfl rfl rfl HB.out (fun W q => load_va q.1) (fun W q => load_va q.2.1) HC.out ?_
  intro a' w3 hf ha
  obtain ⟨A, B, C⟩ := hf
  have HF := hidMk C
  subst ha
  simp only [Act.put, qsA, qsB, qsC]
  clear HB HW HC C
  by_cases e : x = y
  · rw [decide_eq_true e]
    have E := hidMk e
    clear e
    go_wp2
    go_ret
    exact ⟨⟨0, rfl, by simpa using E.out⟩, HF.out⟩
  · rw [decide_eq_false e]
    have E := hidMk e
    clear e
    have c0 : w3.cell? ⟨w.heap.size, 0, none⟩ = some (.int .u8 x.k) := (cell_of_row w3 _ 0 _ _ _ A).trans rfl
    have c1 : w3.cell? ⟨w.heap.size, 1, none⟩ = some (.int .i64 x.n) := (cell_of_row w3 _ 1 _ _ _ A).trans rfl
    have c2 : w3.cell? ⟨w.heap.size, 2, none⟩ = some (.float .f64 x.f) := (cell_of_row w3 _ 2 _ _ _ A).trans rfl
    have c3 : w3.cell? ⟨w.heap.size, 3, none⟩ = some (.string x.s) := (cell_of_row w3 _ 3 _ _ _ A).trans rfl
    have d0 : w3.cell? ⟨w.heap.size + 1, 0, none⟩ = some (.int .u8 y.k) := (cell_of_row w3 _ 0 _ _ _ B).trans rfl
    have d1 : w3.cell? ⟨w.heap.size + 1, 1, none⟩ = some (.int .i64 y.n) := (cell_of_row w3 _ 1 _ _ _ B).trans rfl
    have d2 : w3.cell? ⟨w.heap.size + 1, 2, none⟩ = some (.float .f64 y.f) := (cell_of_row w3 _ 2 _ _ _ B).trans rfl
    have d3 : w3.cell? ⟨w.heap.size + 1, 3, none⟩ = some (.string y.s) := (cell_of_row w3 _ 3 _ _ _ B).trans rfl
    clear A B
    go_wp2
    all_goals try (go_ret; exact ⟨⟨_, rfl, ⟨fun q => absurd q (by decide), fun q => absurd q E.out⟩⟩, HF.out⟩)
    all_goals try (rename_i HK; refine HK _ _ ?_; go_wp2; go_ret; exact ⟨⟨_, rfl, ⟨fun q => absurd q (by decide), fun q => absurd q E.out⟩⟩, HF.out⟩)
end Go.Proofs.YtifendlpeebofaaGreatDoor
namespace Go.Proofs.YtifendlpeebofaaGreatDoor
open Go.RowKit
theorem put_sort {a : Act} {i j : Nat} {u v : Value} (h : j < i) : (a.put (some i) u).put (some j) v = (a.put (some j) v).put (some i) u := by
  unfold Act.put
  simp only [Array.setIfInBounds_comm _ _ (show i ≠ j by omega)]
def agr1_ops : Array Oper := (⟨_, rfl⟩ : {o // some o = rgB Tryz.f6 1}).1
theorem agr1 {n k : Int} {lv : Value} (Fin : Nat → Nat → World → Prop) (a : Act) (w : World) (Q : Exit → Act → World → Prop) (zz : a.tmps.size = 224)
    (t0 : a.tmps.getD 0 undef = .int .i64 n)
    (t1 : a.tmps.getD 1 undef = lv)
    (CS : Calls Tryz.prog 33 #[.int .i64 n] w fun e w1 => e = .returned (.int .i64 k) ∧ Calls Tryz.prog 32 #[.int .i64 k, lv] w1 fun e w2 => ∃ sb mb, e = .returned (.tuple #[.pointer (some ⟨sb, 0, none⟩), .pointer (some ⟨mb, 0, none⟩), .bool true]) ∧ Fin sb mb w2)
    (h : ∀ (sb mb : Nat) a' w', Fin sb mb w' → a' = ((((((((((a.put (some 20) (.int .i64 n)).put (some 21) (.int .i64 k)).put (some 22) (lv)).put (some 23) (.tuple #[.pointer (some ⟨sb, 0, none⟩), .pointer (some ⟨mb, 0, none⟩), .bool true])).put (some 19) (.tuple #[.pointer (some ⟨sb, 0, none⟩), .pointer (some ⟨mb, 0, none⟩), .bool true])).put (some 24) (.pointer (some ⟨sb, 0, none⟩))).put (some 25) (.pointer (some ⟨mb, 0, none⟩))).put (some 26) (.bool true)).put (some 5) (.pointer (some ⟨sb, 0, none⟩))).put (some 6) (.pointer (some ⟨mb, 0, none⟩))).put (some 7) (.bool true) → Q .normal a' w') :
    (Code.region 1 agr1_ops false).wp Tryz.prog Q a w := by
  refine z0 rfl ?_
  refine zv rfl (xmv rfl (zi t0 rfl)) ?_
  refine zc rfl (exec_c1 rfl (zg zz rfl)) (CS) (fun e x1 hx => ?_)
  obtain ⟨rfl, CL⟩ := hx
  refine ⟨_, rfl, ?_⟩
  refine zv rfl (xmv rfl (zi t1 rfl)) ?_
  refine zc rfl (exec_c2 rfl (zg zz rfl) (zg zz rfl)) (CL) (fun e x3 hx => ?_)
  obtain ⟨sb, mb, rfl, HF⟩ := hx
  replace h := h sb mb
  refine ⟨_, rfl, ?_⟩
  refine zv rfl (xmv rfl (zg zz rfl)) ?_
  iterate 3 refine zv rfl (exec_extract rfl (zg zz rfl) rfl) ?_
  iterate 3 refine zv rfl (xas rfl (zg zz rfl)) ?_
  exact ze rfl (h _ _ (HF) rfl)
def agr4_ops : Array Oper := (⟨_, rfl⟩ : {o // some o = rgB Tryz.f6 4}).1
theorem agr4 {sb mb : Nat} (Fin : Value → World → Prop) (a : Act) (w : World) (Q : Exit → Act → World → Prop) (zz : a.tmps.size = 224)
    (t5 : a.tmps.getD 5 undef = .pointer (some ⟨sb, 0, none⟩))
    (t6 : a.tmps.getD 6 undef = .pointer (some ⟨mb, 0, none⟩))
    (CP : Calls Tryz.prog 25 #[.pointer (some ⟨mb, 0, none⟩), .pointer (some ⟨sb, 0, none⟩)] w fun e w1 => ∃ v, e = .returned v ∧ Fin v w1)
    (h : ∀ (v : Value) a' w', Fin v w' → a' = (((a.put (some 29) (.pointer (some ⟨mb, 0, none⟩))).put (some 30) (.pointer (some ⟨sb, 0, none⟩))).put (some 31) (v)).put (some 8) (v) → Q .normal a' w') :
    (Code.region 4 agr4_ops false).wp Tryz.prog Q a w := by
  refine z0 rfl ?_
  refine zv rfl (xmv rfl (zi t6 rfl)) ?_
  refine zv rfl (xmv rfl (zi t5 rfl)) ?_
  refine zc rfl (exec_c2 rfl (zg zz rfl) (zg zz rfl)) (CP) (fun e x2 hx => ?_)
  obtain ⟨v, rfl, HF⟩ := hx
  replace h := h v
  refine ⟨_, rfl, ?_⟩
  refine zv rfl (xas rfl (zg zz rfl)) ?_
  exact ze rfl (h _ _ (HF) rfl)
def agr8_ops : Array Oper := (⟨_, rfl⟩ : {o // some o = rgB Tryz.f6 8}).1
theorem agr8 {g o n c i : Nat} {z k : Int} {x : SpV} (S : World → Prop) (a : Act) (w : World) (Q : Exit → Act → World → Prop) (zz : a.tmps.size = 224)
    (t0 : a.tmps.getD 0 undef = .int .i64 z)
    (t8 : a.tmps.getD 8 undef = .slice (some ⟨g, o, none⟩) n c)
    (t9 : a.tmps.getD 9 undef = .int .i64 (i : Int))
    (h0 : S w.drew) (hi : i < n) (hm : n ≤ 9223372036854775807) (h1 : ¬ x.fr < 0) (h2 : ¬ x.fr ≥ x.to) (h3 : ¬ x.to > k) (h4 : ¬ x.v.k = 0) (LF : ∀ W, S W → (Instr.loadAt 3 (.pointer (some ⟨g, o + 7 * i + 0, none⟩))).run Tryz.prog W = .ok (.int .i64 x.fr) W) (LT : ∀ W, S W → (Instr.loadAt 3 (.pointer (some ⟨g, o + 7 * i + 1, none⟩))).run Tryz.prog W = .ok (.int .i64 x.to) W) (LK : ∀ W, S W → (Instr.loadAt 37 (.pointer (some ⟨g, o + 7 * i + 3 + 0, none⟩))).run Tryz.prog W = .ok (.int .u8 x.v.k) W) (CS : ∀ W, S W → Calls Tryz.prog 33 #[.int .i64 z] W fun e w1 => e = .returned (.int .i64 k) ∧ S w1)
    (h : ∀ a' w', S w' → a' = (((((((((((((((((((((((((((((((((((((a.put (some 38) (.slice (some ⟨g, o, none⟩) n c)).put (some 39) (.int .i64 (i : Int))).put (some 40) (.pointer (some ⟨g, o + 7 * i, none⟩))).put (some 41) (.pointer (some ⟨g, o + 7 * i + 0, none⟩))).put (some 42) (.int .i64 x.fr)).put (some 43) (.bool false)).put (some 44) (.bool false)).put (some 45) (.slice (some ⟨g, o, none⟩) n c)).put (some 46) (.int .i64 (i : Int))).put (some 47) (.pointer (some ⟨g, o + 7 * i, none⟩))).put (some 48) (.pointer (some ⟨g, o + 7 * i + 0, none⟩))).put (some 49) (.int .i64 x.fr)).put (some 50) (.slice (some ⟨g, o, none⟩) n c)).put (some 51) (.int .i64 (i : Int))).put (some 52) (.pointer (some ⟨g, o + 7 * i, none⟩))).put (some 53) (.pointer (some ⟨g, o + 7 * i + 1, none⟩))).put (some 54) (.int .i64 x.to)).put (some 55) (.bool false)).put (some 56) (.bool false)).put (some 57) (.bool false)).put (some 58) (.slice (some ⟨g, o, none⟩) n c)).put (some 59) (.int .i64 (i : Int))).put (some 60) (.pointer (some ⟨g, o + 7 * i, none⟩))).put (some 61) (.pointer (some ⟨g, o + 7 * i + 1, none⟩))).put (some 62) (.int .i64 x.to)).put (some 63) (.int .i64 z)).put (some 64) (.int .i64 k)).put (some 65) (.bool false)).put (some 66) (.bool false)).put (some 67) (.bool false)).put (some 68) (.slice (some ⟨g, o, none⟩) n c)).put (some 69) (.int .i64 (i : Int))).put (some 70) (.pointer (some ⟨g, o + 7 * i, none⟩))).put (some 71) (.pointer (some ⟨g, o + 7 * i + 3, none⟩))).put (some 72) (.pointer (some ⟨g, o + 7 * i + 3 + 0, none⟩))).put (some 73) (.int .u8 x.v.k)).put (some 74) (.bool false)).put (some 75) (.bool false) → Q .normal a' w') :
    (Code.region 8 agr8_ops true).wp Tryz.prog Q a w := by
  refine y0 (fun w' => S w') (h0) (fun hHeld => ?_)
  refine yv 0 rfl rfl (fun w1 hw => xmv rfl (zi t8 rfl)) hHeld ?_
  refine yv 1 rfl rfl (fun w1 hw => xmv rfl (zi t9 rfl)) hHeld ?_
  refine yv 2 rfl rfl (fun w1 hw => xia rfl (zg zz rfl) (zg zz rfl) (ix_sp hi hm _)) hHeld ?_
  refine yv 3 rfl rfl (fun w1 hw => xfa rfl (zg zz rfl) (fg_65_0 _ _ _)) hHeld ?_
  refine yv 4 rfl rfl (fun w1 hw => xld rfl (zg zz rfl) (LF _ hw)) hHeld ?_
  refine yv (v := .bool false) 5 rfl rfl (fun w1 hw => ex_lss rfl (zg zz rfl) rfl (decide_eq_false h1)) hHeld ?_
  refine yv 6 rfl rfl (fun w1 hw => xmv rfl (zg zz rfl)) hHeld ?_
  refine yv 7 rfl (zw zz rfl rfl rfl (zg zz rfl)) (fun w1 hw => xmv rfl (zi t8 rfl)) hHeld ?_
  refine yv 8 rfl (zw zz rfl rfl rfl (zg zz rfl)) (fun w1 hw => xmv rfl (zi t9 rfl)) hHeld ?_
  refine yv 9 rfl (zw zz rfl rfl rfl (zg zz rfl)) (fun w1 hw => xia rfl (zg zz rfl) (zg zz rfl) (ix_sp hi hm _)) hHeld ?_
  refine yv 10 rfl (zw zz rfl rfl rfl (zg zz rfl)) (fun w1 hw => xfa rfl (zg zz rfl) (fg_65_0 _ _ _)) hHeld ?_
  refine yv 11 rfl (zw zz rfl rfl rfl (zg zz rfl)) (fun w1 hw => xld rfl (zg zz rfl) (LF _ hw)) hHeld ?_
  refine yv 12 rfl (zw zz rfl rfl rfl (zg zz rfl)) (fun w1 hw => xmv rfl (zi t8 rfl)) hHeld ?_
  refine yv 13 rfl (zw zz rfl rfl rfl (zg zz rfl)) (fun w1 hw => xmv rfl (zi t9 rfl)) hHeld ?_
  refine yv 14 rfl (zw zz rfl rfl rfl (zg zz rfl)) (fun w1 hw => xia rfl (zg zz rfl) (zg zz rfl) (ix_sp hi hm _)) hHeld ?_
  refine yv 15 rfl (zw zz rfl rfl rfl (zg zz rfl)) (fun w1 hw => xfa rfl (zg zz rfl) (fg_65_1 _ _ _)) hHeld ?_
  refine yv 16 rfl (zw zz rfl rfl rfl (zg zz rfl)) (fun w1 hw => xld rfl (zg zz rfl) (LT _ hw)) hHeld ?_
  refine yv (v := .bool false) 17 rfl (zw zz rfl rfl rfl (zg zz rfl)) (fun w1 hw => ex_geq rfl (zg zz rfl) (zg zz rfl) (decide_eq_false h2)) hHeld ?_
  refine yv 18 rfl rfl (fun w1 hw => exec_pickF rfl (zg zz rfl) (zg zz rfl)) hHeld ?_
  refine yv 19 rfl rfl (fun w1 hw => xmv rfl (zg zz rfl)) hHeld ?_
  refine yv 20 rfl (zw zz rfl rfl rfl (zg zz rfl)) (fun w1 hw => xmv rfl (zi t8 rfl)) hHeld ?_
  refine yv 21 rfl (zw zz rfl rfl rfl (zg zz rfl)) (fun w1 hw => xmv rfl (zi t9 rfl)) hHeld ?_
  refine yv 22 rfl (zw zz rfl rfl rfl (zg zz rfl)) (fun w1 hw => xia rfl (zg zz rfl) (zg zz rfl) (ix_sp hi hm _)) hHeld ?_
  refine yv 23 rfl (zw zz rfl rfl rfl (zg zz rfl)) (fun w1 hw => xfa rfl (zg zz rfl) (fg_65_1 _ _ _)) hHeld ?_
  refine yv 24 rfl (zw zz rfl rfl rfl (zg zz rfl)) (fun w1 hw => xld rfl (zg zz rfl) (LT _ hw)) hHeld ?_
  refine yv 25 rfl (zw zz rfl rfl rfl (zg zz rfl)) (fun w1 hw => xmv rfl (zi t0 rfl)) hHeld ?_
  refine yc 26 rfl (zw zz rfl rfl rfl (zg zz rfl)) (exec_c1 rfl (zg zz rfl)) (CS _ hHeld) (fun e x26 hx => ?_)
  obtain ⟨rfl, HF⟩ := hx
  refine ⟨_, rfl, HF, fun hHeld => ?_⟩
  refine yv (v := .bool false) 27 rfl (zw zz rfl rfl rfl (zg zz rfl)) (fun w1 hw => ex_gtr rfl (zg zz rfl) (zg zz rfl) (decide_eq_false h3)) hHeld ?_
  refine yv 28 rfl rfl (fun w1 hw => exec_pickF rfl (zg zz rfl) (zg zz rfl)) hHeld ?_
  refine yv 29 rfl rfl (fun w1 hw => xmv rfl (zg zz rfl)) hHeld ?_
  refine yv 30 rfl (zw zz rfl rfl rfl (zg zz rfl)) (fun w1 hw => xmv rfl (zi t8 rfl)) hHeld ?_
  refine yv 31 rfl (zw zz rfl rfl rfl (zg zz rfl)) (fun w1 hw => xmv rfl (zi t9 rfl)) hHeld ?_
  refine yv 32 rfl (zw zz rfl rfl rfl (zg zz rfl)) (fun w1 hw => xia rfl (zg zz rfl) (zg zz rfl) (ix_sp hi hm _)) hHeld ?_
  refine yv 33 rfl (zw zz rfl rfl rfl (zg zz rfl)) (fun w1 hw => xfa rfl (zg zz rfl) (fg_65_3 _ _ _)) hHeld ?_
  refine yv 34 rfl (zw zz rfl rfl rfl (zg zz rfl)) (fun w1 hw => xfa rfl (zg zz rfl) (fg_40_0 _ _ _)) hHeld ?_
  refine yv 35 rfl (zw zz rfl rfl rfl (zg zz rfl)) (fun w1 hw => xld rfl (zg zz rfl) (LK _ hw)) hHeld ?_
  refine yv (v := .bool false) 36 rfl (zw zz rfl rfl rfl (zg zz rfl)) (fun w1 hw => ex_eqlK rfl (zg zz rfl) rfl (decide_eq_false h4)) hHeld ?_
  refine yv 37 rfl rfl (fun w1 hw => exec_pickF rfl (zg zz rfl) (zg zz rfl)) hHeld ?_
  exact ye rfl (h _ _ (hHeld) rfl)
def agr13f_o0 : Oper := ⟨some 81, .move (.tmp 8), 49, "law.go:141", #[], none⟩
def agr13f_o1 : Oper := ⟨some 82, .move (.tmp 10), 3, "law.go:141", #[], none⟩
def agr13f_o2 : Oper := ⟨some 83, .indexAddr 49 (.tmp 81) (.tmp 82), 0, "law.go:141", #[⟨0, .data⟩, ⟨1, .data⟩], none⟩
def agr13f_o3 : Oper := ⟨some 84, .load 65 (.tmp 83), 65, "law.go:141", #[⟨2, .data⟩], none⟩
def agr13f_o4 : Oper := ⟨some 85, .move (.tmp 8), 49, "law.go:141", #[{ on := 10, ground := Ground.gcOnly Departure.lateStores }], none⟩
def agr13f_o5 : Oper := ⟨some 86, .move (.tmp 9), 3, "law.go:141", #[{ on := 10, ground := Ground.gcOnly Departure.lateStores }], none⟩
def agr13f_o6 : Oper := ⟨some 87, .indexAddr 49 (.tmp 85) (.tmp 86), 0, "law.go:141", #[⟨4, .data⟩, ⟨5, .data⟩, { on := 10, ground := Ground.gcOnly Departure.lateStores }], none⟩
def agr13f_o7 : Oper := ⟨some 88, .load 65 (.tmp 87), 65, "law.go:141", #[⟨6, .data⟩, { on := 10, ground := Ground.gcOnly Departure.lateStores }], none⟩
def agr13f_o8 : Oper := ⟨some 11, .alloc 65, 0, "law.go:141", #[], none⟩
def agr13f_o9 : Oper := ⟨some 12, .alloc 65, 0, "law.go:141", #[], none⟩
def agr13f_o10 : Oper := ⟨none, .store 65 (.tmp 11) (.tmp 84), 0, "law.go:141", #[⟨8, .data⟩, ⟨3, .data⟩, ⟨0, .phase⟩, ⟨1, .phase⟩, ⟨2, .phase⟩, ⟨3, .phase⟩, { on := 4, ground := Ground.textOnly Departure.lateStores }, { on := 5, ground := Ground.textOnly Departure.lateStores }, { on := 6, ground := Ground.textOnly Departure.lateStores }, { on := 7, ground := Ground.textOnly Departure.lateStores }, ⟨8, .phase⟩, ⟨9, .phase⟩], none⟩
def agr13f_o11 : Oper := ⟨none, .store 65 (.tmp 12) (.tmp 88), 0, "law.go:141", #[⟨9, .data⟩, ⟨7, .data⟩, ⟨10, .chain⟩, ⟨0, .phase⟩, ⟨1, .phase⟩, ⟨2, .phase⟩, ⟨3, .phase⟩, ⟨4, .phase⟩, ⟨5, .phase⟩, ⟨6, .phase⟩, ⟨7, .phase⟩, ⟨8, .phase⟩, ⟨9, .phase⟩, ⟨10, .phase⟩], none⟩
def agr13f_ops : Array Oper := #[agr13f_o0, agr13f_o1, agr13f_o2, agr13f_o3, agr13f_o4, agr13f_o5, agr13f_o6, agr13f_o7, agr13f_o8, agr13f_o9, agr13f_o10, agr13f_o11]
theorem agr13f {g o n c i k : Nat} {x y : SpV} (S : World → Prop) (B : Nat → World → Prop) (C D Fin : Nat → Nat → World → Prop) (a : Act) (w : World) (Q : Exit → Act → World → Prop) (hsz : a.tmps.size = 224)
    (t8 : a.tmps.getD 8 undef = .slice (some ⟨g, o, none⟩) n c)
    (t9 : a.tmps.getD 9 undef = .int .i64 (i : Int))
    (t10 : a.tmps.getD 10 undef = .int .i64 (k : Int))
    (h0 : S w.drew) (hi : i < n) (hk : k < n) (hm : n ≤ 9223372036854775807) (BS : ∀ p W, B p W → S W) (CS : ∀ p q W, C p q W → S W) (DS : ∀ p q W, D p q W → S W) (FS : ∀ p q W, Fin p q W → S W) (Lx : ∀ W, S W → (Instr.loadAt 65 (.pointer (some ⟨g, o + 7 * i, none⟩))).run Tryz.prog W = .ok (x.a) W) (Ly : ∀ W, S W → (Instr.loadAt 65 (.pointer (some ⟨g, o + 7 * k, none⟩))).run Tryz.prog W = .ok (y.a) W) (EA : ∀ W, S W → ∃ p w1, (Instr.alloc 65 true (.tuple #[])).run Tryz.prog W = .ok (.pointer (some ⟨p, 0, none⟩)) w1 ∧ B p w1) (EB : ∀ p W, B p W → ∃ q w1, (Instr.alloc 65 true (.tuple #[])).run Tryz.prog W = .ok (.pointer (some ⟨q, 0, none⟩)) w1 ∧ C p q w1 ∧ C q p w1) (E1 : ∀ p q W, C p q W → ∃ w1, (Instr.storeAt 65 (.pointer (some ⟨p, 0, none⟩)) y.a).run Tryz.prog W = .ok () w1 ∧ D p q w1) (E2 : ∀ p q W, D p q W → ∃ w1, (Instr.storeAt 65 (.pointer (some ⟨q, 0, none⟩)) x.a).run Tryz.prog W = .ok () w1 ∧ Fin p q w1)
    (h1 : ∀ (p1 p2 : Nat) a' w', Fin p1 p2 w' → a' = (((((((((a.put (some 81) (.slice (some ⟨g, o, none⟩) n c)).put (some 82) (.int .i64 (k : Int))).put (some 83) (.pointer (some ⟨g, o + 7 * k, none⟩))).put (some 84) (y.a)).put (some 85) (.slice (some ⟨g, o, none⟩) n c)).put (some 86) (.int .i64 (i : Int))).put (some 87) (.pointer (some ⟨g, o + 7 * i, none⟩))).put (some 88) (x.a)).put (some 11) (.pointer (some ⟨p1, 0, none⟩))).put (some 12) (.pointer (some ⟨p2, 0, none⟩)) → Q .normal a' w')
    (h2 : ∀ (p1 p2 : Nat) a' w', Fin p2 p1 w' → a' = (((((((((a.put (some 81) (.slice (some ⟨g, o, none⟩) n c)).put (some 82) (.int .i64 (k : Int))).put (some 83) (.pointer (some ⟨g, o + 7 * k, none⟩))).put (some 84) (y.a)).put (some 85) (.slice (some ⟨g, o, none⟩) n c)).put (some 86) (.int .i64 (i : Int))).put (some 87) (.pointer (some ⟨g, o + 7 * i, none⟩))).put (some 88) (x.a)).put (some 12) (.pointer (some ⟨p1, 0, none⟩))).put (some 11) (.pointer (some ⟨p2, 0, none⟩)) → Q .normal a' w') :
    (Code.region 13 agr13f_ops true).wp Tryz.prog Q a w := by
  refine wp_region_noPanic ?_
  refine wp_region_held_drew (S := fun w' => S w') (by kernel_rfl) (h0) (fun hHeld => ?_)
  refine wpAnyH_take (i := 0) (oi := agr13f_o0) (v := .slice (some ⟨g, o, none⟩) n c) rfl (by kernel_rfl) (by kernel_rfl) (by kernel_rfl) (fun _ _ _ h => h) (Or.inl ⟨by rfl, fun w1 hw => xmv rfl t8⟩) hHeld ?_
  change wpAnyH _ _ _ _ _ _ _ (a.put (some 81) (.slice (some ⟨g, o, none⟩) n c)) _
  obtain ⟨a1, e1⟩ : ∃ act, act = a.put (some 81) (.slice (some ⟨g, o, none⟩) n c) := ⟨_, rfl⟩
  rw [← e1] at h1 h2 ⊢
  have z1 := pz e1 hsz
  replace t8 := pk e1 t8
  replace t9 := pk e1 t9
  replace t10 := pk e1 t10
  have t81 := pq e1 hsz
  clear e1 hsz
  refine wpAnyH_take (i := 1) (oi := agr13f_o1) (v := .int .i64 (k : Int)) rfl (by kernel_rfl) (by kernel_rfl) (by kernel_rfl) (fun _ _ _ h => h) (Or.inl ⟨by rfl, fun w1 hw => xmv rfl t10⟩) hHeld ?_
  change wpAnyH _ _ _ _ _ _ _ (a1.put (some 82) (.int .i64 (k : Int))) _
  obtain ⟨a2, e2⟩ : ∃ act, act = a1.put (some 82) (.int .i64 (k : Int)) := ⟨_, rfl⟩
  rw [← e2] at h1 h2 ⊢
  have z2 := pz e2 z1
  replace t8 := pk e2 t8
  replace t9 := pk e2 t9
  replace t81 := pk e2 t81
  clear t10
  have t82 := pq e2 z1
  clear e2 z1
  refine wpAnyH_take (i := 2) (oi := agr13f_o2) (v := .pointer (some ⟨g, o + 7 * k, none⟩)) rfl (by kernel_rfl) (by kernel_rfl) (by kernel_rfl) (fun _ _ _ h => h) (Or.inl ⟨by rfl, fun w1 hw => xia rfl t81 t82 (ix_sp hk hm _)⟩) hHeld ?_
  change wpAnyH _ _ _ _ _ _ _ (a2.put (some 83) (.pointer (some ⟨g, o + 7 * k, none⟩))) _
  obtain ⟨a3, e3⟩ : ∃ act, act = a2.put (some 83) (.pointer (some ⟨g, o + 7 * k, none⟩)) := ⟨_, rfl⟩
  rw [← e3] at h1 h2 ⊢
  have z3 := pz e3 z2
  replace t8 := pk e3 t8
  replace t9 := pk e3 t9
  clear t81 t82
  have t83 := pq e3 z2
  clear e3 z2
  refine wpAnyH_take (i := 3) (oi := agr13f_o3) (v := y.a) rfl (by kernel_rfl) (by kernel_rfl) (by kernel_rfl) (fun _ _ _ h => h) (Or.inl ⟨by rfl, fun w1 hw => xld rfl t83 (Ly _ hw)⟩) hHeld ?_
  change wpAnyH _ _ _ _ _ _ _ (a3.put (some 84) (y.a)) _
  obtain ⟨a4, e4⟩ : ∃ act, act = a3.put (some 84) (y.a) := ⟨_, rfl⟩
  rw [← e4] at h1 h2 ⊢
  have z4 := pz e4 z3
  replace t8 := pk e4 t8
  replace t9 := pk e4 t9
  clear t83
  have t84 := pq e4 z3
  clear e4 z3
  refine wpAnyH_take (i := 4) (oi := agr13f_o4) (v := .slice (some ⟨g, o, none⟩) n c) rfl (by kernel_rfl) (by kernel_rfl) (by kernel_rfl) (fun _ _ _ h => h) (Or.inl ⟨by rfl, fun w1 hw => xmv rfl t8⟩) hHeld ?_
  change wpAnyH _ _ _ _ _ _ _ (a4.put (some 85) (.slice (some ⟨g, o, none⟩) n c)) _
  obtain ⟨a5, e5⟩ : ∃ act, act = a4.put (some 85) (.slice (some ⟨g, o, none⟩) n c) := ⟨_, rfl⟩
  rw [← e5] at h1 h2 ⊢
  have z5 := pz e5 z4
  replace t9 := pk e5 t9
  replace t84 := pk e5 t84
  clear t8
  have t85 := pq e5 z4
  clear e5 z4
  refine wpAnyH_take (i := 5) (oi := agr13f_o5) (v := .int .i64 (i : Int)) rfl (by kernel_rfl) (by kernel_rfl) (by kernel_rfl) (fun _ _ _ h => h) (Or.inl ⟨by rfl, fun w1 hw => xmv rfl t9⟩) hHeld ?_
  change wpAnyH _ _ _ _ _ _ _ (a5.put (some 86) (.int .i64 (i : Int))) _
  obtain ⟨a6, e6⟩ : ∃ act, act = a5.put (some 86) (.int .i64 (i : Int)) := ⟨_, rfl⟩
  rw [← e6] at h1 h2 ⊢
  have z6 := pz e6 z5
  replace t84 := pk e6 t84
  replace t85 := pk e6 t85
  clear t9
  have t86 := pq e6 z5
  clear e6 z5
  refine wpAnyH_take (i := 6) (oi := agr13f_o6) (v := .pointer (some ⟨g, o + 7 * i, none⟩)) rfl (by kernel_rfl) (by kernel_rfl) (by kernel_rfl) (fun _ _ _ h => h) (Or.inl ⟨by rfl, fun w1 hw => xia rfl t85 t86 (ix_sp hi hm _)⟩) hHeld ?_
  change wpAnyH _ _ _ _ _ _ _ (a6.put (some 87) (.pointer (some ⟨g, o + 7 * i, none⟩))) _
  obtain ⟨a7, e7⟩ : ∃ act, act = a6.put (some 87) (.pointer (some ⟨g, o + 7 * i, none⟩)) := ⟨_, rfl⟩
  rw [← e7] at h1 h2 ⊢
  have z7 := pz e7 z6
  replace t84 := pk e7 t84
  clear t85 t86
  have t87 := pq e7 z6
  clear e7 z6
  refine wpAnyH_take (i := 7) (oi := agr13f_o7) (v := x.a) rfl (by kernel_rfl) (by kernel_rfl) (by kernel_rfl) (fun _ _ _ h => h) (Or.inl ⟨by rfl, fun w1 hw => xld rfl t87 (Lx _ hw)⟩) hHeld ?_
  change wpAnyH _ _ _ _ _ _ _ (a7.put (some 88) (x.a)) _
  obtain ⟨a8, e8⟩ : ∃ act, act = a7.put (some 88) (x.a) := ⟨_, rfl⟩
  rw [← e8] at h1 h2 ⊢
  have z8 := pz e8 z7
  replace t84 := pk e8 t84
  clear t87
  have t88 := pq e8 z7
  clear e8 z7
  refine wpAnyH_ready (rs := [8, 9]) (by kernel_rfl) (by simp) ?_
  refine AllReadyH.cons (o := agr13f_o8) rfl (fun K hK => ?_) (AllReadyH.cons (o := agr13f_o9) rfl (fun K hK => ?_) (AllReadyH.nil))
  · clear h2
    obtain ⟨p1, wa, EA1, HB⟩ := EA _ hHeld; replace h1 := h1 p1
    have X := exec_alloc (P := Tryz.prog) (a := a8) (o := agr13f_o8) rfl EA1
    rw [if_pos (by rfl), Oper.wp, X]
    show K _ _
    clear X
    refine hK.out _ _ (BS _ _ HB) (fun hHeld => ?_)
    clear hK K
    change wpAnyH _ _ _ _ _ _ _ (a8.put (some 11) (.pointer (some ⟨p1, 0, none⟩))) _
    obtain ⟨a9, e9⟩ : ∃ act, act = a8.put (some 11) (.pointer (some ⟨p1, 0, none⟩)) := ⟨_, rfl⟩
    rw [← e9] at h1 ⊢
    have z9 := pz e9 z8
    replace t84 := pk e9 t84
    replace t88 := pk e9 t88
    have t11 := pq e9 z8
    clear e9 z8
    refine wpAnyH_ready (rs := [9]) (by kernel_rfl) (by simp) ?_
    refine AllReadyH.cons (o := agr13f_o9) rfl (fun K hK => ?_) AllReadyH.nil
    obtain ⟨p2, wb, EB1, HC, HD⟩ := EB _ _ HB; replace h1 := h1 p2
    have X := exec_alloc (P := Tryz.prog) (a := a9) (o := agr13f_o9) rfl EB1
    rw [if_pos (by rfl), Oper.wp, X]
    show K _ _
    clear X
    refine hK.out _ _ (CS _ _ _ HC) (fun hHeld => ?_)
    clear hK K
    change wpAnyH _ _ _ _ _ _ _ (a9.put (some 12) (.pointer (some ⟨p2, 0, none⟩))) _
    obtain ⟨a10, e10⟩ : ∃ act, act = a9.put (some 12) (.pointer (some ⟨p2, 0, none⟩)) := ⟨_, rfl⟩
    rw [← e10] at h1 ⊢
    have z10 := pz e10 z9
    replace t84 := pk e10 t84
    replace t88 := pk e10 t88
    replace t11 := pk e10 t11
    have t12 := pq e10 z9
    clear e10 z9
    refine wpAnyH_ready (rs := [10]) (by kernel_rfl) (by simp) ?_
    refine AllReadyH.cons (o := agr13f_o10) rfl (fun K hK => ?_) AllReadyH.nil
    obtain ⟨wc, ES1, HE⟩ := E1 _ _ _ HC
    have X := exec_store (P := Tryz.prog) (a := a10) (o := agr13f_o10) rfl t11 t84 ES1
    rw [if_pos (by rfl), Oper.wp, X]
    show K _ _
    clear X
    refine hK.out _ _ (DS _ _ _ HE) (fun hHeld => ?_)
    clear hK K
    change wpAnyH _ _ _ _ _ _ _ a10 _
    refine wpAnyH_ready (rs := [11]) (by kernel_rfl) (by simp) ?_
    refine AllReadyH.cons (o := agr13f_o11) rfl (fun K hK => ?_) AllReadyH.nil
    obtain ⟨we, ES2, HF⟩ := E2 _ _ _ HE
    have X := exec_store (P := Tryz.prog) (a := a10) (o := agr13f_o11) rfl t12 t88 ES2
    rw [if_pos (by rfl), Oper.wp, X]
    show K _ _
    clear X
    refine hK.out _ _ (FS _ _ _ HF) (fun hHeld => ?_)
    clear hK K
    exact wpAnyH_done (by kernel_rfl) (NoPanic.normal (h1 _ _ (HF) rfl)) _
  · clear h1
    obtain ⟨p1, wa, EA1, HB⟩ := EA _ hHeld; replace h2 := h2 p1
    have X := exec_alloc (P := Tryz.prog) (a := a8) (o := agr13f_o9) rfl EA1
    rw [if_pos (by rfl), Oper.wp, X]
    show K _ _
    clear X
    refine hK.out _ _ (BS _ _ HB) (fun hHeld => ?_)
    clear hK K
    change wpAnyH _ _ _ _ _ _ _ (a8.put (some 12) (.pointer (some ⟨p1, 0, none⟩))) _
    obtain ⟨a13, e13⟩ : ∃ act, act = a8.put (some 12) (.pointer (some ⟨p1, 0, none⟩)) := ⟨_, rfl⟩
    rw [← e13] at h2 ⊢
    have z13 := pz e13 z8
    replace t84 := pk e13 t84
    replace t88 := pk e13 t88
    have t12 := pq e13 z8
    clear e13 z8
    refine wpAnyH_ready (rs := [8]) (by kernel_rfl) (by simp) ?_
    refine AllReadyH.cons (o := agr13f_o8) rfl (fun K hK => ?_) AllReadyH.nil
    obtain ⟨p2, wb, EB1, HC, HD⟩ := EB _ _ HB; replace h2 := h2 p2
    have X := exec_alloc (P := Tryz.prog) (a := a13) (o := agr13f_o8) rfl EB1
    rw [if_pos (by rfl), Oper.wp, X]
    show K _ _
    clear X
    refine hK.out _ _ (CS _ _ _ HC) (fun hHeld => ?_)
    clear hK K
    change wpAnyH _ _ _ _ _ _ _ (a13.put (some 11) (.pointer (some ⟨p2, 0, none⟩))) _
    obtain ⟨a14, e14⟩ : ∃ act, act = a13.put (some 11) (.pointer (some ⟨p2, 0, none⟩)) := ⟨_, rfl⟩
    rw [← e14] at h2 ⊢
    have z14 := pz e14 z13
    replace t84 := pk e14 t84
    replace t88 := pk e14 t88
    replace t12 := pk e14 t12
    have t11 := pq e14 z13
    clear e14 z13
    refine wpAnyH_ready (rs := [10]) (by kernel_rfl) (by simp) ?_
    refine AllReadyH.cons (o := agr13f_o10) rfl (fun K hK => ?_) AllReadyH.nil
    obtain ⟨wc, ES1, HE⟩ := E1 _ _ _ HD
    have X := exec_store (P := Tryz.prog) (a := a14) (o := agr13f_o10) rfl t11 t84 ES1
    rw [if_pos (by rfl), Oper.wp, X]
    show K _ _
    clear X
    refine hK.out _ _ (DS _ _ _ HE) (fun hHeld => ?_)
    clear hK K
    change wpAnyH _ _ _ _ _ _ _ a14 _
    refine wpAnyH_ready (rs := [11]) (by kernel_rfl) (by simp) ?_
    refine AllReadyH.cons (o := agr13f_o11) rfl (fun K hK => ?_) AllReadyH.nil
    obtain ⟨we, ES2, HF⟩ := E2 _ _ _ HE
    have X := exec_store (P := Tryz.prog) (a := a14) (o := agr13f_o11) rfl t12 t88 ES2
    rw [if_pos (by rfl), Oper.wp, X]
    show K _ _
    clear X
    refine hK.out _ _ (FS _ _ _ HF) (fun hHeld => ?_)
    clear hK K
    exact wpAnyH_done (by kernel_rfl) (NoPanic.normal (h2 _ _ (HF) rfl)) _
theorem agr13 {g o n c i k : Nat} {x y : SpV} (S : World → Prop) (B : Nat → World → Prop) (C D Fin : Nat → Nat → World → Prop) (a : Act) (w : World) (Q : Exit → Act → World → Prop) (hsz : a.tmps.size = 224)
    (t8 : a.tmps.getD 8 undef = .slice (some ⟨g, o, none⟩) n c)
    (t9 : a.tmps.getD 9 undef = .int .i64 (i : Int))
    (t10 : a.tmps.getD 10 undef = .int .i64 (k : Int))
    (h0 : S w.drew) (hi : i < n) (hk : k < n) (hm : n ≤ 9223372036854775807) (BS : ∀ p W, B p W → S W) (CS : ∀ p q W, C p q W → S W) (DS : ∀ p q W, D p q W → S W) (FS : ∀ p q W, Fin p q W → S W) (Lx : ∀ W, S W → (Instr.loadAt 65 (.pointer (some ⟨g, o + 7 * i, none⟩))).run Tryz.prog W = .ok (x.a) W) (Ly : ∀ W, S W → (Instr.loadAt 65 (.pointer (some ⟨g, o + 7 * k, none⟩))).run Tryz.prog W = .ok (y.a) W) (EA : ∀ W, S W → ∃ p w1, (Instr.alloc 65 true (.tuple #[])).run Tryz.prog W = .ok (.pointer (some ⟨p, 0, none⟩)) w1 ∧ B p w1) (EB : ∀ p W, B p W → ∃ q w1, (Instr.alloc 65 true (.tuple #[])).run Tryz.prog W = .ok (.pointer (some ⟨q, 0, none⟩)) w1 ∧ C p q w1 ∧ C q p w1) (E1 : ∀ p q W, C p q W → ∃ w1, (Instr.storeAt 65 (.pointer (some ⟨p, 0, none⟩)) y.a).run Tryz.prog W = .ok () w1 ∧ D p q w1) (E2 : ∀ p q W, D p q W → ∃ w1, (Instr.storeAt 65 (.pointer (some ⟨q, 0, none⟩)) x.a).run Tryz.prog W = .ok () w1 ∧ Fin p q w1)
    (h : ∀ (p1 p2 : Nat) a' w', Fin p1 p2 w' → a' = (((((((((a.put (some 81) (.slice (some ⟨g, o, none⟩) n c)).put (some 82) (.int .i64 (k : Int))).put (some 83) (.pointer (some ⟨g, o + 7 * k, none⟩))).put (some 84) (y.a)).put (some 85) (.slice (some ⟨g, o, none⟩) n c)).put (some 86) (.int .i64 (i : Int))).put (some 87) (.pointer (some ⟨g, o + 7 * i, none⟩))).put (some 88) (x.a)).put (some 11) (.pointer (some ⟨p1, 0, none⟩))).put (some 12) (.pointer (some ⟨p2, 0, none⟩)) → Q .normal a' w') :
    (Code.region 13 agr13f_ops true).wp Tryz.prog Q a w := by
  refine agr13f S B C D Fin a w Q hsz t8 t9 t10 h0 hi hk hm BS CS DS FS Lx Ly EA EB E1 E2 h (fun p1 p2 a1 w1 hf ha => h p2 p1 a1 w1 hf (by rw [ha, put_sort (show 11 < 12 by decide)]))
def agr14n_ops : Array Oper := (⟨_, rfl⟩ : {o // some o = rgB Tryz.f6 14}).1
theorem agr14n {pa pb : Nat} {p q : SpV} (a : Act) (w : World) (Q : Exit → Act → World → Prop) (zz : a.tmps.size = 224)
    (t11 : a.tmps.getD 11 undef = .pointer (some ⟨pa, 0, none⟩))
    (t12 : a.tmps.getD 12 undef = .pointer (some ⟨pb, 0, none⟩))
    (hn : ¬ p.nm = q.nm) (LNa : (Instr.loadAt 9 (.pointer (some ⟨pa, 0 + 2, none⟩))).run Tryz.prog w = .ok (.string p.nm) w) (LNb : (Instr.loadAt 9 (.pointer (some ⟨pb, 0 + 2, none⟩))).run Tryz.prog w = .ok (.string q.nm) w)
    (h : ∀ a' w', w' = w → a' = ((((((((((((((((((((((((((((((((((((((((a.put (some 89) (.pointer (some ⟨pa, 0 + 2, none⟩))).put (some 90) (.string p.nm)).put (some 91) (.pointer (some ⟨pb, 0 + 2, none⟩))).put (some 92) (.string q.nm)).put (some 93) (.bool false)).put (some 94) (.bool false)).put (some 95) (undef)).put (some 96) (undef)).put (some 97) (undef)).put (some 98) (undef)).put (some 99) (undef)).put (some 100) (undef)).put (some 101) (undef)).put (some 102) (undef)).put (some 103) (undef)).put (some 104) (undef)).put (some 105) (undef)).put (some 106) (undef)).put (some 107) (undef)).put (some 108) (undef)).put (some 109) (undef)).put (some 110) (undef)).put (some 111) (undef)).put (some 112) (undef)).put (some 113) (undef)).put (some 114) (undef)).put (some 115) (undef)).put (some 116) (undef)).put (some 117) (undef)).put (some 118) (undef)).put (some 119) (undef)).put (some 120) (undef)).put (some 121) (undef)).put (some 122) (undef)).put (some 123) (undef)).put (some 124) (undef)).put (some 125) (undef)).put (some 126) (undef)).put (some 127) (undef)).put (some 128) (undef)).put (some 129) (.bool false) → Q .normal a' w') :
    (Code.region 14 agr14n_ops false).wp Tryz.prog Q a w := by
  refine z0 rfl ?_
  refine zv rfl (xfa rfl (zi t11 rfl) (fg_65_2 _ _ _)) ?_
  refine zv rfl (xld rfl (zg zz rfl) LNa) ?_
  refine zv rfl (xfa rfl (zi t12 rfl) (fg_65_2 _ _ _)) ?_
  refine zv rfl (xld rfl (zg zz rfl) LNb) ?_
  refine zv (v := .bool false) rfl (ex_eqTr rfl (zg zz rfl) (zg zz rfl) (decide_eq_false hn)) ?_
  refine zv rfl (xmv rfl (zg zz rfl)) ?_
  iterate 34 refine zn (zx zz rfl rfl rfl (zg zz rfl)) ?_
  refine zv rfl (exec_pickF rfl (zg zz rfl) rfl) ?_
  exact ze rfl (h _ _ (rfl) rfl)
theorem agr14y {pa pb : Nat} {p q : SpV} (Fin : World → Prop) (a : Act) (w : World) (Q : Exit → Act → World → Prop) (zz : a.tmps.size = 224)
    (t11 : a.tmps.getD 11 undef = .pointer (some ⟨pa, 0, none⟩))
    (t12 : a.tmps.getD 12 undef = .pointer (some ⟨pb, 0, none⟩))
    (hn : p.nm = q.nm) (h1 : ¬ p.to > q.fr) (h2 : p.to = q.fr) (LNa : (Instr.loadAt 9 (.pointer (some ⟨pa, 0 + 2, none⟩))).run Tryz.prog w = .ok (.string p.nm) w) (LNb : (Instr.loadAt 9 (.pointer (some ⟨pb, 0 + 2, none⟩))).run Tryz.prog w = .ok (.string q.nm) w) (LTa : (Instr.loadAt 3 (.pointer (some ⟨pa, 0 + 1, none⟩))).run Tryz.prog w = .ok (.int .i64 p.to) w) (LFb : (Instr.loadAt 3 (.pointer (some ⟨pb, 0 + 0, none⟩))).run Tryz.prog w = .ok (.int .i64 q.fr) w) (LVa : (Instr.loadAt 40 (.pointer (some ⟨pa, 0 + 3, none⟩))).run Tryz.prog w = .ok (p.v.v) w) (LVb : (Instr.loadAt 40 (.pointer (some ⟨pb, 0 + 3, none⟩))).run Tryz.prog w = .ok (q.v.v) w) (CC : Calls Tryz.prog 34 #[p.v.v, q.v.v] w fun e w1 => ∃ d : Int, e = .returned (.int .i64 d) ∧ ¬ d = 0 ∧ Fin w1)
    (h : ∀ (d : Int) a' w', Fin w' → a' = ((((((((((((((((((((((((((((((((((((((((a.put (some 89) (.pointer (some ⟨pa, 0 + 2, none⟩))).put (some 90) (.string p.nm)).put (some 91) (.pointer (some ⟨pb, 0 + 2, none⟩))).put (some 92) (.string q.nm)).put (some 93) (.bool true)).put (some 94) (.bool true)).put (some 95) (.pointer (some ⟨pa, 0 + 1, none⟩))).put (some 96) (.int .i64 p.to)).put (some 97) (.pointer (some ⟨pb, 0 + 0, none⟩))).put (some 98) (.int .i64 q.fr)).put (some 99) (.bool false)).put (some 100) (.bool false)).put (some 101) (undef)).put (some 102) (undef)).put (some 103) (undef)).put (some 104) (undef)).put (some 105) (undef)).put (some 106) (.bool false)).put (some 107) (.bool false)).put (some 108) (.pointer (some ⟨pa, 0 + 1, none⟩))).put (some 109) (.int .i64 p.to)).put (some 110) (.pointer (some ⟨pb, 0 + 0, none⟩))).put (some 111) (.int .i64 q.fr)).put (some 112) (.bool true)).put (some 113) (.bool true)).put (some 114) (undef)).put (some 115) (undef)).put (some 116) (undef)).put (some 117) (undef)).put (some 118) (undef)).put (some 119) (.bool true)).put (some 120) (.bool true)).put (some 121) (.pointer (some ⟨pa, 0 + 3, none⟩))).put (some 122) (p.v.v)).put (some 123) (.pointer (some ⟨pb, 0 + 3, none⟩))).put (some 124) (q.v.v)).put (some 125) (.int .i64 d)).put (some 126) (.bool false)).put (some 127) (.bool false)).put (some 128) (.bool false)).put (some 129) (.bool false) → Q .normal a' w') :
    (Code.region 14 agr14n_ops false).wp Tryz.prog Q a w := by
  refine z0 rfl ?_
  refine zv rfl (xfa rfl (zi t11 rfl) (fg_65_2 _ _ _)) ?_
  refine zv rfl (xld rfl (zg zz rfl) LNa) ?_
  refine zv rfl (xfa rfl (zi t12 rfl) (fg_65_2 _ _ _)) ?_
  refine zv rfl (xld rfl (zg zz rfl) LNb) ?_
  refine zv (v := .bool true) rfl (ex_eqTr rfl (zg zz rfl) (zg zz rfl) (decide_eq_true hn)) ?_
  refine zv rfl (xmv rfl (zg zz rfl)) ?_
  refine zv (zw zz rfl rfl rfl (zg zz rfl)) (xfa rfl (zi t11 rfl) (fg_65_1 _ _ _)) ?_
  refine zv (zw zz rfl rfl rfl (zg zz rfl)) (xld rfl (zg zz rfl) LTa) ?_
  refine zv (zw zz rfl rfl rfl (zg zz rfl)) (xfa rfl (zi t12 rfl) (fg_65_0 _ _ _)) ?_
  refine zv (zw zz rfl rfl rfl (zg zz rfl)) (xld rfl (zg zz rfl) LFb) ?_
  refine zv (v := .bool false) (zw zz rfl rfl rfl (zg zz rfl)) (ex_gtr rfl (zg zz rfl) (zg zz rfl) (decide_eq_false h1)) ?_
  refine zv (zw zz rfl rfl rfl (zg zz rfl)) (xmv rfl (zg zz rfl)) ?_
  iterate 5 refine zn (zx zz rfl rfl rfl (zg zz rfl)) ?_
  refine zv (zw zz rfl rfl rfl (zg zz rfl)) (exec_pickF rfl (zg zz rfl) rfl) ?_
  refine zv (zw zz rfl rfl rfl (zg zz rfl)) (xmv rfl (zg zz rfl)) ?_
  refine zv (zw zz rfl rfl rfl (zg zz rfl)) (xfa rfl (zi t11 rfl) (fg_65_1 _ _ _)) ?_
  refine zv (zw zz rfl rfl rfl (zg zz rfl)) (xld rfl (zg zz rfl) LTa) ?_
  refine zv (zw zz rfl rfl rfl (zg zz rfl)) (xfa rfl (zi t12 rfl) (fg_65_0 _ _ _)) ?_
  refine zv (zw zz rfl rfl rfl (zg zz rfl)) (xld rfl (zg zz rfl) LFb) ?_
  refine zv (v := .bool true) (zw zz rfl rfl rfl (zg zz rfl)) (ex_eql rfl (zg zz rfl) (zg zz rfl) (decide_eq_true h2)) ?_
  refine zv (zw zz rfl rfl rfl (zg zz rfl)) (xmv rfl (zg zz rfl)) ?_
  iterate 5 refine zn (zx zz rfl rfl rfl (zg zz rfl)) ?_
  refine zv (zw zz rfl rfl rfl (zg zz rfl)) (exec_pickT rfl (zg zz rfl) rfl) ?_
  refine zv (zw zz rfl rfl rfl (zg zz rfl)) (xmv rfl (zg zz rfl)) ?_
  refine zv (zw zz rfl rfl rfl (zg zz rfl)) (xfa rfl (zi t11 rfl) (fg_65_3 _ _ _)) ?_
  refine zv (zw zz rfl rfl rfl (zg zz rfl)) (xld rfl (zg zz rfl) LVa) ?_
  refine zv (zw zz rfl rfl rfl (zg zz rfl)) (xfa rfl (zi t12 rfl) (fg_65_3 _ _ _)) ?_
  refine zv (zw zz rfl rfl rfl (zg zz rfl)) (xld rfl (zg zz rfl) LVb) ?_
  refine zc (zw zz rfl rfl rfl (zg zz rfl)) (exec_c2 rfl (zg zz rfl) (zg zz rfl)) (CC) (fun e x36 hx => ?_)
  obtain ⟨d, rfl, hc, HF⟩ := hx
  replace h := h d
  refine ⟨_, rfl, ?_⟩
  refine zv (v := .bool false) (zw zz rfl rfl rfl (zg zz rfl)) (ex_eql rfl (zg zz rfl) rfl (decide_eq_false hc)) ?_
  refine zv (zw zz rfl rfl rfl (zg zz rfl)) (exec_pickT rfl (zg zz rfl) (zg zz rfl)) ?_
  refine zv (zw zz rfl rfl rfl (zg zz rfl)) (exec_pickF rfl (zg zz rfl) (zg zz rfl)) ?_
  refine zv rfl (exec_pickT rfl (zg zz rfl) (zg zz rfl)) ?_
  exact ze rfl (h _ _ (HF) rfl)
theorem agr14z {pa pb : Nat} {p q : SpV} (a : Act) (w : World) (Q : Exit → Act → World → Prop) (zz : a.tmps.size = 224)
    (t11 : a.tmps.getD 11 undef = .pointer (some ⟨pa, 0, none⟩))
    (t12 : a.tmps.getD 12 undef = .pointer (some ⟨pb, 0, none⟩))
    (hn : p.nm = q.nm) (h1 : ¬ p.to > q.fr) (h2 : ¬ p.to = q.fr) (h3 : ¬ q.to = p.fr) (LNa : (Instr.loadAt 9 (.pointer (some ⟨pa, 0 + 2, none⟩))).run Tryz.prog w = .ok (.string p.nm) w) (LNb : (Instr.loadAt 9 (.pointer (some ⟨pb, 0 + 2, none⟩))).run Tryz.prog w = .ok (.string q.nm) w) (LTa : (Instr.loadAt 3 (.pointer (some ⟨pa, 0 + 1, none⟩))).run Tryz.prog w = .ok (.int .i64 p.to) w) (LFb : (Instr.loadAt 3 (.pointer (some ⟨pb, 0 + 0, none⟩))).run Tryz.prog w = .ok (.int .i64 q.fr) w) (LFa : (Instr.loadAt 3 (.pointer (some ⟨pa, 0 + 0, none⟩))).run Tryz.prog w = .ok (.int .i64 p.fr) w) (LTb : (Instr.loadAt 3 (.pointer (some ⟨pb, 0 + 1, none⟩))).run Tryz.prog w = .ok (.int .i64 q.to) w)
    (h : ∀ a' w', w' = w → a' = ((((((((((((((((((((((((((((((((((((((((a.put (some 89) (.pointer (some ⟨pa, 0 + 2, none⟩))).put (some 90) (.string p.nm)).put (some 91) (.pointer (some ⟨pb, 0 + 2, none⟩))).put (some 92) (.string q.nm)).put (some 93) (.bool true)).put (some 94) (.bool true)).put (some 95) (.pointer (some ⟨pa, 0 + 1, none⟩))).put (some 96) (.int .i64 p.to)).put (some 97) (.pointer (some ⟨pb, 0 + 0, none⟩))).put (some 98) (.int .i64 q.fr)).put (some 99) (.bool false)).put (some 100) (.bool false)).put (some 101) (undef)).put (some 102) (undef)).put (some 103) (undef)).put (some 104) (undef)).put (some 105) (undef)).put (some 106) (.bool false)).put (some 107) (.bool false)).put (some 108) (.pointer (some ⟨pa, 0 + 1, none⟩))).put (some 109) (.int .i64 p.to)).put (some 110) (.pointer (some ⟨pb, 0 + 0, none⟩))).put (some 111) (.int .i64 q.fr)).put (some 112) (.bool false)).put (some 113) (.bool false)).put (some 114) (.pointer (some ⟨pb, 0 + 1, none⟩))).put (some 115) (.int .i64 q.to)).put (some 116) (.pointer (some ⟨pa, 0 + 0, none⟩))).put (some 117) (.int .i64 p.fr)).put (some 118) (.bool false)).put (some 119) (.bool false)).put (some 120) (.bool false)).put (some 121) (undef)).put (some 122) (undef)).put (some 123) (undef)).put (some 124) (undef)).put (some 125) (undef)).put (some 126) (undef)).put (some 127) (.bool false)).put (some 128) (.bool false)).put (some 129) (.bool false) → Q .normal a' w') :
    (Code.region 14 agr14n_ops false).wp Tryz.prog Q a w := by
  refine z0 rfl ?_
  refine zv rfl (xfa rfl (zi t11 rfl) (fg_65_2 _ _ _)) ?_
  refine zv rfl (xld rfl (zg zz rfl) LNa) ?_
  refine zv rfl (xfa rfl (zi t12 rfl) (fg_65_2 _ _ _)) ?_
  refine zv rfl (xld rfl (zg zz rfl) LNb) ?_
  refine zv (v := .bool true) rfl (ex_eqTr rfl (zg zz rfl) (zg zz rfl) (decide_eq_true hn)) ?_
  refine zv rfl (xmv rfl (zg zz rfl)) ?_
  refine zv (zw zz rfl rfl rfl (zg zz rfl)) (xfa rfl (zi t11 rfl) (fg_65_1 _ _ _)) ?_
  refine zv (zw zz rfl rfl rfl (zg zz rfl)) (xld rfl (zg zz rfl) LTa) ?_
  refine zv (zw zz rfl rfl rfl (zg zz rfl)) (xfa rfl (zi t12 rfl) (fg_65_0 _ _ _)) ?_
  refine zv (zw zz rfl rfl rfl (zg zz rfl)) (xld rfl (zg zz rfl) LFb) ?_
  refine zv (v := .bool false) (zw zz rfl rfl rfl (zg zz rfl)) (ex_gtr rfl (zg zz rfl) (zg zz rfl) (decide_eq_false h1)) ?_
  refine zv (zw zz rfl rfl rfl (zg zz rfl)) (xmv rfl (zg zz rfl)) ?_
  iterate 5 refine zn (zx zz rfl rfl rfl (zg zz rfl)) ?_
  refine zv (zw zz rfl rfl rfl (zg zz rfl)) (exec_pickF rfl (zg zz rfl) rfl) ?_
  refine zv (zw zz rfl rfl rfl (zg zz rfl)) (xmv rfl (zg zz rfl)) ?_
  refine zv (zw zz rfl rfl rfl (zg zz rfl)) (xfa rfl (zi t11 rfl) (fg_65_1 _ _ _)) ?_
  refine zv (zw zz rfl rfl rfl (zg zz rfl)) (xld rfl (zg zz rfl) LTa) ?_
  refine zv (zw zz rfl rfl rfl (zg zz rfl)) (xfa rfl (zi t12 rfl) (fg_65_0 _ _ _)) ?_
  refine zv (zw zz rfl rfl rfl (zg zz rfl)) (xld rfl (zg zz rfl) LFb) ?_
  refine zv (v := .bool false) (zw zz rfl rfl rfl (zg zz rfl)) (ex_eql rfl (zg zz rfl) (zg zz rfl) (decide_eq_false h2)) ?_
  refine zv (zw zz rfl rfl rfl (zg zz rfl)) (xmv rfl (zg zz rfl)) ?_
  refine zv (zw zz rfl rfl rfl (zg zz rfl)) (xfa rfl (zi t12 rfl) (fg_65_1 _ _ _)) ?_
  refine zv (zw zz rfl rfl rfl (zg zz rfl)) (xld rfl (zg zz rfl) LTb) ?_
  refine zv (zw zz rfl rfl rfl (zg zz rfl)) (xfa rfl (zi t11 rfl) (fg_65_0 _ _ _)) ?_
  refine zv (zw zz rfl rfl rfl (zg zz rfl)) (xld rfl (zg zz rfl) LFa) ?_
  refine zv (v := .bool false) (zw zz rfl rfl rfl (zg zz rfl)) (ex_eql rfl (zg zz rfl) (zg zz rfl) (decide_eq_false h3)) ?_
  refine zv (zw zz rfl rfl rfl (zg zz rfl)) (exec_pickF rfl (zg zz rfl) (zg zz rfl)) ?_
  refine zv (zw zz rfl rfl rfl (zg zz rfl)) (xmv rfl (zg zz rfl)) ?_
  iterate 6 refine zn (zx zz rfl rfl rfl (zg zz rfl)) ?_
  refine zv (zw zz rfl rfl rfl (zg zz rfl)) (exec_pickF rfl (zg zz rfl) rfl) ?_
  refine zv (zw zz rfl rfl rfl (zg zz rfl)) (exec_pickF rfl (zg zz rfl) (zg zz rfl)) ?_
  refine zv rfl (exec_pickT rfl (zg zz rfl) (zg zz rfl)) ?_
  exact ze rfl (h _ _ (rfl) rfl)
def agr17_ops : Array Oper := (⟨_, rfl⟩ : {o // some o = rgB Tryz.f6 17}).1
theorem agr17 {e : Nat} {z k : Int} {r : Bool} (Fin : World → Prop) (a : Act) (w : World) (Q : Exit → Act → World → Prop) (zz : a.tmps.size = 224)
    (t0 : a.tmps.getD 0 undef = .int .i64 z)
    (t13 : a.tmps.getD 13 undef = .int .i64 (e : Int))
    (hr : decide ((e : Int) < k) = r) (CS : Calls Tryz.prog 33 #[.int .i64 z] w fun e w1 => e = .returned (.int .i64 k) ∧ Fin w1)
    (h : ∀ a' w', Fin w' → a' = (((a.put (some 130) (.int .i64 (e : Int))).put (some 131) (.int .i64 z)).put (some 132) (.int .i64 k)).put (some 133) (.bool r) → Q .normal a' w') :
    (Code.region 17 agr17_ops false).wp Tryz.prog Q a w := by
  refine z0 rfl ?_
  refine zv rfl (xmv rfl (zi t13 rfl)) ?_
  refine zv rfl (xmv rfl (zi t0 rfl)) ?_
  refine zc rfl (exec_c1 rfl (zg zz rfl)) (CS) (fun e x2 hx => ?_)
  obtain ⟨rfl, HF⟩ := hx
  refine ⟨_, rfl, ?_⟩
  refine zv (v := .bool r) rfl (ex_lss rfl (zg zz rfl) (zg zz rfl) hr) ?_
  exact ze rfl (h _ _ (HF) rfl)
def agr19_ops : Array Oper := (⟨_, rfl⟩ : {o // some o = rgB Tryz.f6 19}).1
theorem agr19 {sb mb e : Nat} (Fin : Value → World → Prop) (a : Act) (w : World) (Q : Exit → Act → World → Prop) (zz : a.tmps.size = 224)
    (t5 : a.tmps.getD 5 undef = .pointer (some ⟨sb, 0, none⟩))
    (t6 : a.tmps.getD 6 undef = .pointer (some ⟨mb, 0, none⟩))
    (t13 : a.tmps.getD 13 undef = .int .i64 (e : Int))
    (hb : -9223372036854775808 ≤ (e : Int) + 1 ∧ (e : Int) + 1 ≤ 9223372036854775807) (CO : Calls Tryz.prog 23 #[.pointer (some ⟨mb, 0, none⟩), .pointer (some ⟨sb, 0, none⟩), (idN ((e : Int) + 1)).v] w fun e w1 => ∃ v, e = .returned v ∧ Fin v w1)
    (h : ∀ (v : Value) a' w', Fin v w' → a' = ((((((a.put (some 136) (.pointer (some ⟨mb, 0, none⟩))).put (some 137) (.pointer (some ⟨sb, 0, none⟩))).put (some 138) (.int .i64 (e : Int))).put (some 139) (.int .i64 ((e : Int) + 1))).put (some 140) ((idN ((e : Int) + 1)).v)).put (some 141) (v)).put (some 14) (v) → Q .normal a' w') :
    (Code.region 19 agr19_ops false).wp Tryz.prog Q a w := by
  refine z0 rfl ?_
  refine zv rfl (xmv rfl (zi t6 rfl)) ?_
  refine zv rfl (xmv rfl (zi t5 rfl)) ?_
  refine zv rfl (xmv rfl (zi t13 rfl)) ?_
  refine zv (v := .int .i64 ((e : Int) + 1)) rfl (ex_add rfl (zg zz rfl) rfl hb) ?_
  refine zv rfl (exec_build1 rfl (zg zz rfl) (build_idN _ _)) ?_
  refine zc rfl (exec_c3 rfl (zg zz rfl) (zg zz rfl) (zg zz rfl)) (CO) (fun e x5 hx => ?_)
  obtain ⟨v, rfl, HF⟩ := hx
  replace h := h v
  refine ⟨_, rfl, ?_⟩
  refine zv rfl (xas rfl (zg zz rfl)) ?_
  exact ze rfl (h _ _ (HF) rfl)
def agr24t_ops : Array Oper := (⟨_, rfl⟩ : {o // some o = rgB Tryz.f6 24}).1
theorem agr24t {g o n c i e : Nat} {x : SpV} (a : Act) (w : World) (Q : Exit → Act → World → Prop) (zz : a.tmps.size = 224)
    (t8 : a.tmps.getD 8 undef = .slice (some ⟨g, o, none⟩) n c)
    (t13 : a.tmps.getD 13 undef = .int .i64 (e : Int))
    (t16 : a.tmps.getD 16 undef = .int .i64 (i : Int))
    (hi : i < n) (hm : n ≤ 9223372036854775807) (h1 : x.fr > (e : Int)) (LF : (Instr.loadAt 3 (.pointer (some ⟨g, o + 7 * i + 0, none⟩))).run Tryz.prog w = .ok (.int .i64 x.fr) w)
    (h : ∀ a' w', w' = w → a' = (((((((((((((((a.put (some 148) (.slice (some ⟨g, o, none⟩) n c)).put (some 149) (.int .i64 (i : Int))).put (some 150) (.pointer (some ⟨g, o + 7 * i, none⟩))).put (some 151) (.pointer (some ⟨g, o + 7 * i + 0, none⟩))).put (some 152) (.int .i64 x.fr)).put (some 153) (.int .i64 (e : Int))).put (some 154) (.bool true)).put (some 155) (.bool true)).put (some 156) (undef)).put (some 157) (undef)).put (some 158) (undef)).put (some 159) (undef)).put (some 160) (undef)).put (some 161) (undef)).put (some 162) (undef)).put (some 163) (.bool true) → Q .normal a' w') :
    (Code.region 24 agr24t_ops false).wp Tryz.prog Q a w := by
  refine z0 rfl ?_
  refine zv rfl (xmv rfl (zi t8 rfl)) ?_
  refine zv rfl (xmv rfl (zi t16 rfl)) ?_
  refine zv rfl (xia rfl (zg zz rfl) (zg zz rfl) (ix_sp hi hm _)) ?_
  refine zv rfl (xfa rfl (zg zz rfl) (fg_65_0 _ _ _)) ?_
  refine zv rfl (xld rfl (zg zz rfl) LF) ?_
  refine zv rfl (xmv rfl (zi t13 rfl)) ?_
  refine zv (v := .bool true) rfl (ex_gtr rfl (zg zz rfl) (zg zz rfl) (decide_eq_true h1)) ?_
  refine zv rfl (xmv rfl (zg zz rfl)) ?_
  iterate 7 refine zn (zx zz rfl rfl rfl (zg zz rfl)) ?_
  refine zv rfl (exec_pickT rfl (zg zz rfl) rfl) ?_
  exact ze rfl (h _ _ (rfl) rfl)
theorem agr24f {g o n c i e : Nat} {x : SpV} {r : Bool} (a : Act) (w : World) (Q : Exit → Act → World → Prop) (zz : a.tmps.size = 224)
    (t8 : a.tmps.getD 8 undef = .slice (some ⟨g, o, none⟩) n c)
    (t13 : a.tmps.getD 13 undef = .int .i64 (e : Int))
    (t16 : a.tmps.getD 16 undef = .int .i64 (i : Int))
    (hi : i < n) (hm : n ≤ 9223372036854775807) (h1 : ¬ x.fr > (e : Int)) (hr : decide (x.to ≤ (e : Int)) = r) (LF : (Instr.loadAt 3 (.pointer (some ⟨g, o + 7 * i + 0, none⟩))).run Tryz.prog w = .ok (.int .i64 x.fr) w) (LT : (Instr.loadAt 3 (.pointer (some ⟨g, o + 7 * i + 1, none⟩))).run Tryz.prog w = .ok (.int .i64 x.to) w)
    (h : ∀ a' w', w' = w → a' = (((((((((((((((a.put (some 148) (.slice (some ⟨g, o, none⟩) n c)).put (some 149) (.int .i64 (i : Int))).put (some 150) (.pointer (some ⟨g, o + 7 * i, none⟩))).put (some 151) (.pointer (some ⟨g, o + 7 * i + 0, none⟩))).put (some 152) (.int .i64 x.fr)).put (some 153) (.int .i64 (e : Int))).put (some 154) (.bool false)).put (some 155) (.bool false)).put (some 156) (.slice (some ⟨g, o, none⟩) n c)).put (some 157) (.int .i64 (i : Int))).put (some 158) (.pointer (some ⟨g, o + 7 * i, none⟩))).put (some 159) (.pointer (some ⟨g, o + 7 * i + 1, none⟩))).put (some 160) (.int .i64 x.to)).put (some 161) (.int .i64 (e : Int))).put (some 162) (.bool r)).put (some 163) (.bool r) → Q .normal a' w') :
    (Code.region 24 agr24t_ops false).wp Tryz.prog Q a w := by
  refine z0 rfl ?_
  refine zv rfl (xmv rfl (zi t8 rfl)) ?_
  refine zv rfl (xmv rfl (zi t16 rfl)) ?_
  refine zv rfl (xia rfl (zg zz rfl) (zg zz rfl) (ix_sp hi hm _)) ?_
  refine zv rfl (xfa rfl (zg zz rfl) (fg_65_0 _ _ _)) ?_
  refine zv rfl (xld rfl (zg zz rfl) LF) ?_
  refine zv rfl (xmv rfl (zi t13 rfl)) ?_
  refine zv (v := .bool false) rfl (ex_gtr rfl (zg zz rfl) (zg zz rfl) (decide_eq_false h1)) ?_
  refine zv rfl (xmv rfl (zg zz rfl)) ?_
  refine zv (zw zz rfl rfl rfl (zg zz rfl)) (xmv rfl (zi t8 rfl)) ?_
  refine zv (zw zz rfl rfl rfl (zg zz rfl)) (xmv rfl (zi t16 rfl)) ?_
  refine zv (zw zz rfl rfl rfl (zg zz rfl)) (xia rfl (zg zz rfl) (zg zz rfl) (ix_sp hi hm _)) ?_
  refine zv (zw zz rfl rfl rfl (zg zz rfl)) (xfa rfl (zg zz rfl) (fg_65_1 _ _ _)) ?_
  refine zv (zw zz rfl rfl rfl (zg zz rfl)) (xld rfl (zg zz rfl) LT) ?_
  refine zv (zw zz rfl rfl rfl (zg zz rfl)) (xmv rfl (zi t13 rfl)) ?_
  refine zv (v := .bool r) (zw zz rfl rfl rfl (zg zz rfl)) (ex_leq rfl (zg zz rfl) (zg zz rfl) hr) ?_
  refine zv rfl (exec_pickF rfl (zg zz rfl) (zg zz rfl)) ?_
  exact ze rfl (h _ _ (rfl) rfl)
def agr30t_ops : Array Oper := (⟨_, rfl⟩ : {o // some o = rgB Tryz.f6 30}).1
theorem agr30t  (a : Act) (w : World) (Q : Exit → Act → World → Prop) (zz : a.tmps.size = 224)
    (t17 : a.tmps.getD 17 undef = .bool true)
    (h : ∀ a' w', w' = w.drew → a' = ((((((((((((((((((((((((((((((((((((((((((((((a.put (some 172) (.bool true)).put (some 173) (.bool true)).put (some 174) (undef)).put (some 175) (undef)).put (some 176) (undef)).put (some 177) (undef)).put (some 178) (undef)).put (some 179) (undef)).put (some 180) (undef)).put (some 181) (undef)).put (some 182) (undef)).put (some 183) (undef)).put (some 184) (undef)).put (some 185) (undef)).put (some 186) (undef)).put (some 187) (undef)).put (some 188) (undef)).put (some 189) (undef)).put (some 190) (undef)).put (some 191) (undef)).put (some 192) (undef)).put (some 193) (undef)).put (some 194) (undef)).put (some 195) (undef)).put (some 196) (undef)).put (some 197) (undef)).put (some 198) (undef)).put (some 199) (undef)).put (some 200) (undef)).put (some 201) (undef)).put (some 202) (undef)).put (some 203) (undef)).put (some 204) (undef)).put (some 205) (undef)).put (some 206) (undef)).put (some 207) (undef)).put (some 208) (undef)).put (some 209) (undef)).put (some 210) (undef)).put (some 211) (undef)).put (some 212) (undef)).put (some 213) (undef)).put (some 214) (undef)).put (some 215) (undef)).put (some 216) (undef)).put (some 217) (.bool true)).put (some 17) (.bool true) → Q .normal a' w') :
    (Code.region 30 agr30t_ops true).wp Tryz.prog Q a w := by
  refine y0 (fun w' => w' = w.drew) (rfl) (fun hHeld => ?_)
  refine yv 0 rfl rfl (fun w1 hw => xmv rfl (zi t17 rfl)) hHeld ?_
  refine yv 1 rfl rfl (fun w1 hw => xmv rfl (zg zz rfl)) hHeld ?_
  refine yn 2 rfl (zx zz rfl rfl rfl (zg zz rfl)) hHeld ?_
  refine yn 3 rfl (zx zz rfl rfl rfl (zg zz rfl)) hHeld ?_
  refine yn 4 rfl (zx zz rfl rfl rfl (zg zz rfl)) hHeld ?_
  refine yn 5 rfl (zx zz rfl rfl rfl (zg zz rfl)) hHeld ?_
  refine yn 6 rfl (zx zz rfl rfl rfl (zg zz rfl)) hHeld ?_
  refine yn 7 rfl (zx zz rfl rfl rfl (zg zz rfl)) hHeld ?_
  refine yn 8 rfl (zx zz rfl rfl rfl (zg zz rfl)) hHeld ?_
  refine yn 9 rfl (zx zz rfl rfl rfl (zg zz rfl)) hHeld ?_
  refine yn 10 rfl (zx zz rfl rfl rfl (zg zz rfl)) hHeld ?_
  refine yn 11 rfl (zx zz rfl rfl rfl (zg zz rfl)) hHeld ?_
  refine yn 12 rfl (zx zz rfl rfl rfl (zg zz rfl)) hHeld ?_
  refine yn 13 rfl (zx zz rfl rfl rfl (zg zz rfl)) hHeld ?_
  refine yn 14 rfl (zx zz rfl rfl rfl (zg zz rfl)) hHeld ?_
  refine yn 15 rfl (zx zz rfl rfl rfl (zg zz rfl)) hHeld ?_
  refine yn 16 rfl (zx zz rfl rfl rfl (zg zz rfl)) hHeld ?_
  refine yn 17 rfl (zx zz rfl rfl rfl (zg zz rfl)) hHeld ?_
  refine yn 18 rfl (zx zz rfl rfl rfl (zg zz rfl)) hHeld ?_
  refine yn 19 rfl (zx zz rfl rfl rfl (zg zz rfl)) hHeld ?_
  refine yn 20 rfl (zx zz rfl rfl rfl (zg zz rfl)) hHeld ?_
  refine yn 21 rfl (zx zz rfl rfl rfl (zg zz rfl)) hHeld ?_
  refine yn 22 rfl (zx zz rfl rfl rfl (zg zz rfl)) hHeld ?_
  refine yn 23 rfl (zx zz rfl rfl rfl (zg zz rfl)) hHeld ?_
  refine yn 24 rfl (zx zz rfl rfl rfl (zg zz rfl)) hHeld ?_
  refine yn 25 rfl (zx zz rfl rfl rfl (zg zz rfl)) hHeld ?_
  refine yn 26 rfl (zx zz rfl rfl rfl (zg zz rfl)) hHeld ?_
  refine yn 27 rfl (zx zz rfl rfl rfl (zg zz rfl)) hHeld ?_
  refine yn 28 rfl (zx zz rfl rfl rfl (zg zz rfl)) hHeld ?_
  refine yn 29 rfl (zx zz rfl rfl rfl (zg zz rfl)) hHeld ?_
  refine yn 30 rfl (zx zz rfl rfl rfl (zg zz rfl)) hHeld ?_
  refine yn 31 rfl (zx zz rfl rfl rfl (zg zz rfl)) hHeld ?_
  refine yn 32 rfl (zx zz rfl rfl rfl (zg zz rfl)) hHeld ?_
  refine yn 33 rfl (zx zz rfl rfl rfl (zg zz rfl)) hHeld ?_
  refine yn 34 rfl (zx zz rfl rfl rfl (zg zz rfl)) hHeld ?_
  refine yn 35 rfl (zx zz rfl rfl rfl (zg zz rfl)) hHeld ?_
  refine yn 36 rfl (zx zz rfl rfl rfl (zg zz rfl)) hHeld ?_
  refine yn 37 rfl (zx zz rfl rfl rfl (zg zz rfl)) hHeld ?_
  refine yn 38 rfl (zx zz rfl rfl rfl (zg zz rfl)) hHeld ?_
  refine yn 39 rfl (zx zz rfl rfl rfl (zg zz rfl)) hHeld ?_
  refine yn 40 rfl (zx zz rfl rfl rfl (zg zz rfl)) hHeld ?_
  refine yn 41 rfl (zx zz rfl rfl rfl (zg zz rfl)) hHeld ?_
  refine yn 42 rfl (zx zz rfl rfl rfl (zg zz rfl)) hHeld ?_
  refine yn 43 rfl (zx zz rfl rfl rfl (zg zz rfl)) hHeld ?_
  refine yn 44 rfl (zx zz rfl rfl rfl (zg zz rfl)) hHeld ?_
  refine yv 45 rfl rfl (fun w1 hw => exec_pickT rfl (zg zz rfl) rfl) hHeld ?_
  refine yv 46 rfl rfl (fun w1 hw => xas rfl (zg zz rfl)) hHeld ?_
  exact ye rfl (h _ _ (hHeld) rfl)
theorem agr30n {g o n c i g2 o2 n2 c2 j : Nat} {x y : SpV} (S : World → Prop) (a : Act) (w : World) (Q : Exit → Act → World → Prop) (zz : a.tmps.size = 224)
    (t8 : a.tmps.getD 8 undef = .slice (some ⟨g, o, none⟩) n c)
    (t14 : a.tmps.getD 14 undef = .slice (some ⟨g2, o2, none⟩) n2 c2)
    (t16 : a.tmps.getD 16 undef = .int .i64 (i : Int))
    (t18 : a.tmps.getD 18 undef = .int .i64 (j : Int))
    (t17 : a.tmps.getD 17 undef = .bool false)
    (h0 : S w.drew) (hi : i < n) (hm : n ≤ 9223372036854775807) (hj : j < n2) (hm2 : n2 ≤ 9223372036854775807) (hn : ¬ y.nm = x.nm) (LN : ∀ W, S W → (Instr.loadAt 9 (.pointer (some ⟨g, o + 7 * i + 2, none⟩))).run Tryz.prog W = .ok (.string x.nm) W) (LN2 : ∀ W, S W → (Instr.loadAt 9 (.pointer (some ⟨g2, o2 + 7 * j + 2, none⟩))).run Tryz.prog W = .ok (.string y.nm) W)
    (h : ∀ a' w', S w' → a' = ((((((((((((((((((((((((((((((((((((((((((((((a.put (some 172) (.bool false)).put (some 173) (.bool false)).put (some 174) (.slice (some ⟨g2, o2, none⟩) n2 c2)).put (some 175) (.int .i64 (j : Int))).put (some 176) (.pointer (some ⟨g2, o2 + 7 * j, none⟩))).put (some 177) (.pointer (some ⟨g2, o2 + 7 * j + 2, none⟩))).put (some 178) (.string y.nm)).put (some 179) (.slice (some ⟨g, o, none⟩) n c)).put (some 180) (.int .i64 (i : Int))).put (some 181) (.pointer (some ⟨g, o + 7 * i, none⟩))).put (some 182) (.pointer (some ⟨g, o + 7 * i + 2, none⟩))).put (some 183) (.string x.nm)).put (some 184) (.bool false)).put (some 185) (.bool false)).put (some 186) (undef)).put (some 187) (undef)).put (some 188) (undef)).put (some 189) (undef)).put (some 190) (undef)).put (some 191) (undef)).put (some 192) (undef)).put (some 193) (undef)).put (some 194) (undef)).put (some 195) (undef)).put (some 196) (undef)).put (some 197) (.bool false)).put (some 198) (.bool false)).put (some 199) (undef)).put (some 200) (undef)).put (some 201) (undef)).put (some 202) (undef)).put (some 203) (undef)).put (some 204) (undef)).put (some 205) (undef)).put (some 206) (.bool false)).put (some 207) (.bool false)).put (some 208) (undef)).put (some 209) (undef)).put (some 210) (undef)).put (some 211) (undef)).put (some 212) (undef)).put (some 213) (undef)).put (some 214) (undef)).put (some 215) (undef)).put (some 216) (.bool false)).put (some 217) (.bool false)).put (some 17) (.bool false) → Q .normal a' w') :
    (Code.region 30 agr30t_ops true).wp Tryz.prog Q a w := by
  refine y0 (fun w' => S w') (h0) (fun hHeld => ?_)
  refine yv 0 rfl rfl (fun w1 hw => xmv rfl (zi t17 rfl)) hHeld ?_
  refine yv 1 rfl rfl (fun w1 hw => xmv rfl (zg zz rfl)) hHeld ?_
  refine yv 2 rfl (zw zz rfl rfl rfl (zg zz rfl)) (fun w1 hw => xmv rfl (zi t14 rfl)) hHeld ?_
  refine yv 3 rfl (zw zz rfl rfl rfl (zg zz rfl)) (fun w1 hw => xmv rfl (zi t18 rfl)) hHeld ?_
  refine yv 4 rfl (zw zz rfl rfl rfl (zg zz rfl)) (fun w1 hw => xia rfl (zg zz rfl) (zg zz rfl) (ix_sp hj hm2 _)) hHeld ?_
  refine yv 5 rfl (zw zz rfl rfl rfl (zg zz rfl)) (fun w1 hw => xfa rfl (zg zz rfl) (fg_65_2 _ _ _)) hHeld ?_
  refine yv 6 rfl (zw zz rfl rfl rfl (zg zz rfl)) (fun w1 hw => xld rfl (zg zz rfl) (LN2 _ hw)) hHeld ?_
  refine yv 7 rfl (zw zz rfl rfl rfl (zg zz rfl)) (fun w1 hw => xmv rfl (zi t8 rfl)) hHeld ?_
  refine yv 8 rfl (zw zz rfl rfl rfl (zg zz rfl)) (fun w1 hw => xmv rfl (zi t16 rfl)) hHeld ?_
  refine yv 9 rfl (zw zz rfl rfl rfl (zg zz rfl)) (fun w1 hw => xia rfl (zg zz rfl) (zg zz rfl) (ix_sp hi hm _)) hHeld ?_
  refine yv 10 rfl (zw zz rfl rfl rfl (zg zz rfl)) (fun w1 hw => xfa rfl (zg zz rfl) (fg_65_2 _ _ _)) hHeld ?_
  refine yv 11 rfl (zw zz rfl rfl rfl (zg zz rfl)) (fun w1 hw => xld rfl (zg zz rfl) (LN _ hw)) hHeld ?_
  refine yv (v := .bool false) 12 rfl (zw zz rfl rfl rfl (zg zz rfl)) (fun w1 hw => ex_eqTr rfl (zg zz rfl) (zg zz rfl) (decide_eq_false hn)) hHeld ?_
  refine yv 13 rfl (zw zz rfl rfl rfl (zg zz rfl)) (fun w1 hw => xmv rfl (zg zz rfl)) hHeld ?_
  refine yn 14 rfl (zx zz rfl rfl rfl (zg zz rfl)) hHeld ?_
  refine yn 15 rfl (zx zz rfl rfl rfl (zg zz rfl)) hHeld ?_
  refine yn 16 rfl (zx zz rfl rfl rfl (zg zz rfl)) hHeld ?_
  refine yn 17 rfl (zx zz rfl rfl rfl (zg zz rfl)) hHeld ?_
  refine yn 18 rfl (zx zz rfl rfl rfl (zg zz rfl)) hHeld ?_
  refine yn 19 rfl (zx zz rfl rfl rfl (zg zz rfl)) hHeld ?_
  refine yn 20 rfl (zx zz rfl rfl rfl (zg zz rfl)) hHeld ?_
  refine yn 21 rfl (zx zz rfl rfl rfl (zg zz rfl)) hHeld ?_
  refine yn 22 rfl (zx zz rfl rfl rfl (zg zz rfl)) hHeld ?_
  refine yn 23 rfl (zx zz rfl rfl rfl (zg zz rfl)) hHeld ?_
  refine yn 24 rfl (zx zz rfl rfl rfl (zg zz rfl)) hHeld ?_
  refine yv 25 rfl (zw zz rfl rfl rfl (zg zz rfl)) (fun w1 hw => exec_pickF rfl (zg zz rfl) rfl) hHeld ?_
  refine yv 26 rfl (zw zz rfl rfl rfl (zg zz rfl)) (fun w1 hw => xmv rfl (zg zz rfl)) hHeld ?_
  refine yn 27 rfl (zx zz rfl rfl rfl (zg zz rfl)) hHeld ?_
  refine yn 28 rfl (zx zz rfl rfl rfl (zg zz rfl)) hHeld ?_
  refine yn 29 rfl (zx zz rfl rfl rfl (zg zz rfl)) hHeld ?_
  refine yn 30 rfl (zx zz rfl rfl rfl (zg zz rfl)) hHeld ?_
  refine yn 31 rfl (zx zz rfl rfl rfl (zg zz rfl)) hHeld ?_
  refine yn 32 rfl (zx zz rfl rfl rfl (zg zz rfl)) hHeld ?_
  refine yn 33 rfl (zx zz rfl rfl rfl (zg zz rfl)) hHeld ?_
  refine yv 34 rfl (zw zz rfl rfl rfl (zg zz rfl)) (fun w1 hw => exec_pickF rfl (zg zz rfl) rfl) hHeld ?_
  refine yv 35 rfl (zw zz rfl rfl rfl (zg zz rfl)) (fun w1 hw => xmv rfl (zg zz rfl)) hHeld ?_
  refine yn 36 rfl (zx zz rfl rfl rfl (zg zz rfl)) hHeld ?_
  refine yn 37 rfl (zx zz rfl rfl rfl (zg zz rfl)) hHeld ?_
  refine yn 38 rfl (zx zz rfl rfl rfl (zg zz rfl)) hHeld ?_
  refine yn 39 rfl (zx zz rfl rfl rfl (zg zz rfl)) hHeld ?_
  refine yn 40 rfl (zx zz rfl rfl rfl (zg zz rfl)) hHeld ?_
  refine yn 41 rfl (zx zz rfl rfl rfl (zg zz rfl)) hHeld ?_
  refine yn 42 rfl (zx zz rfl rfl rfl (zg zz rfl)) hHeld ?_
  refine yn 43 rfl (zx zz rfl rfl rfl (zg zz rfl)) hHeld ?_
  refine yv 44 rfl (zw zz rfl rfl rfl (zg zz rfl)) (fun w1 hw => exec_pickF rfl (zg zz rfl) rfl) hHeld ?_
  refine yv 45 rfl rfl (fun w1 hw => exec_pickF rfl (zg zz rfl) (zg zz rfl)) hHeld ?_
  refine yv 46 rfl rfl (fun w1 hw => xas rfl (zg zz rfl)) hHeld ?_
  exact ye rfl (h _ _ (hHeld) rfl)
theorem agr30y {g o n c i g2 o2 n2 c2 j : Nat} {x y : SpV} {e : Nat} (S : World → Prop) (a : Act) (w : World) (Q : Exit → Act → World → Prop) (zz : a.tmps.size = 224)
    (t8 : a.tmps.getD 8 undef = .slice (some ⟨g, o, none⟩) n c)
    (t14 : a.tmps.getD 14 undef = .slice (some ⟨g2, o2, none⟩) n2 c2)
    (t16 : a.tmps.getD 16 undef = .int .i64 (i : Int))
    (t18 : a.tmps.getD 18 undef = .int .i64 (j : Int))
    (t13 : a.tmps.getD 13 undef = .int .i64 (e : Int))
    (t17 : a.tmps.getD 17 undef = .bool false)
    (h0 : S w.drew) (hi : i < n) (hm : n ≤ 9223372036854775807) (hj : j < n2) (hm2 : n2 ≤ 9223372036854775807) (hb : -9223372036854775808 ≤ (e : Int) + 1 ∧ (e : Int) + 1 ≤ 9223372036854775807) (hn : y.nm = x.nm) (h1 : y.fr = (e : Int)) (h2 : y.to = (e : Int) + 1) (LN : ∀ W, S W → (Instr.loadAt 9 (.pointer (some ⟨g, o + 7 * i + 2, none⟩))).run Tryz.prog W = .ok (.string x.nm) W) (LN2 : ∀ W, S W → (Instr.loadAt 9 (.pointer (some ⟨g2, o2 + 7 * j + 2, none⟩))).run Tryz.prog W = .ok (.string y.nm) W) (LV : ∀ W, S W → (Instr.loadAt 40 (.pointer (some ⟨g, o + 7 * i + 3, none⟩))).run Tryz.prog W = .ok (x.v.v) W) (LV2 : ∀ W, S W → (Instr.loadAt 40 (.pointer (some ⟨g2, o2 + 7 * j + 3, none⟩))).run Tryz.prog W = .ok (y.v.v) W) (LF2 : ∀ W, S W → (Instr.loadAt 3 (.pointer (some ⟨g2, o2 + 7 * j + 0, none⟩))).run Tryz.prog W = .ok (.int .i64 y.fr) W) (LT2 : ∀ W, S W → (Instr.loadAt 3 (.pointer (some ⟨g2, o2 + 7 * j + 1, none⟩))).run Tryz.prog W = .ok (.int .i64 y.to) W) (CS : ∀ W, S W → Calls Tryz.prog 35 #[y.v.v, x.v.v] W fun e w1 => e = .returned (.bool true) ∧ S w1)
    (h : ∀ a' w', S w' → a' = ((((((((((((((((((((((((((((((((((((((((((((((a.put (some 172) (.bool false)).put (some 173) (.bool false)).put (some 174) (.slice (some ⟨g2, o2, none⟩) n2 c2)).put (some 175) (.int .i64 (j : Int))).put (some 176) (.pointer (some ⟨g2, o2 + 7 * j, none⟩))).put (some 177) (.pointer (some ⟨g2, o2 + 7 * j + 2, none⟩))).put (some 178) (.string y.nm)).put (some 179) (.slice (some ⟨g, o, none⟩) n c)).put (some 180) (.int .i64 (i : Int))).put (some 181) (.pointer (some ⟨g, o + 7 * i, none⟩))).put (some 182) (.pointer (some ⟨g, o + 7 * i + 2, none⟩))).put (some 183) (.string x.nm)).put (some 184) (.bool true)).put (some 185) (.bool true)).put (some 186) (.slice (some ⟨g2, o2, none⟩) n2 c2)).put (some 187) (.int .i64 (j : Int))).put (some 188) (.pointer (some ⟨g2, o2 + 7 * j, none⟩))).put (some 189) (.pointer (some ⟨g2, o2 + 7 * j + 3, none⟩))).put (some 190) (y.v.v)).put (some 191) (.slice (some ⟨g, o, none⟩) n c)).put (some 192) (.int .i64 (i : Int))).put (some 193) (.pointer (some ⟨g, o + 7 * i, none⟩))).put (some 194) (.pointer (some ⟨g, o + 7 * i + 3, none⟩))).put (some 195) (x.v.v)).put (some 196) (.bool true)).put (some 197) (.bool true)).put (some 198) (.bool true)).put (some 199) (.slice (some ⟨g2, o2, none⟩) n2 c2)).put (some 200) (.int .i64 (j : Int))).put (some 201) (.pointer (some ⟨g2, o2 + 7 * j, none⟩))).put (some 202) (.pointer (some ⟨g2, o2 + 7 * j + 0, none⟩))).put (some 203) (.int .i64 y.fr)).put (some 204) (.int .i64 (e : Int))).put (some 205) (.bool true)).put (some 206) (.bool true)).put (some 207) (.bool true)).put (some 208) (.slice (some ⟨g2, o2, none⟩) n2 c2)).put (some 209) (.int .i64 (j : Int))).put (some 210) (.pointer (some ⟨g2, o2 + 7 * j, none⟩))).put (some 211) (.pointer (some ⟨g2, o2 + 7 * j + 1, none⟩))).put (some 212) (.int .i64 y.to)).put (some 213) (.int .i64 (e : Int))).put (some 214) (.int .i64 ((e : Int) + 1))).put (some 215) (.bool true)).put (some 216) (.bool true)).put (some 217) (.bool true)).put (some 17) (.bool true) → Q .normal a' w') :
    (Code.region 30 agr30t_ops true).wp Tryz.prog Q a w := by
  refine y0 (fun w' => S w') (h0) (fun hHeld => ?_)
  refine yv 0 rfl rfl (fun w1 hw => xmv rfl (zi t17 rfl)) hHeld ?_
  refine yv 1 rfl rfl (fun w1 hw => xmv rfl (zg zz rfl)) hHeld ?_
  refine yv 2 rfl (zw zz rfl rfl rfl (zg zz rfl)) (fun w1 hw => xmv rfl (zi t14 rfl)) hHeld ?_
  refine yv 3 rfl (zw zz rfl rfl rfl (zg zz rfl)) (fun w1 hw => xmv rfl (zi t18 rfl)) hHeld ?_
  refine yv 4 rfl (zw zz rfl rfl rfl (zg zz rfl)) (fun w1 hw => xia rfl (zg zz rfl) (zg zz rfl) (ix_sp hj hm2 _)) hHeld ?_
  refine yv 5 rfl (zw zz rfl rfl rfl (zg zz rfl)) (fun w1 hw => xfa rfl (zg zz rfl) (fg_65_2 _ _ _)) hHeld ?_
  refine yv 6 rfl (zw zz rfl rfl rfl (zg zz rfl)) (fun w1 hw => xld rfl (zg zz rfl) (LN2 _ hw)) hHeld ?_
  refine yv 7 rfl (zw zz rfl rfl rfl (zg zz rfl)) (fun w1 hw => xmv rfl (zi t8 rfl)) hHeld ?_
  refine yv 8 rfl (zw zz rfl rfl rfl (zg zz rfl)) (fun w1 hw => xmv rfl (zi t16 rfl)) hHeld ?_
  refine yv 9 rfl (zw zz rfl rfl rfl (zg zz rfl)) (fun w1 hw => xia rfl (zg zz rfl) (zg zz rfl) (ix_sp hi hm _)) hHeld ?_
  refine yv 10 rfl (zw zz rfl rfl rfl (zg zz rfl)) (fun w1 hw => xfa rfl (zg zz rfl) (fg_65_2 _ _ _)) hHeld ?_
  refine yv 11 rfl (zw zz rfl rfl rfl (zg zz rfl)) (fun w1 hw => xld rfl (zg zz rfl) (LN _ hw)) hHeld ?_
  refine yv (v := .bool true) 12 rfl (zw zz rfl rfl rfl (zg zz rfl)) (fun w1 hw => ex_eqTr rfl (zg zz rfl) (zg zz rfl) (decide_eq_true hn)) hHeld ?_
  refine yv 13 rfl (zw zz rfl rfl rfl (zg zz rfl)) (fun w1 hw => xmv rfl (zg zz rfl)) hHeld ?_
  refine yv 14 rfl (zw zz rfl rfl rfl (zg zz rfl)) (fun w1 hw => xmv rfl (zi t14 rfl)) hHeld ?_
  refine yv 15 rfl (zw zz rfl rfl rfl (zg zz rfl)) (fun w1 hw => xmv rfl (zi t18 rfl)) hHeld ?_
  refine yv 16 rfl (zw zz rfl rfl rfl (zg zz rfl)) (fun w1 hw => xia rfl (zg zz rfl) (zg zz rfl) (ix_sp hj hm2 _)) hHeld ?_
  refine yv 17 rfl (zw zz rfl rfl rfl (zg zz rfl)) (fun w1 hw => xfa rfl (zg zz rfl) (fg_65_3 _ _ _)) hHeld ?_
  refine yv 18 rfl (zw zz rfl rfl rfl (zg zz rfl)) (fun w1 hw => xld rfl (zg zz rfl) (LV2 _ hw)) hHeld ?_
  refine yv 19 rfl (zw zz rfl rfl rfl (zg zz rfl)) (fun w1 hw => xmv rfl (zi t8 rfl)) hHeld ?_
  refine yv 20 rfl (zw zz rfl rfl rfl (zg zz rfl)) (fun w1 hw => xmv rfl (zi t16 rfl)) hHeld ?_
  refine yv 21 rfl (zw zz rfl rfl rfl (zg zz rfl)) (fun w1 hw => xia rfl (zg zz rfl) (zg zz rfl) (ix_sp hi hm _)) hHeld ?_
  refine yv 22 rfl (zw zz rfl rfl rfl (zg zz rfl)) (fun w1 hw => xfa rfl (zg zz rfl) (fg_65_3 _ _ _)) hHeld ?_
  refine yv 23 rfl (zw zz rfl rfl rfl (zg zz rfl)) (fun w1 hw => xld rfl (zg zz rfl) (LV _ hw)) hHeld ?_
  refine yc 24 rfl (zw zz rfl rfl rfl (zg zz rfl)) (exec_c2 rfl (zg zz rfl) (zg zz rfl)) (CS _ hHeld) (fun e x24 hx => ?_)
  obtain ⟨rfl, HF⟩ := hx
  refine ⟨_, rfl, HF, fun hHeld => ?_⟩
  refine yv 25 rfl (zw zz rfl rfl rfl (zg zz rfl)) (fun w1 hw => exec_pickT rfl (zg zz rfl) (zg zz rfl)) hHeld ?_
  refine yv 26 rfl (zw zz rfl rfl rfl (zg zz rfl)) (fun w1 hw => xmv rfl (zg zz rfl)) hHeld ?_
  refine yv 27 rfl (zw zz rfl rfl rfl (zg zz rfl)) (fun w1 hw => xmv rfl (zi t14 rfl)) hHeld ?_
  refine yv 28 rfl (zw zz rfl rfl rfl (zg zz rfl)) (fun w1 hw => xmv rfl (zi t18 rfl)) hHeld ?_
  refine yv 29 rfl (zw zz rfl rfl rfl (zg zz rfl)) (fun w1 hw => xia rfl (zg zz rfl) (zg zz rfl) (ix_sp hj hm2 _)) hHeld ?_
  refine yv 30 rfl (zw zz rfl rfl rfl (zg zz rfl)) (fun w1 hw => xfa rfl (zg zz rfl) (fg_65_0 _ _ _)) hHeld ?_
  refine yv 31 rfl (zw zz rfl rfl rfl (zg zz rfl)) (fun w1 hw => xld rfl (zg zz rfl) (LF2 _ hw)) hHeld ?_
  refine yv 32 rfl (zw zz rfl rfl rfl (zg zz rfl)) (fun w1 hw => xmv rfl (zi t13 rfl)) hHeld ?_
  refine yv (v := .bool true) 33 rfl (zw zz rfl rfl rfl (zg zz rfl)) (fun w1 hw => ex_eql rfl (zg zz rfl) (zg zz rfl) (decide_eq_true h1)) hHeld ?_
  refine yv 34 rfl (zw zz rfl rfl rfl (zg zz rfl)) (fun w1 hw => exec_pickT rfl (zg zz rfl) (zg zz rfl)) hHeld ?_
  refine yv 35 rfl (zw zz rfl rfl rfl (zg zz rfl)) (fun w1 hw => xmv rfl (zg zz rfl)) hHeld ?_
  refine yv 36 rfl (zw zz rfl rfl rfl (zg zz rfl)) (fun w1 hw => xmv rfl (zi t14 rfl)) hHeld ?_
  refine yv 37 rfl (zw zz rfl rfl rfl (zg zz rfl)) (fun w1 hw => xmv rfl (zi t18 rfl)) hHeld ?_
  refine yv 38 rfl (zw zz rfl rfl rfl (zg zz rfl)) (fun w1 hw => xia rfl (zg zz rfl) (zg zz rfl) (ix_sp hj hm2 _)) hHeld ?_
  refine yv 39 rfl (zw zz rfl rfl rfl (zg zz rfl)) (fun w1 hw => xfa rfl (zg zz rfl) (fg_65_1 _ _ _)) hHeld ?_
  refine yv 40 rfl (zw zz rfl rfl rfl (zg zz rfl)) (fun w1 hw => xld rfl (zg zz rfl) (LT2 _ hw)) hHeld ?_
  refine yv 41 rfl (zw zz rfl rfl rfl (zg zz rfl)) (fun w1 hw => xmv rfl (zi t13 rfl)) hHeld ?_
  refine yv (v := .int .i64 ((e : Int) + 1)) 42 rfl (zw zz rfl rfl rfl (zg zz rfl)) (fun w1 hw => ex_add rfl (zg zz rfl) rfl hb) hHeld ?_
  refine yv (v := .bool true) 43 rfl (zw zz rfl rfl rfl (zg zz rfl)) (fun w1 hw => ex_eql rfl (zg zz rfl) (zg zz rfl) (decide_eq_true h2)) hHeld ?_
  refine yv 44 rfl (zw zz rfl rfl rfl (zg zz rfl)) (fun w1 hw => exec_pickT rfl (zg zz rfl) (zg zz rfl)) hHeld ?_
  refine yv 45 rfl rfl (fun w1 hw => exec_pickF rfl (zg zz rfl) (zg zz rfl)) hHeld ?_
  refine yv 46 rfl rfl (fun w1 hw => xas rfl (zg zz rfl)) hHeld ?_
  exact ye rfl (h _ _ (hHeld) rfl)
end Go.Proofs.YtifendlpeebofaaGreatDoor
namespace Go.Proofs.YtifendlpeebofaaGreatDoor
open Go.RowKit Go.Shelf Sq
attribute [local go_sem] Oper.semAt_some
theorem Gr.sok {w W : World} {sb mb : Nat} {E : List Elt} {L : List MkV} (h : Gr w sb mb E L W) : SeqOk E := by
  obtain ⟨⟨s, m, _, _, hs, _⟩, _⟩ := h
  exact hs.lk.ok
theorem Gr.spansR {w W : World} {sb mb : Nat} {E : List Elt} {L : List MkV} (h : Gr w sb mb E L W) (rt : ∀ x ∈ L, x.v.right = true) (hT : K.V.Tabs W) : Calls Tryz.prog 25 #[.pointer (some ⟨mb, 0, none⟩), .pointer (some ⟨sb, 0, none⟩)] W fun e w' => ∃ v, e = .returned v ∧ (∃ S, SpW E L v W.heap.size S w' ∧ ∀ p ∈ S, p.v.right = true) ∧ Gr w sb mb E L w' ∧ Below W.heap.size W w' := by
  have hl := h.lt
  have hg := h
  obtain ⟨⟨s, m, rfl, rfl, hs, hm, rfl, c1, c2, d⟩, b'⟩ := h
  refine (Spans_any hs hm rt hT).mono ?_
  rintro e w' ⟨v, rfl, S, lo, is, ok, len, b⟩
  exact ⟨v, rfl, ⟨S, ⟨lo, is, fun p hp => (ok p hp).1, Nat.le_trans len (by omega)⟩, fun p hp => (ok p hp).2⟩, hg.below b, b⟩
theorem Gr.overK {w W : World} {sb mb k : Nat} {L : List MkV} (h : Gr w sb mb (seg 0 k) L W) {S : List SpV} (a : SpansIs (hE (seg 0 k) L) S) (hk : k ≤ 90) {e : Nat} (he : e < k) :
    Calls Tryz.prog 23 #[.pointer (some ⟨mb, 0, none⟩), .pointer (some ⟨sb, 0, none⟩), (idN ((e : Int) + 1)).v] W fun en w' => ∃ v O, en = .returned v ∧ RSp.Lo w' W.heap.size v O ∧ OvK S O e ∧ (∀ y ∈ O, y.ok) ∧ Below W.heap.size W w' := by
  have ok := h.sok
  obtain ⟨⟨s, m, rfl, rfl, hs, hm, rfl, c1, c2, d⟩, b'⟩ := h
  refine (over_any hs hm (idN_ok (by omega))).mono ?_
  rintro en w' ⟨v, O, rfl, lo, hO, b⟩
  have hh : hasE (seg 0 k) (idN ((e : Int) + 1)) = true := by
    have := has_seg (k := k) (p := e + 1) (by omega) (by omega)
    rwa [show ((e + 1 : Nat) : Int) = (e : Int) + 1 by omega] at this
  rw [if_pos hh] at hO
  obtain ⟨k1, k2⟩ := ovk_of ok a he hO.1
  refine ⟨v, O, rfl, lo, k1, fun y hy => ?_, b⟩
  obtain ⟨q1, q2, x, hx, q3, q4⟩ := k2 y hy
  have okx := (hm.ok x hx).1
  exact ⟨by omega, by omega, by omega, by omega, by rw [q3]; exact okx.nm, by rw [q4]; exact okx.v⟩
section
variable {W : World} {b o : Nat} {x : SpV}
theorem sp_kd (h : W.rangeAt b o x.c) : (Instr.loadAt 37 (.pointer (some ⟨b, o + (3 + 0), none⟩))).run Tryz.prog W = .ok (.int .u8 x.v.k) W := by
  have hc : W.cell? ⟨b, o + 3, none⟩ = some (.int .u8 x.v.k) := h 3 _ rfl
  go_simp
end
structure Bx2 (w3 : World) (x y : SpV) (p q : Nat) (W : World) : Prop where
  b : Below w3.heap.size w3 W
  lp : w3.heap.size ≤ p
  lq : w3.heap.size ≤ q
  ne : p ≠ q
  x : RSp.Bx W p x
  y : RSp.Bx W q y
theorem bx_set {W : World} {p : Nat} {x y : SpV} (hx : x.ok) (hy : y.ok) (h : RSp.Bx W p x) : RSp.Bx (W.setRow p (RSp.c y).toArray) p y := setRow_heap W p _ _ _ _ h
theorem bx_other {W : World} {p q : Nat} {x : SpV} (ne : q ≠ p) (cs : Array Value) (h : RSp.Bx W p x) : RSp.Bx (W.setRow q cs) p x := by
  have h' : W.heap[p]? = _ := h
  show _ = _
  rw [← h']
  simp [World.setRow, Array.getElem?_modify, ne]
theorem Bx2.swap {w3 W : World} {x y : SpV} {p q : Nat} (h : Bx2 w3 x y p q W) : Bx2 w3 y x q p W := ⟨h.b, h.lq, h.lp, Ne.symm h.ne, h.y, h.x⟩
theorem Bx2.new {w3 W : World} {p : Nat} (b : Below w3.heap.size w3 W) (h : w3.heap.size ≤ p) (x : RSp.Bx W p zSp7) : ∃ q w1, (Instr.alloc 65 true (.tuple #[])).run Tryz.prog W = .ok (.pointer (some ⟨q, 0, none⟩)) w1 ∧ Bx2 w3 zSp7 zSp7 p q w1 ∧ Bx2 w3 zSp7 zSp7 q p w1 := by
  have lp := (Array.getElem?_eq_some_iff.1 x).1
  have n := RowT.bx_is RSp W zSp7
  have B : Bx2 w3 zSp7 zSp7 p W.heap.size (W.alloc (.cells (RSp.c RSp.z).toArray RSp.e)) := ⟨b.trans (n.2.mono b.size), h, b.size, by omega, x.below n.2, n.1⟩
  exact ⟨_, _, RowT.bx_zero RSp_is W, B, B.swap⟩
theorem Bx2.put1 {w3 W : World} {x y u : SpV} {p q : Nat} (h : Bx2 w3 x y p q W) (hx : x.ok) (hu : u.ok) : ∃ w1, (Instr.storeAt 65 (.pointer (some ⟨p, 0, none⟩)) u.a).run Tryz.prog W = .ok () w1 ∧ Bx2 w3 u y p q w1 :=
  ⟨_, RowT.bx_store RSp_is hx hu h.x, h.b.trans (set_below _ h.b.size h.lp), h.lp, h.lq, h.ne, bx_set hx hu h.x, bx_other h.ne _ h.y⟩
theorem Bx2.put2 {w3 W : World} {x y u : SpV} {p q : Nat} (h : Bx2 w3 x y p q W) (hy : y.ok) (hu : u.ok) : ∃ w1, (Instr.storeAt 65 (.pointer (some ⟨q, 0, none⟩)) u.a).run Tryz.prog W = .ok () w1 ∧ Bx2 w3 x u p q w1 := by
  obtain ⟨w1, e, b⟩ := h.swap.put1 hy hu
  exact ⟨w1, e, b.swap⟩
theorem sp_vb {W : World} {b : Nat} {x : SpV} (h : RSp.Bx W b x) : (Instr.loadAt 40 (.pointer (some ⟨b, 0 + 3, none⟩))).run Tryz.prog W = .ok x.v.v W := sp_v (o := 0) (RowT.Bx.rng h)
theorem row_get {w3 : World} {sa : Option Addr} {S : List SpV} (hat : RSp.At w3 sa S) {i : Nat} (hi : i < S.length) : ∃ x g o, S[i]? = some x ∧ sa = some ⟨g, o, none⟩ ∧ ∀ W, Below w3.heap.size w3 W → W.rangeAt g (o + 7 * i) x.c := by
  obtain ⟨g, o, e, gl, hr⟩ := hat.get hi
  exact ⟨S[i], g, o, List.getElem?_eq_getElem hi, e, fun W b => rangeAt_keep hr (b.block g gl)⟩
structure AgS (w w3 : World) (sb mb k : Nat) (L : List MkV) (S : List SpV) (sa : Option Addr) : Prop where
  gr : Gr w sb mb (seg 0 k) L w3
  is : SpansIs (hE (seg 0 k) L) S
  ok : ∀ p ∈ S, p.ok
  rt : ∀ p ∈ S, p.v.right = true
  len : S.length ≤ 2000000000000
  at' : RSp.At w3 sa S
theorem AgS.inn {w w3 : World} {sb mb k : Nat} {L : List MkV} {S : List SpV} {sa : Option Addr} (h : AgS w w3 sb mb k L S sa) {x : SpV} (hx : x ∈ S) : 0 ≤ x.fr ∧ x.fr < x.to ∧ x.to ≤ (k : Int) ∧ x.v.k ≠ 0 := by
  have := run_in h.gr.sok ((h.is.mem x).1 hx)
  rw [vis_seg] at this
  exact this
set_option maxHeartbeats 8000000 in
theorem agree_any (n : Int) (w : World) (hT : K.V.Tabs w) {la : Option Addr} {lc : Nat} {O : List OpM} (hat : RO.At w la O) (hok : ∀ x ∈ O, x.ok) (hO : O.length ≤ 800000000000) :
    Calls Tryz.prog 6 #[.int .i64 n, .slice la O.length lc] w fun e w' => e = .returned (.bool true) ∧ Below w.heap.size w w' := by
  obtain ⟨k, hk, hk12⟩ := szN n
  have CL := hidMk ((size_any n w).mono (R' := fun e W => e = .returned (.int .i64 (k : Int)) ∧ Calls Tryz.prog 32 #[.int .i64 (k : Int), .slice la O.length lc] W fun e w2 => ∃ sb mb, e = .returned (.tuple #[.pointer (some ⟨sb, 0, none⟩), .pointer (some ⟨mb, 0, none⟩), .bool true]) ∧ Gr w sb mb (seg 0 k) (addL [] O) w2) (fun e W q => by
    obtain ⟨rfl, rfl⟩ := q
    exact ⟨by rw [hk], laidO_any k (by omega) _ hT hat hok hO⟩))
  have HT := hidMk (fun (W : World) (b : Below w.heap.size w W) => hT.below b)
  have SZ : Hid (∀ W, Calls Tryz.prog 33 #[.int .i64 n] W fun e w' => e = .returned (.int .i64 (k : Int)) ∧ w' = W) := fun W => by
    have := size_any n W
    rw [hk] at this
    exact this
  obtain ⟨L, hL⟩ : ∃ L, addL [] O = L := ⟨_, rfl⟩
  have RT := hidMk (show ∀ y ∈ L, y.v.right = true by rw [← hL]; exact addL_right O (fun y hy => by cases hy))
  rw [hL] at CL
  clear hT hat hok hO hk hL
  go_enter Tryz.func6, Tryz.ntmps6
  go_upto_region 1 with fail
  refine agr1 (n := n) (k := (k : Int)) (lv := .slice la O.length lc) (fun sb mb W => Gr w sb mb (seg 0 k) L W) _ w _ rfl rfl rfl CL.out ?_
  intro sb mb a' w2 hg ha
  subst ha
  simp only [Act.put, qsA, qsB, qsC]
  clear CL
  have SP := hidMk (hg.spansR RT.out (HT.out w2 hg.bel))
  clear hg
  go_upto_region 4 with fail
  refine agr4 (sb := sb) (mb := mb) (fun v W => (∃ S, SpW (seg 0 k) L v w2.heap.size S W ∧ ∀ p ∈ S, p.v.right = true) ∧ Gr w sb mb (seg 0 k) L W ∧ Below w2.heap.size w2 W) _ w2 _ rfl rfl rfl SP.out ?_
  rintro v0 a' w3 ⟨⟨S, hS, hR⟩, hg, hb⟩ ha
  subst ha
  simp only [Act.put, qsA, qsB, qsC]
  clear SP hb HT RT
  obtain ⟨sa, sc, rfl, hat, _⟩ := hS.lo.open RSp_is hS.ok
  have A := hidMk (show AgS w w3 sb mb k L S sa from ⟨hg, hS.is, hS.ok, hR, hS.len, hat⟩)
  obtain ⟨m, hm⟩ : ∃ m, S.length = m := ⟨_, rfl⟩
  have HM := hidMk (show S.length = m ∧ m ≤ 2000000000000 from ⟨hm, by rw [← hm]; exact hS.len⟩)
  rw [hm]
  have hm64 : m ≤ 9223372036854775807 := by have := HM.out; omega
  have B3 := hidMk (Below.refl w3.heap.size w3)
  clear hg hS hR hat hm
  go_wp2
  go_loopw [9] (fun v9 wr => ∃ i : Nat, v9 = .int .i64 (i : Int) ∧ i ≤ m ∧ Hid (Below w3.heap.size w3 wr)) (fun v9 _ => m - (intOf v9).toNat)
  case atStart => exact ⟨0, rfl, Nat.zero_le _, B3⟩
  case round =>
    obtain ⟨i, rfl, hi, HI⟩ := hrel
    by_cases h : i < m
    · have h' : (i : Int) < (m : Int) := by omega
      obtain ⟨x, g, o, hx, rfl, hr⟩ := row_get A.out.at' (i := i) (by have := HM.out; omega)
      have HR := hidMk hr
      have xm := List.mem_of_getElem? hx
      have HX := hidMk (And.intro hx (And.intro (A.out.ok x xm) (A.out.rt x xm)))
      have MS := hidMk (show m - (((i + 1 : Nat) : Int)).toNat < m - ((i : Nat) : Int).toNat by simp only [Int.toNat_natCast]; omega)
      have HH1 := hidMk h
      obtain ⟨n1, n2, n3, n4⟩ := A.out.inn xm
      clear hr hx xm
      go_upto_region 8 with fail
      refine agr8 (g := g) (o := o) (n := m) (c := sc) (i := i) (z := n) (k := (k : Int)) (x := x) (fun W => Below w3.heap.size w3 W) _ wr _ rfl rfl rfl rfl HI.out.drew h hm64 (by omega) (by omega) (by omega) n4 (fun W b => (sp_at (HR.out W b)).1) (fun W b => (sp_at (HR.out W b)).2.1) (fun W b => sp_kd (HR.out W b)) (fun W b => (SZ.out W).mono (fun e w1 q => ⟨q.1, by rw [q.2]; exact b⟩)) ?_
      intro a' w4 b4 ha
      subst ha
      simp only [Act.put, qsA, qsB, qsC]
      have B4 := hidMk b4
      clear n1 n2 n3 n4 b4 HI
      go_wp2
      go_loopw [10] (fun v10 wq => ∃ j : Nat, v10 = .int .i64 (j : Int) ∧ j ≤ i ∧ Hid (Below w3.heap.size w3 wq)) (fun v10 _ => i - (intOf v10).toNat)
      case atStart => exact ⟨0, rfl, Nat.zero_le _, B4⟩
      case round =>
        obtain ⟨j, rfl, hj, HJ⟩ := hrel
        by_cases h2 : j < i
        · have h2' : (j : Int) < (i : Int) := by omega
          obtain ⟨y, g2, o2, hy, eg, hr2⟩ := row_get A.out.at' (i := j) (by have := HM.out; omega)
          obtain ⟨rfl, rfl⟩ : g2 = g ∧ o2 = o := by cases eg; exact ⟨rfl, rfl⟩
          have ym := List.mem_of_getElem? hy
          have HR2 := hidMk hr2
          have HY := hidMk (And.intro (A.out.ok y ym) (A.out.rt y ym))
          have TW := hidMk (two_runs A.out.is h2 hy HX.out.1)
          have MS2 := hidMk (show i - (((j + 1 : Nat) : Int)).toNat < i - ((j : Nat) : Int).toNat by simp only [Int.toNat_natCast]; omega)
          have HH2 := hidMk h2
          clear eg hr2 ym hy
          go_upto_region 13 with fail
          refine agr13 (g := g2) (o := o2) (n := m) (c := sc) (i := i) (k := j) (x := x) (y := y) (fun W => Below w3.heap.size w3 W) (fun p W => Below w3.heap.size w3 W ∧ w3.heap.size ≤ p ∧ RSp.Bx W p zSp7) (fun p q W => Bx2 w3 zSp7 zSp7 p q W) (fun p q W => Bx2 w3 y zSp7 p q W) (fun p q W => Bx2 w3 y x p q W) _ wr _ rfl rfl rfl rfl HJ.out.drew h (by omega) hm64 (fun _ _ b => b.1) (fun _ _ _ b => b.b) (fun _ _ _ b => b.b) (fun _ _ _ b => b.b) (fun W b => RowT.ld RSp_is HX.out.2.1 (HR.out W b)) (fun W b => RowT.ld RSp_is HY.out.1 (HR2.out W b))
            (fun W b => ⟨_, _, RowT.bx_zero RSp_is W, b.trans ((RowT.bx_is RSp W zSp7).2.mono b.size), b.size, (RowT.bx_is RSp W zSp7).1⟩)
            (fun p W b => Bx2.new b.1 b.2.1 b.2.2)
            (fun p q W b => b.put1 zSp7_ok HY.out.1)
            (fun p q W b => b.put2 zSp7_ok HX.out.2.1) ?_
          intro p1 p2 a' w5 hf ha
          have B5 := hidMk hf
          subst ha
          simp only [Act.put, qsA, qsB, qsC]
          clear hf HJ
          by_cases hn : y.nm = x.nm
          · obtain ⟨t1, t2, t3⟩ := TW.out hn
            by_cases he : y.to = x.fr
            · have CC := hidMk ((refcmp HY.out.1.v HX.out.2.1.v HY.out.2 HX.out.2.2 w5).mono (R' := fun e w1 => ∃ d : Int, e = .returned (.int .i64 d) ∧ ¬ d = 0 ∧ Below w3.heap.size w3 w1) (fun e w1 q => by
                obtain ⟨⟨d, rfl, hd⟩, b⟩ := q
                exact ⟨d, rfl, fun z => t2 he (hd.1 z), B5.out.b.trans (b.mono B5.out.b.size)⟩))
              go_upto_region 14 with fail
              refine agr14y (pa := p1) (pb := p2) (p := y) (q := x) (fun W => Below w3.heap.size w3 W) _ w5 _ rfl rfl rfl hn t1 he (sp_nm B5.out.x) (sp_nm B5.out.y) (sp_to B5.out.x) (sp_fr B5.out.y) (sp_vb B5.out.x) (sp_vb B5.out.y) CC.out ?_
              intro d a' w6 hf ha
              have B6 := hidMk hf
              subst ha
              simp only [Act.put, qsA, qsB, qsC]
              clear hf CC B5 t1 t2 t3 he hn
              go_wp2
              rw [show ((j : Int) + 1) = ((j + 1 : Nat) : Int) by omega]
              exact ⟨⟨j + 1, rfl, HH2.out, B6⟩, MS2.out⟩
            · go_upto_region 14 with fail
              refine agr14z (pa := p1) (pb := p2) (p := y) (q := x) _ w5 _ rfl rfl rfl hn t1 he t3 (sp_nm B5.out.x) (sp_nm B5.out.y) (sp_to B5.out.x) (sp_fr B5.out.y) (sp_fr B5.out.x) (sp_to B5.out.y) ?_
              intro a' w6 hw ha
              obtain rfl : w5 = w6 := hw.symm
              have B6 := hidMk B5.out.b
              subst ha
              simp only [Act.put, qsA, qsB, qsC]
              clear B5 t1 t2 t3 he hn
              go_wp2
              rw [show ((j : Int) + 1) = ((j + 1 : Nat) : Int) by omega]
              exact ⟨⟨j + 1, rfl, HH2.out, B6⟩, MS2.out⟩
          · go_upto_region 14 with fail
            refine agr14n (pa := p1) (pb := p2) (p := y) (q := x) _ w5 _ rfl rfl rfl hn (sp_nm B5.out.x) (sp_nm B5.out.y) ?_
            intro a' w6 hw ha
            obtain rfl : w5 = w6 := hw.symm
            have B6 := hidMk B5.out.b
            subst ha
            simp only [Act.put, qsA, qsB, qsC]
            clear B5 hn
            go_wp2
            rw [show ((j : Int) + 1) = ((j + 1 : Nat) : Int) by omega]
            exact ⟨⟨j + 1, rfl, HH2.out, B6⟩, MS2.out⟩
        · have h2' : ¬ ((j : Int) < (i : Int)) := by omega
          have hi2 := HH1.out
          go_wp2
          rw [show ((i : Int) + 1) = ((i + 1 : Nat) : Int) by omega]
          exact ⟨⟨i + 1, rfl, HH1.out, HJ⟩, MS.out⟩
    · have h' : ¬ ((i : Int) < (m : Int)) := by omega
      go_wp2
      go_loopw [13] (fun v13 wr => ∃ e : Nat, v13 = .int .i64 (e : Int) ∧ e ≤ k ∧ Hid (Below w3.heap.size w3 wr)) (fun v13 _ => k - (intOf v13).toNat)
      case atStart => exact ⟨0, rfl, Nat.zero_le _, HI⟩
      case round =>
        clear HI
        obtain ⟨e, rfl, hle, HE⟩ := hrel
        have CS := hidMk ((SZ.out wr).mono (R' := fun en w1 => en = .returned (.int .i64 (k : Int)) ∧ Below w3.heap.size w3 w1) (fun en w1 q => ⟨q.1, by rw [q.2]; exact HE.out⟩))
        by_cases he : e < k
        · have he' : (e : Int) < (k : Int) := by omega
          go_upto_region 17 with fail
          refine agr17 (e := e) (z := n) (k := (k : Int)) (r := true) (fun W => Below w3.heap.size w3 W) _ wr _ rfl rfl rfl (decide_eq_true he') CS.out ?_
          intro a' w4 b4 ha
          subst ha
          simp only [Act.put, qsA, qsB, qsC]
          have CO := hidMk (((A.out.gr.below b4).overK A.out.is (by omega) he).mono (R' := fun en w1 => ∃ v, en = .returned v ∧ (∃ O2, RSp.Lo w1 w4.heap.size v O2 ∧ OvK S O2 e ∧ (∀ y ∈ O2, y.ok)) ∧ Below w3.heap.size w3 w1) (fun en w1 q => by
            obtain ⟨v, O2, rfl, q1, q2, q3, q4⟩ := q
            exact ⟨v, rfl, ⟨O2, q1, q2, q3⟩, b4.trans (q4.mono b4.size)⟩))
          clear CS HE b4
          go_upto_region 19 with fail
          refine agr19 (sb := sb) (mb := mb) (e := e) (fun v w1 => (∃ O2, RSp.Lo w1 w4.heap.size v O2 ∧ OvK S O2 e ∧ (∀ y ∈ O2, y.ok)) ∧ Below w3.heap.size w3 w1) _ w4 _ rfl rfl rfl rfl (by omega) CO.out ?_
          rintro v14 a' w5 ⟨⟨O2, lo, ovk, ok2⟩, b5⟩ ha
          subst ha
          simp only [Act.put, qsA, qsB, qsC]
          clear CO
          obtain ⟨ra, rc, rfl, hat2, _⟩ := lo.open RSp_is ok2
          have A2 := hidMk (And.intro ovk (And.intro ok2 (And.intro hat2 b5)))
          obtain ⟨m2, hm2⟩ : ∃ m2, O2.length = m2 := ⟨_, rfl⟩
          have HM2 := hidMk (show O2.length = m2 ∧ m2 ≤ 2000000000000 from ⟨hm2, by rw [← hm2, ← ovk.len]; have := cntA_le S e S.length; have := HM.out; omega⟩)
          rw [hm2]
          have hm264 : m2 ≤ 9223372036854775807 := by have := HM2.out; omega
          have B5 := hidMk (Below.refl w5.heap.size w5)
          have MS := hidMk (show k - (((e + 1 : Nat) : Int)).toNat < k - ((e : Nat) : Int).toNat by simp only [Int.toNat_natCast]; omega)
          have HH3 := hidMk he
          clear lo ovk ok2 hat2 b5 hm2
          go_wp2
          go_loopw [15, 16] (fun v15 v16 wr => ∃ i : Nat, v16 = .int .i64 (i : Int) ∧ i ≤ m ∧ v15 = .int .i64 (cntA S e i : Int) ∧ Hid (Below w5.heap.size w5 wr)) (fun _ v16 _ => m - (intOf v16).toNat)
          case atStart => exact ⟨0, rfl, Nat.zero_le _, rfl, B5⟩
          case round =>
            obtain ⟨i3, rfl, hi3, rfl, HI3⟩ := hrel
            have cb := cntA_le S e i3
            have hcs := hidMk (fun (x : SpV) (hx : S[i3]? = some x) => cntA_snoc (e := e) hx)
            by_cases h3 : i3 < m
            · have h3' : (i3 : Int) < (m : Int) := by omega
              obtain ⟨x, g, o, hx, rfl, hr⟩ := row_get A.out.at' (i := i3) (by have := HM.out; omega)
              have HR := hidMk (fun (W : World) (b : Below w5.heap.size w5 W) => hr W (A2.out.2.2.2.trans (b.mono A2.out.2.2.2.size)))
              have HX := hidMk (And.intro hx (List.mem_of_getElem? hx))
              have cs := hcs.out x hx
              have MS3 := hidMk (show m - (((i3 + 1 : Nat) : Int)).toNat < m - ((i3 : Nat) : Int).toNat by simp only [Int.toNat_natCast]; omega)
              have HH4 := hidMk h3
              clear hr hx hcs
              have bm : cntA S e i3 ≤ 2000000000000 := by have := HM.out; omega
              by_cases h4 : x.fr > (e : Int)
              · rw [if_neg (show ¬ overB (e : Int) x = true from fun q => by have := (of_decide_eq_true q : x.fr ≤ (e : Int) ∧ (e : Int) < x.to); omega), Nat.add_zero] at cs
                have CSN := hidMk cs
                clear cs
                go_upto_region 24 with fail
                refine agr24t (g := g) (o := o) (n := m) (c := sc) (i := i3) (e := e) (x := x) _ wr _ rfl rfl rfl rfl h3 hm64 h4 (sp_at (HR.out wr HI3.out)).1 ?_
                intro a' wx hw ha
                obtain rfl : wr = wx := hw.symm
                subst ha
                simp only [Act.put, qsA, qsB, qsC]
                go_wp2
                rw [show ((i3 : Int) + 1) = ((i3 + 1 : Nat) : Int) by omega]
                exact ⟨⟨i3 + 1, rfl, HH4.out, by rw [CSN.out]; rfl, HI3⟩, MS3.out⟩
              · by_cases h5 : x.to ≤ (e : Int)
                · rw [if_neg (show ¬ overB (e : Int) x = true from fun q => by have := (of_decide_eq_true q : x.fr ≤ (e : Int) ∧ (e : Int) < x.to); omega), Nat.add_zero] at cs
                  have CSN := hidMk cs
                  clear cs
                  go_upto_region 24 with fail
                  refine agr24f (g := g) (o := o) (n := m) (c := sc) (i := i3) (e := e) (x := x) (r := true) _ wr _ rfl rfl rfl rfl h3 hm64 h4 (decide_eq_true h5) (sp_at (HR.out wr HI3.out)).1 (sp_at (HR.out wr HI3.out)).2.1 ?_
                  intro a' wx hw ha
                  obtain rfl : wr = wx := hw.symm
                  subst ha
                  simp only [Act.put, qsA, qsB, qsC]
                  go_wp2
                  rw [show ((i3 : Int) + 1) = ((i3 + 1 : Nat) : Int) by omega]
                  exact ⟨⟨i3 + 1, rfl, HH4.out, by rw [CSN.out]; rfl, HI3⟩, MS3.out⟩
                · have ov : overB (e : Int) x = true := decide_eq_true ⟨by omega, by omega⟩
                  rw [if_pos ov] at cs
                  have CSN := hidMk cs
                  have HIT := hidMk (A2.out.1.hit x HX.out.2 ov)
                  have OF := hidMk (A2.out.1.of x HX.out.2 ov)
                  have TH := hidMk (fun (j : Nat) (y : SpV) (hy : O2[j]? = some y) => thrA_snoc (nm := x.nm) hy)
                  clear cs
                  go_upto_region 24 with fail
                  refine agr24f (g := g) (o := o) (n := m) (c := sc) (i := i3) (e := e) (x := x) (r := false) _ wr _ rfl rfl rfl rfl h3 hm64 h4 (decide_eq_false h5) (sp_at (HR.out wr HI3.out)).1 (sp_at (HR.out wr HI3.out)).2.1 ?_
                  intro a' wx hw ha
                  obtain rfl : wr = wx := hw.symm
                  subst ha
                  simp only [Act.put, qsA, qsB, qsC]
                  clear ov h4 h5
                  go_wp2
                  go_loopw [17, 18] (fun v17 v18 wq => ∃ j : Nat, v18 = .int .i64 (j : Int) ∧ j ≤ m2 ∧ v17 = .bool (thrA O2 x.nm j) ∧ Hid (Below w5.heap.size w5 wq)) (fun _ v18 _ => m2 - (intOf v18).toNat)
                  case atStart => exact ⟨0, rfl, Nat.zero_le _, rfl, HI3⟩
                  case round =>
                    obtain ⟨j, rfl, hj, rfl, HJ⟩ := hrel
                    by_cases h6 : j < m2
                    · have h6' : (j : Int) < (m2 : Int) := by omega
                      obtain ⟨y, g2, o2, hy, rfl, hr2⟩ := row_get A2.out.2.2.1 (i := j) (by have := HM2.out; omega)
                      have HR2 := hidMk hr2
                      have THJ := TH.out j y hy
                      have ym := List.mem_of_getElem? hy
                      have oky := A2.out.2.1 y ym
                      have MS6 := hidMk (show m2 - (((j + 1 : Nat) : Int)).toNat < m2 - ((j : Nat) : Int).toNat by simp only [Int.toNat_natCast]; omega)
                      have HH6 := hidMk h6
                      have hee := HH3.out
                      obtain ⟨tj, htj⟩ : ∃ tj, thrA O2 x.nm j = tj := ⟨_, rfl⟩
                      rw [htj] at THJ
                      rw [htj]
                      clear hr2 hy htj
                      cases tj with
                      | true =>
                        have NX := hidMk (show true = thrA O2 x.nm (j + 1) by rw [THJ]; rfl)
                        clear THJ
                        go_upto_region 30 with fail
                        refine agr30t _ wr _ rfl rfl ?_
                        intro a' w6 hw ha
                        obtain rfl : wr.drew = w6 := hw.symm
                        have B6 := hidMk HJ.out.drew
                        subst ha
                        simp only [Act.put, qsA, qsB, qsC]
                        go_wp2
                        rw [show ((j : Int) + 1) = ((j + 1 : Nat) : Int) by omega]
                        exact ⟨⟨j + 1, rfl, HH6.out, by rw [← NX.out], B6⟩, MS6.out⟩
                      | false =>
                        by_cases hn : y.nm = x.nm
                        · have NX := hidMk (show true = thrA O2 x.nm (j + 1) by rw [THJ, decide_eq_true hn]; rfl)
                          obtain ⟨f1, f2, f3⟩ := OF.out y ym hn
                          have CS := hidMk (fun (W : World) (b : Below w5.heap.size w5 W) => (same_of y.v x.v W).mono (R' := fun en w1 => en = .returned (.bool true) ∧ Below w5.heap.size w5 w1) (fun en w1 q => ⟨by rw [q.1, decide_eq_true f1], b.trans (q.2.mono b.size)⟩))
                          clear THJ
                          go_upto_region 30 with fail
                          refine agr30y (g := g) (o := o) (n := m) (c := sc) (i := i3) (g2 := g2) (o2 := o2) (n2 := m2) (c2 := rc) (j := j) (x := x) (y := y) (e := e) (fun W => Below w5.heap.size w5 W) _ wr _ rfl rfl rfl rfl rfl rfl rfl HJ.out.drew h3 hm64 h6 hm264 (by omega) hn f2 f3 (fun W b => (sp_at (HR.out W b)).2.2) (fun W b => (sp_at (HR2.out W b)).2.2) (fun W b => sp_v (HR.out W b)) (fun W b => sp_v (HR2.out W b)) (fun W b => (sp_at (HR2.out W b)).1) (fun W b => (sp_at (HR2.out W b)).2.1) CS.out ?_
                          intro a' w6 b6 ha
                          have B6 := hidMk b6
                          subst ha
                          simp only [Act.put, qsA, qsB, qsC]
                          clear b6 CS f1 f2 f3 hn
                          go_wp2
                          rw [show ((j : Int) + 1) = ((j + 1 : Nat) : Int) by omega]
                          exact ⟨⟨j + 1, rfl, HH6.out, by rw [← NX.out], B6⟩, MS6.out⟩
                        · have NX := hidMk (show false = thrA O2 x.nm (j + 1) by rw [THJ, decide_eq_false hn]; rfl)
                          clear THJ
                          go_upto_region 30 with fail
                          refine agr30n (g := g) (o := o) (n := m) (c := sc) (i := i3) (g2 := g2) (o2 := o2) (n2 := m2) (c2 := rc) (j := j) (x := x) (y := y) (fun W => Below w5.heap.size w5 W) _ wr _ rfl rfl rfl rfl rfl rfl HJ.out.drew h3 hm64 h6 hm264 hn (fun W b => (sp_at (HR.out W b)).2.2) (fun W b => (sp_at (HR2.out W b)).2.2) ?_
                          intro a' w6 b6 ha
                          have B6 := hidMk b6
                          subst ha
                          simp only [Act.put, qsA, qsB, qsC]
                          clear b6 hn
                          go_wp2
                          rw [show ((j : Int) + 1) = ((j + 1 : Nat) : Int) by omega]
                          exact ⟨⟨j + 1, rfl, HH6.out, by rw [← NX.out], B6⟩, MS6.out⟩
                    · have h6' : ¬ ((j : Int) < (m2 : Int)) := by omega
                      have ht : thrA O2 x.nm j = true := by
                        have := HIT.out
                        rw [HM2.out.1] at this
                        rw [show j = m2 by omega]
                        exact this
                      rw [ht]
                      have hi5 := HH4.out
                      clear HIT OF TH ht
                      go_wp2
                      rw [show ((i3 : Int) + 1) = ((i3 + 1 : Nat) : Int) by omega]
                      refine ⟨⟨i3 + 1, rfl, HH4.out, ?_, HJ⟩, MS3.out⟩
                      rw [CSN.out]
                      rfl
            · have h3' : ¬ ((i3 : Int) < (m : Int)) := by omega
              have hc : cntA S e i3 = m2 := by
                rw [show i3 = S.length by have := HM.out; omega, A2.out.1.len, HM2.out.1]
              rw [hc]
              have B7 := hidMk (A2.out.2.2.2.trans (HI3.out.mono A2.out.2.2.2.size))
              have hee := HH3.out
              clear hc hcs cb
              go_wp2
              rw [show ((e : Int) + 1) = ((e + 1 : Nat) : Int) by omega]
              exact ⟨⟨e + 1, rfl, HH3.out, B7⟩, MS.out⟩
        · have he' : ¬ ((e : Int) < (k : Int)) := by omega
          go_upto_region 17 with fail
          refine agr17 (e := e) (z := n) (k := (k : Int)) (r := false) (fun W => Below w3.heap.size w3 W) _ wr _ rfl rfl rfl (decide_eq_false he') CS.out ?_
          intro a' w4 b4 ha
          have B4 := hidMk (A.out.gr.bel.trans (b4.mono A.out.gr.bel.size))
          subst ha
          simp only [Act.put, qsA, qsB, qsC]
          clear b4 CS HE
          go_wp2
          go_ret
          exact ⟨rfl, B4.out⟩
end Go.Proofs.YtifendlpeebofaaGreatDoor
