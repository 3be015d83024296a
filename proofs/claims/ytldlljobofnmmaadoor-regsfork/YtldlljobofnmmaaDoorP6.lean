import Derived.Test.YtldlljobofnmmaaDoorP5
import Derived.Laws.FloatArith
import Derived.Test.YtldlljobofnmmaaDoorP0
import Derived.Test.YtldlljobofnmmaaDoorP3
import Derived.Test.YtldlljobofnmmaaDoorP4
import Derived.Test.YtldlljobofnmmaaDoorP1
import Derived.Maps.RangeRun
import Derived.Shelf.SlMaps.Clone
import Derived.Ground.SlmcProg
import Derived.Shelf.SlGeneric
import Derived.Test.YtldlljobofnmmaaDoorRows
set_option maxRecDepth 100000
set_option maxHeartbeats 4000000
namespace Go.Proofs.YtldlljobofnmmaaDoor
open Go.RowKit Go.Maps Go.Sort Go.Shelf
set_option linter.unusedVariables false
set_option linter.unusedSimpArgs false
theorem less_lt : ∀ (x y : List UInt8), Op.bytesLess x y = decide (x < y)
  | [], [] => by simp [Op.bytesLess]
  | [], _ :: _ => by simp [Op.bytesLess]
  | _ :: _, [] => by simp [Op.bytesLess]
  | a :: x, b :: y => by
    unfold Op.bytesLess
    rw [less_lt x y, Bool.eq_iff_iff]
    simp [List.cons_lt_cons_iff]
section
def insL (S : List (List UInt8)) (x : List UInt8) (k : Nat) : List (List UInt8) := S.take k ++ x :: S.drop k
variable {S : List (List UInt8)} {x y : List UInt8} {j k : Nat}
theorem insL_len (h : k ≤ S.length) : (insL S x k).length = S.length + 1 := by simp [insL]; omega
theorem insL_get (h : k ≤ S.length) : (insL S x k)[k]? = some x := by
  unfold insL
  rw [List.getElem?_append_right (by simp; omega)]
  simp [Nat.min_eq_left h]
theorem insL_prev (hjk : j + 1 = k) (h : k ≤ S.length) : (insL S x k)[j]? = S[j]? := by
  unfold insL
  rw [List.getElem?_append_left (by simp; omega), List.getElem?_take, if_pos (by omega)]
theorem insL_swap (hjk : j + 1 = k) (hy : S[j]? = some y) : ((insL S x k).set k y).set j x = insL S x j := by
  have hj := (List.getElem?_eq_some_iff.1 hy).1
  have e1 : S.take k = S.take j ++ [y] := by rw [← hjk, List.take_add_one, hy]; rfl
  have e2 : S.drop j = y :: S.drop k := by rw [List.drop_eq_getElem_cons hj, (List.getElem?_eq_some_iff.1 hy).2, hjk]
  have l1 : (S.take j).length = j := by simp; omega
  unfold insL
  rw [e1, e2, List.append_assoc, List.set_append_right _ _ (by omega), l1, show k - j = 1 by omega]
  show (S.take j ++ (y :: y :: S.drop k)).set j x = _
  rw [List.set_append_right _ _ (by omega), l1, Nat.sub_self]
  rfl
theorem insL_sorted (hS : S.Pairwise (fun a b => leB a b = true)) (hk : k ≤ S.length) (hd : ∀ z ∈ S.drop k, leB x z = true) (hp : ∀ j z, j + 1 = k → S[j]? = some z → leB z x = true) : insL S x k = (S ++ [x]).mergeSort leB := by
  have tr : ∀ a b c : List UInt8, leB a b = true → leB b c = true → leB a c = true := fun a b c h1 h2 => by simp only [leB, decide_eq_true_eq] at *; exact List.le_trans h1 h2
  have to : ∀ a b : List UInt8, (leB a b || leB b a) = true := fun a b => by simp only [leB, Bool.or_eq_true, decide_eq_true_eq]; exact List.le_total a b
  have hperm : (insL S x k).Perm (S ++ [x]) := by
    unfold insL
    refine List.perm_middle.trans ?_
    rw [List.take_append_drop]
    exact (List.perm_append_singleton x S).symm
  have hall : ∀ z ∈ S.take k, leB z x = true := by
    intro z hz
    obtain ⟨i, hi⟩ := List.getElem?_of_mem hz
    rw [List.getElem?_take] at hi
    split at hi
    · next hik =>
      obtain ⟨j, hj⟩ : ∃ j, j + 1 = k := ⟨k - 1, by omega⟩
      obtain ⟨u, hu⟩ : ∃ u, S[j]? = some u := ⟨_, List.getElem?_eq_getElem (by omega)⟩
      have h1 := hp j u hj hu
      by_cases e : i = j
      · subst e; rw [hi] at hu; cases hu; exact h1
      · have h2 := List.pairwise_iff_getElem.1 hS i j (List.getElem?_eq_some_iff.1 hi).1 (List.getElem?_eq_some_iff.1 hu).1 (by omega)
        rw [(List.getElem?_eq_some_iff.1 hi).2, (List.getElem?_eq_some_iff.1 hu).2] at h2
        exact tr _ _ _ h2 h1
    · cases hi
  have hsorted : (insL S x k).Pairwise (fun a b => leB a b = true) := by
    unfold insL
    rw [List.pairwise_append, List.pairwise_cons]
    have hS2 := hS
    rw [← List.take_append_drop k S, List.pairwise_append] at hS2
    refine ⟨hS2.1, ⟨hd, hS2.2.1⟩, fun a ha b hb => ?_⟩
    rcases List.mem_cons.1 hb with rfl | hb
    · exact hall a ha
    · exact hS2.2.2 a ha b hb
  refine List.Perm.eq_of_pairwise (le := fun a b => leB a b = true) (fun a b _ _ h1 h2 => ?_) hsorted (List.pairwise_mergeSort tr to _) (hperm.trans (List.mergeSort_perm _ leB).symm)
  simp only [leB, decide_eq_true_eq] at h1 h2
  exact List.le_antisymm h1 h2
end
theorem srtT_sorted (l : List ByteArray) : (srtT l).Pairwise (fun a b => leB a b = true) :=
  List.pairwise_mergeSort (fun a b c h1 h2 => by simp only [leB, decide_eq_true_eq] at *; exact List.le_trans h1 h2) (fun a b => by simp only [leB, Bool.or_eq_true, decide_eq_true_eq]; exact List.le_total a b) _
theorem srtT_snoc (l : List ByteArray) (k : ByteArray) : srtT (l ++ [k]) = (srtT l ++ [k.data.toList]).mergeSort leB := by
  unfold srtT
  rw [List.map_append]
  exact mergeSort_of_perm ((List.mergeSort_perm _ leB).symm.append_right _)
def ksX (X : Sls) (o : IdK) (i : Nat) : List ByteArray := ((X.take i).filter (fun q => decide (q.1.1.o = o ∧ q.1.1.a = zId))).map (·.1.1.k)
theorem ksX_succ {X : Sls} {o : IdK} {i : Nat} {q : (PlK × SlV) × List EnV} (h : X[i]? = some q) : ksX X o (i + 1) = if q.1.1.o = o ∧ q.1.1.a = zId then ksX X o i ++ [q.1.1.k] else ksX X o i := by
  unfold ksX
  rw [List.take_add_one, h]
  by_cases hc : q.1.1.o = o ∧ q.1.1.a = zId
  · rw [if_pos hc]; simp [List.filter_append, hc]
  · rw [if_neg hc]; simp [List.filter_append, hc]
theorem ksX_len (X : Sls) (o : IdK) (i : Nat) : (ksX X o i).length ≤ i := by
  unfold ksX
  rw [List.length_map]
  refine Nat.le_trans (List.length_filter_le _ _) ?_
  rw [List.length_take]
  omega
theorem infoTx : (Tryd.prog.info? 9).map (fun i => (i.zero, i.size, i.bytes)) = some (some (.string ⟨#[]⟩), 1, 16) := by kernel_rfl
theorem run_pushT {w : World} {B : Nat} {v : Value} {L : List Value} (s : ByteArray) (own : OwnV w B 9 v L) (hB : B ≤ w.heap.size) (hn : L.length + 1 ≤ 2200000000000) :
    ∃ bv w1 v2 w2, (Instr.buildSlice 67 1 #[(0, .string s)]).run Tryd.prog w = .ok bv w1 ∧ Below w.heap.size w w1 ∧ (Builtin.append_ #[67, 67] 67 #[v, bv]).run Tryd.prog w1 = .ok v2 w2 ∧ OwnV w2 B 9 v2 (L ++ [.string s]) ∧ Tch (fun j => v.ownBlock = some j) w w2 := by
  have b1 : Below w.heap.size w (w.alloc (.cells #[.string s] 9)) := (Below.refl _ _).alloc (Nat.le_refl _) _
  have v1 : Vals (w.alloc (.cells #[.string s] 9)) (some ⟨w.heap.size, 0, none⟩) [.string s] := .inr ⟨_, _, rfl, fun j x hj => by
    rw [Nat.zero_add, cell_of_row _ _ _ _ _ _ (heap_alloc_new _ _)]
    simpa using hj⟩
  have e1 := run_bs1 67 9 16 _ Tryd.underlying67 infoTx rfl (.string s) rfl w
  have own1 := own.below b1
  have hB1 := Nat.le_trans hB b1.size
  generalize w.alloc (.cells #[.string s] 9) = w1 at *
  obtain ⟨i, hi, hz, hs, hby⟩ := info_parts infoTx
  have hnews : ∀ j u, [Value.string s][j]? = some u → w1.cell? ((⟨w.heap.size, 0, none⟩ : Addr).add j) = some u := fun j u hj => by
    rcases v1 with h | ⟨b, off, e, hc⟩
    · simp at h
    · cases e
      rw [Addr.add_mid]
      exact hc j u hj
  obtain ⟨v', w', hr, h2, h3, h5⟩ := app_at (P := Tryd.prog) w1 B 67 67 9 i _ 1 16 Tryd.underlying67 hi hz hs hby rfl (by decide) v L.length L own1 ⟨w.heap.size, 0, none⟩ 1 1 [.string s] (by simp) hnews (by intro u hu; rw [List.mem_singleton.1 hu]; rfl) (by unfold maxLen; omega) (by omega) hB1
  have t2 : Tch (fun j => v.ownBlock = some j) w1 w' := ⟨h3.os, h3.tape, h3.output, h3.size, fun j hj hn => h3.block j hj (fun e => hn e.symm)⟩
  refine ⟨_, w1, v', w', e1, b1, hr, ?_, (tch_of b1 _).trans' t2 (fun j _ q => q)⟩
  unfold OwnV
  rw [List.length_append]
  exact h2
theorem own_setT {w : World} {B : Nat} {v : Value} {R : List (List UInt8)} (own : OwnV w B 9 v (R.map encStr)) {g n c : Nat} (ev : v = .slice (some ⟨g, 0, none⟩) n c) {i : Nat} (hi : i < R.length) (t : List UInt8) :
    ∃ w', (Instr.storeAt 9 (.pointer (some ⟨g, 0 + i, none⟩)) (.string ⟨t.toArray⟩)).run Tryd.prog w = .ok () w' ∧ OwnV w' B 9 v ((R.set i t).map encStr) ∧ Tch (fun j => j = g) w w' ∧ B ≤ g := by
  rcases own.2 with ⟨e, hz⟩ | ⟨gb, cap, cur, e, hbg, hg, hnc, hcm, hcs, htake⟩
  · rw [List.length_map] at hz; omega
  · rw [ev] at e
    injection e with e1 e2 e3
    injection e1 with e1
    injection e1 with e1
    subst e1
    rw [List.length_map] at e2 hnc
    rw [List.length_map, Nat.mul_one] at htake
    have hl : i < cur.size := by rw [hcs]; omega
    obtain ⟨u, hu⟩ : ∃ u, R[i]? = some u := ⟨_, List.getElem?_eq_getElem hi⟩
    have hcell : w.cell? ⟨g, i, none⟩ = some (.string ⟨u.toArray⟩) := by
      rw [cell_of_row w g i cur 9 (0, 0) hg]
      have h1 : (R.map encStr)[i]? = some (encStr u) := by rw [List.getElem?_map, hu]; rfl
      rw [← htake, List.getElem?_take, if_pos hi] at h1
      simpa using h1
    have hf := frozen_of_row w g i _ _ hg
    have es : (Instr.storeAt 9 (.pointer (some ⟨g, 0 + i, none⟩)) (.string ⟨t.toArray⟩)).run Tryd.prog w = .ok () (w.setCell ⟨g, i, none⟩ (.string ⟨t.toArray⟩)) := by
      rw [Nat.zero_add]
      go_simp
    refine ⟨_, es, ⟨by simp, .inr ⟨g, cap, cur.set! i (.string ⟨t.toArray⟩), by rw [ev, List.length_map, List.length_set, e2, e3], hbg, ?_, by rw [List.length_map, List.length_set]; exact hnc, hcm, by simp [hcs], ?_⟩⟩, ⟨rfl, rfl, rfl, by simp [World.setCell], fun j _ hj => Go.heap_setCell_other _ _ _ _ hj⟩, hbg⟩
    · obtain ⟨hl2, hv⟩ := Array.getElem?_eq_some_iff.1 hg
      simp [World.setCell, hl2, Array.getElem_modify_self, hv]
    · rw [List.length_map, List.length_set, Nat.mul_one, List.map_set, ← htake]
      simp [Array.set!, List.take_set]
theorem OwnV.cellT {w : World} {B : Nat} {v : Value} {R : List (List UInt8)} (own : OwnV w B 9 v (R.map encStr)) {g n c : Nat} (ev : v = .slice (some ⟨g, 0, none⟩) n c) {i : Nat} {t : List UInt8} (hi : R[i]? = some t) : (Instr.loadAt 9 (.pointer (some ⟨g, 0 + i, none⟩))).run Tryd.prog w = .ok (.string ⟨t.toArray⟩) w := by
  obtain ⟨a, cap, e1, _, hv, _⟩ := own.open
  rw [ev] at e1
  injection e1 with e1 _ _
  rcases hv with h | ⟨b, off, e2, hc⟩
  · have : R = [] := by simpa using h
    rw [this] at hi; cases hi
  · rw [e2] at e1
    injection e1 with e1
    injection e1 with e1 e3
    subst e1 e3
    have hcell : w.cell? ⟨g, 0 + i, none⟩ = some (.string ⟨t.toArray⟩) := hc i (encStr t) (by rw [List.getElem?_map, hi]; rfl)
    rw [Nat.zero_add] at hcell ⊢
    go_simp
theorem lss_tx (s t : List UInt8) (W : World) : (binOp .lss 9 (.string ⟨s.toArray⟩) (.string ⟨t.toArray⟩)).run Tryd.prog W = .ok (.bool (decide (s < t))) W := by
  rw [← less_lt]
  have e : ∀ l : List UInt8, (⟨l.toArray⟩ : ByteArray).toList = l := fun l => by rw [ByteArray.toList_eq]
  rw [binOp_string_lss, e, e]
  rfl
structure InS (W1 : World) (lv : Value) (S : List (List UInt8)) (x : List UInt8) (k : Nat) (W : World) : Prop where
  own : OwnV W W1.heap.size 9 lv ((insL S x k).map encStr)
  bel : Below W1.heap.size W1 W
  le : k ≤ S.length
  dr : ∀ z ∈ S.drop k, leB x z = true
theorem rf_keys {B : Nat} {w : World} {d : Nat} {X : Sls} {v : SlV} {pv : Value} {D : List (SlV × Sls)} (h : RfP B w d X v pv D) (hn : X.length ≤ 1500000000000) {o : IdK} (ho : o.ok) :
    Calls Tryd.prog 42 #[.pointer (some ⟨d, 0, none⟩), o.v] w fun e w' => ∃ u, e = .returned u ∧ OwnV w' w.heap.size 9 u ((srtT (ksX X o X.length)).map encStr) ∧ Below w.heap.size w w' := by
  obtain ⟨w1, E1, n1, b1⟩ := box_id w o
  have h1 := h.below b1
  obtain ⟨a, c, ev, hat⟩ := h1.rfS
  obtain ⟨n, hnn⟩ : ∃ n, X.length = n := ⟨_, rfl⟩
  rw [hnn] at ev hn ⊢
  have HC : Hid (∀ W, Below w1.heap.size w1 W → W.cell? ⟨d, 0, none⟩ = some (.slice a n c) ∧ W.heap[w.heap.size]? = some (.cells o.c.toArray 38 (0, 0))) := fun W b => ⟨by rw [← ev]; exact (cell_of_row W d 0 _ _ _ (h1.below b).cell).trans rfl, (b.block _ (Array.getElem?_eq_some_iff.1 n1).1).trans n1⟩
  have HX : Hid (∀ i, i < n → ∃ q, X[i]? = some q ∧ q.1.1.ok ∧ ∃ g o, a = some ⟨g, o, none⟩ ∧ ∀ W, Below w1.heap.size w1 W → (Instr.loadAt 52 (.pointer (some ⟨g, o + 68 * i + 0, none⟩))).run Tryd.prog W = .ok q.1.1.v W) := by
    intro i hi
    obtain ⟨q, hq⟩ : ∃ q, X[i]? = some q := ⟨_, List.getElem?_eq_getElem (by omega)⟩
    have hqo := (h1.en q (List.mem_of_getElem? hq)).2.1
    refine ⟨q, hq, hqo, ?_⟩
    rcases hat with h | ⟨g, o, e, hl, h2⟩
    · have : X = [] := by simpa [Sls.row] using h
      rw [this] at hq; cases hq
    · exact ⟨g, o, e, fun W b => rt_pl hqo (rangeAt_keep (h2 i q.1 (by rw [Sls.row, List.getElem?_map, hq]; rfl)) (b.block _ hl))⟩
  have H1 := hidMk E1
  have HB := hidMk b1
  obtain ⟨ob, hob⟩ : ∃ b, w.heap.size = b := ⟨_, rfl⟩
  have HOB := hidMk hob
  rw [hob] at H1 HC
  clear h h1 E1 n1 b1 ev hat hnn hob
  go_enter Tryd.func42, Tryd.ntmps42
  go_wp2_with (first
    | (refine wpList_run rfl (exec_boxE (t := 38) (v := o.v) (u := .pointer (some ⟨ob, 0, none⟩)) (w2 := w1) rfl rfl H1.out) ?_)
    | fail)
  clear H1
  go_loopw [5, 6] (fun v5 v6 wx => ∃ i : Nat, v6 = .int .i64 (i : Int) ∧ i ≤ n ∧ Hid (∃ sv : SlV, v5 = sv.v ∧ OwnV wx w1.heap.size 9 sv.v ((srtT (ksX X o i)).map encStr) ∧ Below w1.heap.size w1 wx)) (fun _ v6 wx => n - (match v6 with | .int _ i => i.toNat | _ => 0))
  case atStart => exact ⟨0, rfl, Nat.zero_le _, ⟨none, 0, 0⟩, rfl, by rw [show srtT (ksX X o 0) = [] by simp [ksX, srtT]]; exact ⟨rfl, .inl ⟨rfl, rfl⟩⟩, Below.refl _ _⟩
  case round =>
    obtain ⟨i, rfl, hin, HI⟩ := hrel
    obtain ⟨sv, rfl, hown, hbel⟩ := HI.out
    have HO := hidMk hown
    have HBE := hidMk hbel
    clear HI hown hbel
    have c0 := (HC.out wr HBE.out).1
    by_cases hi : i < n
    · obtain ⟨q, hq, hqo, g, go, ea, hlq⟩ := HX.out i hi
      subst ea
      obtain ⟨p, hp⟩ : ∃ p, q.1.1 = p := ⟨_, rfl⟩
      rw [hp] at hqo hlq
      have HQ := hidMk (And.intro hq hp)
      obtain ⟨wa, wb, EA, EB, nb, bb⟩ := pl_new wr hqo
      have h63 : n ≤ 9223372036854775807 := by omega
      have L1 : Hid ((Instr.loadAt 85 (.pointer (some ⟨d, 0 + 0, none⟩))).run Tryd.prog wr = .ok (.slice (some ⟨g, go, none⟩) n c) wr) := by
        have : (Instr.loadAt 85 (.pointer (some ⟨d, 0 + 0, none⟩))).run Tryd.prog wr = .ok (.slice (some ⟨g, go, none⟩) n c) wr := by go_simp
        exact this
      have L2 := hidMk (hlq wr HBE.out)
      have HAB := hidMk (And.intro EA EB)
      have HNB := hidMk (And.intro nb (And.intro bb (HBE.out.trans (bb.mono HBE.out.size))))
      clear hq hp hlq EA EB nb bb
      go_upto_region 5 with fail
      clear c0
      refine rke5 (d := d) (g := g) (o := go) (n := n) (c := c) (i := i) (pb := wr.heap.size) (p := p) (w1 := wa) (w2 := wb) _ wr _ rfl rfl rfl hi h63 (fun W e => by rw [e]; exact L1.out) (fun W e => by rw [e]; exact L2.out) HAB.out.1 HAB.out.2 ?_
      intro a' w3 hf ha
      subst ha
      obtain rfl : wb = w3 := hf.symm
      simp only [Act.put, List.setIfInBounds_toArray, List.set_cons_zero, List.set_cons_succ]
      clear L1 L2 HAB
      have kO : Hid ((Instr.loadAt 38 (.pointer (some ⟨ob, 0, none⟩))).run Tryd.prog wb = .ok o.v wb) := load_id ho (HC.out wb HNB.out.2.2).2
      have kp : Np wr.heap.size p wb := HNB.out.1
      have kPo := hidMk (pl_obj kp hqo)
      have OWB := hidMk (HO.out.below HNB.out.2.1)
      have KS := hidMk (ksX_succ (o := o) HQ.out.1)
      rw [HQ.out.2] at KS
      by_cases h1 : p.o = o
      · have HP1 := hidMk h1
        obtain ⟨r, hr⟩ : ∃ r, decide (p.a ≠ zId) = r := ⟨_, rfl⟩
        have HR := hidMk hr
        have kPa : Hid ((Instr.loadAt 38 (.pointer (some ⟨wr.heap.size, 0 + 34, none⟩))).run Tryd.prog wb = .ok p.a.v wb) := run_loadAt_mid (P := Tryd.prog) wb wr.heap.size 34 38 p.a.c _ (fun j v hv => by
          have := rng_cells kp (34 + j) v (by
            rw [PlK.c, List.getElem?_append_right (by rw [IdK.len hqo.o]; omega), IdK.len hqo.o, show 34 + j - 33 = j + 1 by omega, List.getElem?_cons_succ]
            exact hv)
          rwa [Nat.zero_add] at this) Tryd.underlying38 rfl (by rw [IdK.len hqo.a]; exact szId)
        go_upto_region 6 with fail
        refine rke6y (ob := ob) (pb := wr.heap.size) (p := p) (y := o) (r := r) _ wb _ rfl rfl rfl hqo ho (fun W e => by rw [e]; exact kPo.out) (fun W e => by rw [e]; exact kO.out) h1 hr (fun W e => by rw [e]; exact kPa.out) ?_
        intro a' w4 hf ha
        subst ha
        obtain rfl : wb = w4 := hf.symm
        simp only [Act.put, List.setIfInBounds_toArray, List.set_cons_zero, List.set_cons_succ]
        clear h1 hr kPa kPo kO
        cases r
        · have hz : Hid (p.a = zId) := hidMk (by have := HR.out; simpa using this)
          have e := KS.out
          rw [if_pos ⟨HP1.out, hz.out⟩] at e
          have HE := hidMk e
          have hkl : (ksX X o i).length ≤ i := ksX_len _ _ _
          obtain ⟨bv, wd, u2, we, E1, bd, E2, o2, t2⟩ := run_pushT p.k OWB.out HNB.out.2.2.size (by rw [List.length_map, srtT_len]; omega)
          obtain ⟨ua, uc, eu, _⟩ := o2.open
          rw [List.length_append, List.length_map, srtT_len] at eu
          obtain ⟨ln, hln⟩ : ∃ l, (ksX X o i).length = l := ⟨_, rfl⟩
          rw [hln] at eu hkl
          obtain ⟨ug, rfl⟩ : ∃ ug, ua = some ⟨ug, 0, none⟩ := by
            rcases o2.2 with ⟨_, hz⟩ | ⟨gb, cap, cur, e, _⟩
            · simp at hz
            · rw [e] at eu; injection eu with e1; exact ⟨gb, e1.symm⟩
          have hle : ln + 1 = (srtT (ksX X o i)).length + 1 := by rw [srtT_len, hln]
          have IS : Hid (InS w1 u2 (srtT (ksX X o i)) p.k.data.toList ln we) := by
            have bel : Below w1.heap.size w1 we := HNB.out.2.2.trans (t2.below HNB.out.2.2.size (fun j e => (OWB.out.ge j e).1))
            refine ⟨?_, bel, by omega, fun z hz => by rw [List.drop_of_length_le (by omega)] at hz; cases hz⟩
            unfold insL
            rw [List.take_of_length_le (by omega), List.drop_of_length_le (by omega), List.map_append]
            exact o2
          have HEE := hidMk (And.intro E1 E2)
          have LK : Hid ((Instr.loadAt 9 (.pointer (some ⟨wr.heap.size, 0 + 33, none⟩))).run Tryd.prog wb = .ok (.string p.k) wb) := by
            have hc : wb.cell? ⟨wr.heap.size, 33, none⟩ = some (.string p.k) := by
              have := rng_cells kp 33 (.string p.k) (by rw [PlK.c, List.getElem?_append_right (by rw [IdK.len hqo.o]; omega), IdK.len hqo.o]; rfl)
              rwa [Nat.zero_add] at this
            have : (Instr.loadAt 9 (.pointer (some ⟨wr.heap.size, 0 + 33, none⟩))).run Tryd.prog wb = .ok (.string p.k) wb := by go_simp
            exact this
          have EU := hidMk eu
          clear E1 E2 bd o2 t2 e kp
          go_upto_region 7 with fail
          refine rke7 (pb := wr.heap.size) (lv := sv.v) (bv := bv) (u := u2) (p := p) (w1 := wd) (w2 := we) _ wb _ rfl rfl rfl (fun W e => by rw [e]; exact LK.out) HEE.out.1 HEE.out.2 ?_
          intro a' w5 hf ha
          subst ha
          obtain rfl : we = w5 := hf.symm
          simp only [Act.put, List.setIfInBounds_toArray, List.set_cons_zero, List.set_cons_succ]
          rw [eu]
          rw [eu] at IS
          obtain ⟨S, hS⟩ : ∃ S, srtT (ksX X o i) = S := ⟨_, rfl⟩
          have HSS := hidMk (And.intro hS (srtT_sorted (ksX X o i)))
          obtain ⟨x, hx⟩ : ∃ x, p.k.data.toList = x := ⟨_, rfl⟩
          have HXX := hidMk hx
          have HLE := hidMk hle
          rw [hS, hx] at IS
          clear HEE LK eu EU hS hx hle OWB hln
          generalize wr = wC at *
          have hsub : ((ln + 1 : Nat) : Int) - 1 = (ln : Int) := by omega
          go_wp2
          go_loopw [8] (fun v8 wx => ∃ k : Nat, v8 = .int .i64 (k : Int) ∧ k ≤ ln ∧ Hid (InS w1 (.slice (some ⟨ug, 0, none⟩) (ln + 1) uc) S x k wx)) (fun v8 wx => (match v8 with | .int _ i => i.toNat | _ => 0))
          case atStart => exact ⟨ln, by first | rfl | (congr 1; omega), Nat.le_refl _, IS⟩
          case round =>
            clear IS hsub
            obtain ⟨k, rfl, hk, HI⟩ := hrel
            have h63l : ln + 1 ≤ 9223372036854775807 := by omega
            have FINI : Hid (∀ k W, InS w1 (.slice (some ⟨ug, 0, none⟩) (ln + 1) uc) S x k W → (∀ j z, j + 1 = k → S[j]? = some z → leB z x = true) → OwnV W w1.heap.size 9 (SlV.v ⟨some ⟨ug, 0, none⟩, ln + 1, uc⟩) ((srtT (ksX X o (i + 1))).map encStr)) := by
              intro k W hs hz
              rw [HE.out, srtT_snoc, HXX.out, HSS.out.1]
              have hsr := HSS.out.2
              rw [HSS.out.1] at hsr
              rw [← insL_sorted hsr hs.le hs.dr hz]
              exact hs.own
            rcases Nat.eq_zero_or_pos k with rfl | hpos
            · go_upto_region 9 with fail
              refine rke9n (g := ug) (o := 0) (n := ln + 1) (c := uc) (k := 0) _ wr _ rfl rfl rfl rfl ?_
              intro a' w6 hf ha
              subst ha
              simp only [Act.put, List.setIfInBounds_toArray, List.set_cons_zero, List.set_cons_succ]
              have bdd : Below wr.heap.size wr w6 := by rw [hf]; exact (Below.refl _ _).drew
              have OK6 := hidMk (And.intro ((FINI.out 0 wr HI.out (fun j z e => by omega)).below bdd) (HI.out.bel.trans (bdd.mono HI.out.bel.size)))
              clear hf bdd HI FINI
              go_wp2
              rw [show ((i : Int) + 1) = ((i + 1 : Nat) : Int) by omega]
              refine ⟨⟨i + 1, rfl, hi, ⟨some ⟨ug, 0, none⟩, ln + 1, uc⟩, rfl, OK6.out.1, OK6.out.2⟩, ?_⟩
              show n - ((i + 1 : Nat) : Int).toNat < n - (i : Int).toNat
              omega
            · obtain ⟨j, hjk⟩ : ∃ j, j + 1 = k := ⟨k - 1, by omega⟩
              have hSl : S.length = ln := by have := HLE.out; rw [HSS.out.1] at this; omega
              obtain ⟨y, hy⟩ : ∃ y, S[j]? = some y := ⟨_, List.getElem?_eq_getElem (by omega)⟩
              have gx := insL_get (x := x) HI.out.le
              have gy := (insL_prev (x := x) hjk HI.out.le).trans hy
              have bd : Below wr.heap.size wr wr.drew := (Below.refl _ _).drew
              have ownd := HI.out.own.below bd
              have L1 := hidMk (ownd.cellT rfl gx)
              have L2 := hidMk (ownd.cellT rfl gy)
              obtain ⟨r, hr⟩ : ∃ r, decide (x < y) = r := ⟨_, rfl⟩
              have HR := hidMk hr
              have HY := hidMk (And.intro hy (And.intro gx (And.intro gy (And.intro ownd hSl))))
              clear hy gx gy ownd hSl
              go_upto_region 9 with fail
              refine rke9y (g := ug) (o := 0) (n := ln + 1) (c := uc) (k := k) (j := j) (s := ⟨x.toArray⟩) (t := ⟨y.toArray⟩) (r := r) _ wr _ rfl rfl rfl hjk (by omega) (by omega) (by omega) h63l (fun W e => by rw [e]; exact L1.out) (fun W e => by rw [e]; exact L2.out) (fun W => by rw [← hr]; exact lss_tx x y W) ?_
              intro a' w6 hf ha
              subst ha
              subst hf
              simp only [Act.put, List.setIfInBounds_toArray, List.set_cons_zero, List.set_cons_succ]
              clear hr
              cases r
              · have hyx : leB y x = true := by
                  have : ¬ x < y := of_decide_eq_false HR.out
                  simp only [leB, decide_eq_true_eq]
                  exact List.not_lt.1 this
                have OK6 := hidMk (And.intro ((FINI.out k wr HI.out (fun j2 z e1 e2 => by
                  have : j2 = j := by omega
                  subst this
                  rw [HY.out.1] at e2
                  cases e2
                  exact hyx)).below bd) (HI.out.bel.trans (bd.mono HI.out.bel.size)))
                clear hyx HI FINI L1 L2 HY HR bd
                go_wp2
                rw [show ((i : Int) + 1) = ((i + 1 : Nat) : Int) by omega]
                refine ⟨⟨i + 1, rfl, hi, ⟨some ⟨ug, 0, none⟩, ln + 1, uc⟩, rfl, OK6.out.1, OK6.out.2⟩, ?_⟩
                show n - ((i + 1 : Nat) : Int).toNat < n - (i : Int).toNat
                omega
              · have hxy : x < y := of_decide_eq_true HR.out
                have hlen := insL_len (x := x) HI.out.le
                obtain ⟨wp, EP, op, tp, hug⟩ := own_setT HY.out.2.2.2.1 rfl (i := k) (by rw [hlen, HY.out.2.2.2.2]; omega) y
                obtain ⟨wq, EQ, oq, tq, _⟩ := own_setT op rfl (i := j) (by rw [List.length_set, hlen, HY.out.2.2.2.2]; omega) x
                rw [insL_swap hjk HY.out.1] at oq
                have beld := HI.out.bel.trans (bd.mono HI.out.bel.size)
                have belq : Below w1.heap.size w1 wq := (beld.trans (tp.below beld.size (fun j e => by rw [e]; exact hug))).trans (tq.below (Nat.le_trans beld.size tp.size) (fun j e => by rw [e]; exact hug))
                have NS : Hid (InS w1 (.slice (some ⟨ug, 0, none⟩) (ln + 1) uc) S x j wq) := ⟨oq, belq, by have := HI.out.le; omega, fun z hz => by
                  rw [List.drop_eq_getElem_cons (List.getElem?_eq_some_iff.1 HY.out.1).1, (List.getElem?_eq_some_iff.1 HY.out.1).2, hjk] at hz
                  rcases List.mem_cons.1 hz with rfl | hz
                  · simp only [leB, decide_eq_true_eq]; exact List.le_of_lt hxy
                  · exact HI.out.dr z hz⟩
                have HEP := hidMk (And.intro EP EQ)
                clear EP EQ op oq tp tq belq beld hug hlen hxy HI FINI HR bd
                go_upto_region 11 with fail
                refine rke11 (g := ug) (o := 0) (n := ln + 1) (c := uc) (k := k) (s := ⟨x.toArray⟩) _ wr.drew _ rfl rfl rfl (by omega) h63l (fun W e => by rw [e]; exact L1.out) ?_
                intro a' w6 hf ha
                subst ha
                subst hf
                simp only [Act.put, List.setIfInBounds_toArray, List.set_cons_zero, List.set_cons_succ]
                go_upto_region 12 with fail
                refine rke12 (g := ug) (o := 0) (n := ln + 1) (c := uc) (k := k) (j := j) (t := ⟨y.toArray⟩) (w1 := wp) _ wr.drew _ rfl rfl rfl hjk (by omega) (by omega) (by omega) h63l (fun W e => by rw [e]; exact L2.out) HEP.out.1 ?_
                intro a' w6 hf ha
                subst ha
                obtain rfl : wp = w6 := hf.symm
                simp only [Act.put, List.setIfInBounds_toArray, List.set_cons_zero, List.set_cons_succ]
                go_upto_region 13 with fail
                refine rke13 (g := ug) (o := 0) (n := ln + 1) (c := uc) (k := k) (j := j) (s := ⟨x.toArray⟩) (w1 := wq) _ wp _ rfl rfl rfl rfl hjk (by omega) (by omega) h63l HEP.out.2 ?_
                intro a' w6 hf ha
                subst ha
                obtain rfl : wq = w6 := hf.symm
                simp only [Act.put, List.setIfInBounds_toArray, List.set_cons_zero, List.set_cons_succ]
                clear HEP L1 L2 HY
                go_wp2
                refine ⟨⟨j, by congr 1; omega, by omega, NS.out⟩, ?_⟩
                show Int.toNat _ < Int.toNat _
                omega
        · have hz : Hid (¬ (p.o = o ∧ p.a = zId)) := hidMk (by have := HR.out; simp at this; exact fun h => this h.2)
          have e := KS.out
          rw [if_neg hz.out] at e
          have HE := hidMk e
          clear e kp
          go_wp2
          rw [show ((i : Int) + 1) = ((i + 1 : Nat) : Int) by omega]
          refine ⟨⟨i + 1, rfl, hi, sv, rfl, by rw [HE.out]; exact OWB.out, HNB.out.2.2⟩, ?_⟩
          show n - ((i + 1 : Nat) : Int).toNat < n - (i : Int).toNat
          omega
      · have HP1 := hidMk h1
        go_upto_region 6 with fail
        refine rke6n (ob := ob) (pb := wr.heap.size) (p := p) (y := o) _ wb _ rfl rfl rfl hqo ho (fun W e => by rw [e]; exact kPo.out) (fun W e => by rw [e]; exact kO.out) h1 ?_
        intro a' w4 hf ha
        subst ha
        obtain rfl : wb = w4 := hf.symm
        simp only [Act.put, List.setIfInBounds_toArray, List.set_cons_zero, List.set_cons_succ]
        have e := KS.out
        rw [if_neg (fun h => HP1.out h.1)] at e
        have HE := hidMk e
        clear e h1 kp kPo kO
        go_wp2
        rw [show ((i : Int) + 1) = ((i + 1 : Nat) : Int) by omega]
        refine ⟨⟨i + 1, rfl, hi, sv, rfl, by rw [HE.out]; exact OWB.out, HNB.out.2.2⟩, ?_⟩
        show n - ((i + 1 : Nat) : Int).toNat < n - (i : Int).toNat
        omega
    · obtain rfl : i = n := by omega
      go_wp2
      go_ret
      exact ⟨sv.v, rfl, ownsRow_base_a HO.out (by have := HB.out.size; exact this), HB.out.trans (HBE.out.mono HB.out.size)⟩
end Go.Proofs.YtldlljobofnmmaaDoor
namespace Go.Proofs.YtldlljobofnmmaaDoor
open Go.RowKit
set_option linter.unusedVariables false
set_option linter.unusedSimpArgs false
section
open Ieee
theorem signed_zero {s : Bool} {m k : Nat} (h : signed s m k = 0) : m = 0 := by
  unfold signed at h
  rw [Nat.shiftLeft_eq] at h
  generalize hz : m * 2 ^ k = z at h
  have : m * 2 ^ k = 0 := by
    cases s
    · simp at h; omega
    · simp at h; omega
  rcases Nat.mul_eq_zero.1 this with h | h
  · exact h
  · exact absurd h (by have := Nat.two_pow_pos k; omega)
theorem ord_zero {f : Nat} (h : (Ieee.double.order f 0 == some .eq) = true) : f % 2 ^ 63 = 0 := by
  have e1 : Ieee.double.signWeight = 2 ^ 63 := rfl
  have e2 : Ieee.double.binade = 2 ^ 52 := rfl
  have e3 : Ieee.double.infRung = 2047 * 2 ^ 52 := rfl
  have h' : Ieee.double.order f 0 = some .eq := by simpa using h
  have z : Ieee.double.read 0 = .number false 0 Ieee.double.leastPlace := by decide +kernel
  have key : ∀ s m i, Datum.order (.number s m i) (.number false 0 Ieee.double.leastPlace) = some .eq → m = 0 := fun s m i q => by
    simp only [Datum.order, Option.some.injEq] at q
    have q2 := Std.LawfulEqCmp.eq_of_compare q
    have : signed false 0 (Ieee.double.leastPlace - min i Ieee.double.leastPlace).toNat = 0 := by simp [signed]
    rw [this] at q2
    exact signed_zero q2
  unfold Ieee.Format.order at h'
  rw [z] at h'
  unfold Ieee.Format.read at h'
  rw [e1, e2, e3] at h'
  simp only at h'
  split at h'
  · exact key _ _ _ h'
  · split at h'
    · have := key _ _ _ h'
      omega
    · split at h'
      · simp only [Datum.order, Option.some.injEq] at h'
        split at h' <;> cases h'
      · cases h'
end
theorem f_zero {f : Nat} (hf : f < 18446744073709551616) (h : (FloatKind.f64.format.order f 0 == some .eq) = true) : f = 0 ∨ f = 9223372036854775808 := by
  have := ord_zero h
  omega
theorem same_self {x : VaV} (hx : x.ok) (w : World) : Calls Tryd.prog 22 #[x.v, x.v] w fun e w' => e = .returned (.bool true) ∧ Below w.heap.size w w' := by
  obtain ⟨k, n, f, t⟩ := x
  have hf := hx.ff
  simp only at hf
  clear hx
  show Calls Tryd.prog 22 #[.agg #[.int .u8 k, .int .i64 n, .float .f64 f, .string t], .agg #[.int .u8 k, .int .i64 n, .float .f64 f, .string t]] w _
  have k1 : (k != k) = false := by simp
  have n1 : (n != n) = false := by simp
  have t1 : (t.toList != t.toList) = false := by simp
  by_cases z1 : (FloatKind.f64.format.order f f == some .eq) = true
  · have z2 : (FloatKind.f64.format.order f f != some .eq) = false := by rw [bne, z1]; rfl
    by_cases z3 : (FloatKind.f64.format.order f 0 == some .eq) = true
    · have z4 : (FloatKind.f64.format.order f 0 != some .eq) = false := by rw [bne, z3]; rfl
      obtain ⟨q, hq, hqq⟩ : ∃ q, (∀ W, (binOp .quo 40 (.float .f64 4607182418800017408) (.float .f64 f)).run Tryd.prog W = .ok (.float .f64 q) W) ∧ (FloatKind.f64.format.order q q == some .eq) = true := by
        rcases f_zero hf z3 with rfl | rfl
        · exact ⟨9218868437227405312, fun W => run_float_arith W .quo 40 .f64 _ _ _ (by decide +kernel), by decide +kernel⟩
        · exact ⟨18442240474082181120, fun W => run_float_arith W .quo 40 .f64 _ _ _ (by decide +kernel), by decide +kernel⟩
      clear hf
      go_enter Tryd.func22, Tryd.ntmps22
      go_wp2
      go_ret
      exact ⟨rfl, belN2 _ _ _⟩
    · replace z3 : (FloatKind.f64.format.order f 0 == some .eq) = false := by simpa using z3
      have z4 : (FloatKind.f64.format.order f 0 != some .eq) = true := by rw [bne, z3]; rfl
      clear hf
      go_enter Tryd.func22, Tryd.ntmps22
      go_wp2
      go_ret
      exact ⟨rfl, belN2 _ _ _⟩
  · replace z1 : (FloatKind.f64.format.order f f == some .eq) = false := by simpa using z1
    have z2 : (FloatKind.f64.format.order f f != some .eq) = true := by rw [bne, z1]; rfl
    clear hf
    go_enter Tryd.func22, Tryd.ntmps22
    go_wp2
    go_ret
    exact ⟨rfl, belN2 _ _ _⟩
def sme6_o0 : Oper := ⟨some 17, .move (.tmp 0), 60, "mem.go:127", #[], none⟩
def sme6_o1 : Oper := ⟨some 18, .move (.tmp 5), 3, "mem.go:127", #[], none⟩
def sme6_o2 : Oper := ⟨some 19, .indexAddr 60 (.tmp 17) (.tmp 18), 0, "mem.go:127", #[⟨0, .data⟩, ⟨1, .data⟩], none⟩
def sme6_o3 : Oper := ⟨some 20, .fieldAddr 63 (.tmp 19) 0, 0, "mem.go:127", #[⟨2, .data⟩], none⟩
def sme6_o4 : Oper := ⟨some 21, .load 38 (.tmp 20), 38, "mem.go:127", #[⟨3, .data⟩], none⟩
def sme6_o5 : Oper := ⟨some 22, .move (.tmp 1), 60, "mem.go:127", #[], none⟩
def sme6_o6 : Oper := ⟨some 23, .move (.tmp 5), 3, "mem.go:127", #[], none⟩
def sme6_o7 : Oper := ⟨some 24, .indexAddr 60 (.tmp 22) (.tmp 23), 0, "mem.go:127", #[⟨5, .data⟩, ⟨6, .data⟩], none⟩
def sme6_o8 : Oper := ⟨some 25, .fieldAddr 63 (.tmp 24) 0, 0, "mem.go:127", #[⟨7, .data⟩], none⟩
def sme6_o9 : Oper := ⟨some 26, .load 38 (.tmp 25), 38, "mem.go:127", #[⟨8, .data⟩], none⟩
def sme6_o10 : Oper := ⟨some 27, .binOp BinOp.neq 38 (.tmp 21) (.tmp 26) 38, 4, "mem.go:127", #[⟨4, .data⟩, ⟨9, .data⟩], none⟩
def sme6_o11 : Oper := ⟨some 28, .move (.tmp 27), 4, "mem.go:127", #[⟨10, .data⟩], none⟩
def sme6_o12 : Oper := ⟨some 29, .move (.tmp 0), 60, "mem.go:127", #[⟨11, .guard⟩], some (11, false)⟩
def sme6_o13 : Oper := ⟨some 30, .move (.tmp 5), 3, "mem.go:127", #[⟨11, .guard⟩], some (11, false)⟩
def sme6_o14 : Oper := ⟨some 31, .indexAddr 60 (.tmp 29) (.tmp 30), 0, "mem.go:127", #[⟨12, .data⟩, ⟨13, .data⟩, ⟨11, .guard⟩], some (11, false)⟩
def sme6_o15 : Oper := ⟨some 32, .fieldAddr 63 (.tmp 31) 1, 0, "mem.go:127", #[⟨14, .data⟩, ⟨11, .guard⟩], some (11, false)⟩
def sme6_o16 : Oper := ⟨some 33, .load 42 (.tmp 32), 42, "mem.go:127", #[⟨15, .data⟩, ⟨11, .guard⟩], some (11, false)⟩
def sme6_o17 : Oper := ⟨some 34, .move (.tmp 1), 60, "mem.go:127", #[⟨11, .guard⟩], some (11, false)⟩
def sme6_o18 : Oper := ⟨some 35, .move (.tmp 5), 3, "mem.go:127", #[⟨11, .guard⟩], some (11, false)⟩
def sme6_o19 : Oper := ⟨some 36, .indexAddr 60 (.tmp 34) (.tmp 35), 0, "mem.go:127", #[⟨17, .data⟩, ⟨18, .data⟩, ⟨11, .guard⟩], some (11, false)⟩
def sme6_o20 : Oper := ⟨some 37, .fieldAddr 63 (.tmp 36) 1, 0, "mem.go:127", #[⟨19, .data⟩, ⟨11, .guard⟩], some (11, false)⟩
def sme6_o21 : Oper := ⟨some 38, .load 42 (.tmp 37), 42, "mem.go:127", #[⟨20, .data⟩, ⟨11, .guard⟩], some (11, false)⟩
def sme6_o22 : Oper := ⟨some 39, .call { callee := Callee.value (Operand.func 22), args := #[.tmp 33, .tmp 38], argTypes := #[42, 42] }, 4, "mem.go:127", #[⟨16, .data⟩, ⟨21, .data⟩, ⟨11, .chain⟩, ⟨11, .guard⟩], some (11, false)⟩
def sme6_o23 : Oper := ⟨some 40, .unOp UnOp.not 4 (.tmp 39), 4, "mem.go:127", #[⟨22, .data⟩, ⟨11, .guard⟩], some (11, false)⟩
def sme6_o24 : Oper := ⟨some 41, .pick (.tmp 28) (Operand.const (Value.bool true)) (.tmp 40), 4, "mem.go:127", #[⟨11, .data⟩, ⟨23, .data⟩], none⟩
def sme6_ops : Array Oper := #[sme6_o0, sme6_o1, sme6_o2, sme6_o3, sme6_o4, sme6_o5, sme6_o6, sme6_o7, sme6_o8, sme6_o9, sme6_o10, sme6_o11, sme6_o12, sme6_o13, sme6_o14, sme6_o15, sme6_o16, sme6_o17, sme6_o18, sme6_o19, sme6_o20, sme6_o21, sme6_o22, sme6_o23, sme6_o24]
theorem sme6 {g o n c k q d i : Nat} {x : EnV} (S : World → Prop) (a : Act) (w : World) (Q : Exit → Act → World → Prop) (zz : a.tmps.size = 42)
    (t0 : a.tmps.getD 0 undef = .slice (some ⟨g, o, none⟩) n c)
    (t1 : a.tmps.getD 1 undef = .slice (some ⟨k, q, none⟩) n d)
    (t5 : a.tmps.getD 5 undef = .int .i64 (i : Int))
    (hx : x.ok) (hi : i < n) (hm : n ≤ 9223372036854775807) (h0 : S w.drew) (L1 : ∀ W, S W → (Instr.loadAt 38 (.pointer (some ⟨g, o + 37 * i + 0, none⟩))).run Tryd.prog W = .ok (x.id.v) W) (L2 : ∀ W, S W → (Instr.loadAt 38 (.pointer (some ⟨k, q + 37 * i + 0, none⟩))).run Tryd.prog W = .ok (x.id.v) W) (L3 : ∀ W, S W → (Instr.loadAt 42 (.pointer (some ⟨g, o + 37 * i + 33, none⟩))).run Tryd.prog W = .ok (x.v.v) W) (L4 : ∀ W, S W → (Instr.loadAt 42 (.pointer (some ⟨k, q + 37 * i + 33, none⟩))).run Tryd.prog W = .ok (x.v.v) W) (CS : Calls Tryd.prog 22 #[x.v.v, x.v.v] w.drew fun e w' => e = .returned (.bool true) ∧ S w')
    (h : ∀ (a' : Act) (w' : World), S w' → a' = (((((((((((((((((((((((((a).put (some 17) (.slice (some ⟨g, o, none⟩) n c)).put (some 18) (.int .i64 (i : Int))).put (some 19) (.pointer (some ⟨g, o + 37 * i, none⟩))).put (some 20) (.pointer (some ⟨g, o + 37 * i + 0, none⟩))).put (some 21) (x.id.v)).put (some 22) (.slice (some ⟨k, q, none⟩) n d)).put (some 23) (.int .i64 (i : Int))).put (some 24) (.pointer (some ⟨k, q + 37 * i, none⟩))).put (some 25) (.pointer (some ⟨k, q + 37 * i + 0, none⟩))).put (some 26) (x.id.v)).put (some 27) (.bool false)).put (some 28) (.bool false)).put (some 29) (.slice (some ⟨g, o, none⟩) n c)).put (some 30) (.int .i64 (i : Int))).put (some 31) (.pointer (some ⟨g, o + 37 * i, none⟩))).put (some 32) (.pointer (some ⟨g, o + 37 * i + 33, none⟩))).put (some 33) (x.v.v)).put (some 34) (.slice (some ⟨k, q, none⟩) n d)).put (some 35) (.int .i64 (i : Int))).put (some 36) (.pointer (some ⟨k, q + 37 * i, none⟩))).put (some 37) (.pointer (some ⟨k, q + 37 * i + 33, none⟩))).put (some 38) (x.v.v)).put (some 39) (.bool true)).put (some 40) (.bool false)).put (some 41) (.bool false) → Q .normal a' w') :
    (Code.region 6 sme6_ops true).wp Tryd.prog Q a w := by
  refine y0 (fun w' => S w') (h0) (fun hHeld => ?_)
  refine yv 0 rfl rfl (fun w1 hw => exec_move rfl (zi t0 rfl)) hHeld ?_
  refine yv 1 rfl rfl (fun w1 hw => exec_move rfl (zi t5 rfl)) hHeld ?_
  refine yv 2 rfl rfl (fun w1 hw => exec_indexAt rfl (zg zz rfl) (zg zz rfl) (ix_en hi hm _)) hHeld ?_
  refine yv 3 rfl rfl (fun w1 hw => exec_fieldAt rfl (zg zz rfl) (fg_63_0 _ _ _)) hHeld ?_
  refine yv 4 rfl rfl (fun w1 hw => exec_load rfl (zg zz rfl) (L1 _ hw)) hHeld ?_
  refine yv 5 rfl rfl (fun w1 hw => exec_move rfl (zi t1 rfl)) hHeld ?_
  refine yv 6 rfl rfl (fun w1 hw => exec_move rfl (zi t5 rfl)) hHeld ?_
  refine yv 7 rfl rfl (fun w1 hw => exec_indexAt rfl (zg zz rfl) (zg zz rfl) (ix_en hi hm _)) hHeld ?_
  refine yv 8 rfl rfl (fun w1 hw => exec_fieldAt rfl (zg zz rfl) (fg_63_0 _ _ _)) hHeld ?_
  refine yv 9 rfl rfl (fun w1 hw => exec_load rfl (zg zz rfl) (L2 _ hw)) hHeld ?_
  refine yv (v := .bool false) 10 rfl rfl (fun w1 hw => ex_neqX hx.i rfl (zg zz rfl) (zg zz rfl)) hHeld ?_
  refine yv 11 rfl rfl (fun w1 hw => exec_move rfl (zg zz rfl)) hHeld ?_
  refine yv 12 rfl (zw zz rfl rfl rfl (zg zz rfl)) (fun w1 hw => exec_move rfl (zi t0 rfl)) hHeld ?_
  refine yv 13 rfl (zw zz rfl rfl rfl (zg zz rfl)) (fun w1 hw => exec_move rfl (zi t5 rfl)) hHeld ?_
  refine yv 14 rfl (zw zz rfl rfl rfl (zg zz rfl)) (fun w1 hw => exec_indexAt rfl (zg zz rfl) (zg zz rfl) (ix_en hi hm _)) hHeld ?_
  refine yv 15 rfl (zw zz rfl rfl rfl (zg zz rfl)) (fun w1 hw => exec_fieldAt rfl (zg zz rfl) (fg_63_1 _ _ _)) hHeld ?_
  refine yv 16 rfl (zw zz rfl rfl rfl (zg zz rfl)) (fun w1 hw => exec_load rfl (zg zz rfl) (L3 _ hw)) hHeld ?_
  refine yv 17 rfl (zw zz rfl rfl rfl (zg zz rfl)) (fun w1 hw => exec_move rfl (zi t1 rfl)) hHeld ?_
  refine yv 18 rfl (zw zz rfl rfl rfl (zg zz rfl)) (fun w1 hw => exec_move rfl (zi t5 rfl)) hHeld ?_
  refine yv 19 rfl (zw zz rfl rfl rfl (zg zz rfl)) (fun w1 hw => exec_indexAt rfl (zg zz rfl) (zg zz rfl) (ix_en hi hm _)) hHeld ?_
  refine yv 20 rfl (zw zz rfl rfl rfl (zg zz rfl)) (fun w1 hw => exec_fieldAt rfl (zg zz rfl) (fg_63_1 _ _ _)) hHeld ?_
  refine yv 21 rfl (zw zz rfl rfl rfl (zg zz rfl)) (fun w1 hw => exec_load rfl (zg zz rfl) (L4 _ hw)) hHeld ?_
  refine yc 22 rfl (zw zz rfl rfl rfl (zg zz rfl)) (exec_c2 rfl (zg zz rfl) (zg zz rfl)) (CS) (fun e x22 hx => ?_)
  obtain ⟨rfl, S1⟩ := hx
  refine ⟨_, rfl, S1, fun hHeld => ?_⟩
  refine yv 23 rfl (zw zz rfl rfl rfl (zg zz rfl)) (fun w1 hw => exec_not rfl (zg zz rfl)) hHeld ?_
  refine yv 24 rfl rfl (fun w1 hw => exec_pickF rfl (zg zz rfl) (zg zz rfl)) hHeld ?_
  exact ye rfl (h _ _ (S1) rfl)
theorem same_entries {w : World} {L : List EnV} (ok : ∀ x ∈ L, x.ok) (hn : L.length ≤ 2500000000000) {a b : Option Addr} {c d : Nat} (ha : RN.At w a L) (hb : RN.At w b L) :
    Calls Tryd.prog 30 #[.slice a L.length c, .slice b L.length d] w fun e w' => e = .returned (.bool true) ∧ Below w.heap.size w w' := by
  obtain ⟨n, hnn⟩ : ∃ n, L.length = n := ⟨_, rfl⟩
  have HL := hidMk (And.intro ha (And.intro hb (And.intro ok hnn)))
  rw [hnn] at hn ⊢
  clear ha hb ok hnn
  have hne : ((n : Int) != (n : Int)) = false := by simp
  go_enter Tryd.func30, Tryd.ntmps30
  go_wp2
  clear hne
  go_loopw [5] (fun v5 wr => ∃ i : Nat, v5 = .int .i64 (i : Int) ∧ i ≤ n ∧ Hid (Below w.heap.size w wr)) (fun v5 wr => n - (match v5 with | .int _ i => i.toNat | _ => 0))
  case atStart => exact ⟨0, rfl, Nat.zero_le _, Below.refl _ _⟩
  case round =>
    obtain ⟨i, rfl, hin, HI⟩ := hrel
    by_cases hi : i < n
    · obtain ⟨ha, hb, ok, hnn⟩ := HL.out
      obtain ⟨x, hxi⟩ : ∃ x, L[i]? = some x := ⟨_, List.getElem?_eq_getElem (by omega)⟩
      have hx : x.ok := ok x (List.mem_of_getElem? hxi)
      obtain ⟨g, o, rfl, lg, hr⟩ : ∃ g o, a = some ⟨g, o, none⟩ ∧ g < w.heap.size ∧ w.rangeAt g (o + 37 * i) x.c := by
        rcases ha with h | ⟨g, o, e, h1, h2⟩
        · rw [h] at hxi; cases hxi
        · exact ⟨g, o, e, h1, h2 i x hxi⟩
      obtain ⟨k, q, rfl, lk, hr2⟩ : ∃ g o, b = some ⟨g, o, none⟩ ∧ g < w.heap.size ∧ w.rangeAt g (o + 37 * i) x.c := by
        rcases hb with h | ⟨g, o, e, h1, h2⟩
        · rw [h] at hxi; cases hxi
        · exact ⟨g, o, e, h1, h2 i x hxi⟩
      have R1 := hidMk (fun (W : World) (hw : Below w.heap.size w W) => rangeAt_keep hr (hw.block _ lg))
      have R2 := hidMk (fun (W : World) (hw : Below w.heap.size w W) => rangeAt_keep hr2 (hw.block _ lk))
      have bd : Below w.heap.size w wr.drew := HI.out.drew
      have CS : Hid (Calls Tryd.prog 22 #[x.v.v, x.v.v] wr.drew fun e w' => e = .returned (.bool true) ∧ Below w.heap.size w w') := (same_self hx.w _).mono fun e w' ⟨h1, h2⟩ => ⟨h1, bd.trans (h2.mono bd.size)⟩
      have h63 : n ≤ 9223372036854775807 := by omega
      clear hxi hr hr2 lg lk ha hb ok hnn HI
      go_upto_region 6 with fail
      refine sme6 (g := g) (o := o) (n := n) (c := c) (k := k) (q := q) (d := d) (i := i) (x := x) (fun W => Below w.heap.size w W) _ wr _ rfl rfl rfl rfl hx hi h63 bd (fun W h => en_id hx (R1.out W h)) (fun W h => en_id hx (R2.out W h)) (fun W h => en_va hx (R1.out W h)) (fun W h => en_va hx (R2.out W h)) CS.out ?_
      intro a' w2 hf ha
      subst ha
      simp only [Act.put, List.setIfInBounds_toArray, List.set_cons_zero, List.set_cons_succ]
      have HF := hidMk hf
      clear hf CS R1 R2 bd
      go_wp2
      rw [show ((i : Int) + 1) = ((i + 1 : Nat) : Int) by omega]
      refine ⟨⟨i + 1, rfl, hi, HF.out⟩, ?_⟩
      show n - ((i + 1 : Nat) : Int).toNat < n - (i : Int).toNat
      omega
    · obtain rfl : i = n := by omega
      go_wp2
      go_ret
      exact ⟨rfl, HI.out⟩
structure Pr (w : World) (base : Nat) (s : Rs) (H : List Rec) (B d : Nat) (X : Sls) (v : SlV) (pv : Value) (D : List (SlV × Sls)) : Prop where
  ra : RgAt w base s H
  rf : RfP B w d X v pv D
  eq : ∀ q, entF X q = liOf s.P q
  xl : X.length ≤ 1500000000000
section
variable {w w' : World} {base : Nat} {s : Rs} {H : List Rec} {B d : Nat} {X : Sls} {v : SlV} {pv : Value} {D : List (SlV × Sls)}
theorem Pr.below (h : Pr w base s H B d X v pv D) (b : Below w.heap.size w w') : Pr w' base s H B d X v pv D := ⟨h.ra.below b, h.rf.below b, h.eq, h.xl⟩
theorem Pr.li (h : Pr w base s H B d X v pv D) (p : PlK) : (∀ x ∈ liOf s.P p, x.ok) ∧ (liOf s.P p).length ≤ 2500000000000 := by rw [← h.eq]; exact ent_facts h.rf.en p
theorem li_mem {w : World} {B : Nat} {s : Rs} (h : RgM w B s) (q : PlK) : q ∈ s.P.map (·.1) ↔ liOf s.P q ≠ [] := by
  rw [look_memI]
  unfold liOf
  cases e : M.look s.P q with
  | none => simp
  | some v =>
    have := (h.en (q, v) (M.look_mem e)).2.1
    simpa using this
theorem ent_mem {X : Sls} (hk : SlOk X) (q : PlK) : q ∈ X.map (·.1.1) ↔ entF X q ≠ [] := by
  constructor
  · intro h
    obtain ⟨z, hz, rfl⟩ := List.mem_map.1 h
    rw [ent_of_mem hk hz]
    exact hk.ne z hz
  · intro h
    rcases fnd_ent X q with ⟨_, e⟩ | ⟨i, z, _, hz, e, _⟩
    · exact absurd e h
    · exact List.mem_map.2 ⟨z, List.mem_of_getElem? hz, e⟩
theorem Pr.len (h : Pr w base s H B d X v pv D) : s.P.length = X.length := by
  have h1 : ∀ q, q ∈ s.P.map (·.1) ↔ q ∈ X.map (·.1.1) := fun q => by rw [li_mem h.ra.mem, ent_mem h.rf.ok, h.eq]
  have a := nodup_len h.ra.mem.places (fun q hq => (h1 q).1 hq)
  have b := nodup_len h.rf.ok.nd (fun q hq => (h1 q).2 hq)
  simp only [List.length_map] at a b
  omega
theorem ksX_mem {X : Sls} (hk : SlOk X) (o : IdK) (k : ByteArray) : k ∈ ksX X o X.length ↔ entF X ⟨o, k, zId⟩ ≠ [] := by
  rw [← ent_mem hk]
  unfold ksX
  rw [List.take_length]
  constructor
  · intro h
    obtain ⟨z, hz, rfl⟩ := List.mem_map.1 h
    obtain ⟨hz, e⟩ := List.mem_filter.1 hz
    have e := of_decide_eq_true e
    refine List.mem_map.2 ⟨z, hz, ?_⟩
    rw [← e.1, ← e.2]
  · intro h
    obtain ⟨z, hz, e⟩ := List.mem_map.1 h
    exact List.mem_map.2 ⟨z, List.mem_filter.2 ⟨hz, by rw [e]; simp⟩, by rw [e]⟩
theorem ksX_nodup {X : Sls} (hk : SlOk X) (o : IdK) : (ksX X o X.length).Nodup := by
  unfold ksX
  rw [List.take_length]
  have h := (List.filter_sublist (p := fun q : (PlK × SlV) × List EnV => decide (q.1.1.o = o ∧ q.1.1.a = zId)) (l := X)).map (·.1.1)
  have h2 := h.nodup hk.nd
  refine nodup_of_keys h2 fun a ha b hb e => ?_
  have ea := of_decide_eq_true (List.mem_filter.1 ha).2
  have eb := of_decide_eq_true (List.mem_filter.1 hb).2
  have : ∀ p q : PlK, p.o = q.o → p.k = q.k → p.a = q.a → p = q := fun p q h1 h2 h3 => by cases p; cases q; simp_all
  exact this _ _ (ea.1.trans eb.1.symm) e (ea.2.trans eb.2.symm)
theorem Pr.keys (h : Pr w base s H B d X v pv D) (o : IdK) : srtT (keyL s.K o) = srtT (ksX X o X.length) := by
  refine srtT_perm ((List.perm_ext_iff_of_nodup (keyL_nodup h.ra.mem o) (ksX_nodup h.rf.ok o)).2 fun k => ?_)
  rw [keyL_mem h.ra.mem h.ra.key, ksX_mem h.rf.ok, h.eq]
end
theorem own_at {w : World} {base : Nat} {u : Value} {L : List EnV} (o : RN.Own w base u L) (ok : ∀ x ∈ L, x.ok) : ∃ a c, u = .slice a L.length c ∧ RN.At w a L := by
  obtain ⟨a, c, e, h, _⟩ := o.lo.open RN_is ok
  exact ⟨a, c, e, h⟩
theorem alike_any {w : World} {base : Nat} {s : Rs} {H : List Rec} {B d : Nat} {X : Sls} {v : SlV} {pv : Value} {D : List (SlV × Sls)} (h : Pr w base s H B d X v pv D) {pa : Option Addr} {pc : Nat} {Ps : List PlK} (hP : RowAt 67 PlK.c w pa Ps) (okP : ∀ x ∈ Ps, x.ok) (hPn : Ps.length ≤ 2000000000000) :
    Calls Tryd.prog 12 #[.pointer (some ⟨s.r, 0, none⟩), .pointer (some ⟨d, 0, none⟩), .slice pa Ps.length pc] w fun e w' => e = .returned (.bool true) ∧ Below w.heap.size w w' := by
  have HH := hidMk h
  obtain ⟨pn, hpn⟩ : ∃ n, Ps.length = n := ⟨_, rfl⟩
  obtain ⟨rb, hrb⟩ : ∃ rb, s.r = rb := ⟨_, rfl⟩
  have HRB := hidMk hrb
  have C1 := hidMk (len_any h.ra.mem)
  have C2 := hidMk (rf_len h.rf)
  obtain ⟨xn, hxn⟩ : ∃ n, X.length = n := ⟨_, rfl⟩
  rw [h.len, hxn, hrb] at C1
  rw [hxn] at C2
  have HAT : Hid (∀ W, Below w.heap.size w W → ∀ m : Int, -9223372036854775808 ≤ m ∧ m ≤ 9223372036854775807 → Calls Tryd.prog 15 #[.slice pa pn pc, .int .i64 m] W fun e w' => e = .returned (atP Ps m).v ∧ Below W.heap.size W w') := by
    intro W b m hm
    rw [← hpn]
    exact at_any (hP.below b) okP hPn hm
  have HOK := hidMk (fun m => atP_ok okP m)
  rw [hpn] at hPn ⊢
  rw [hrb]
  clear hP okP hpn h hrb hxn
  go_enter Tryd.func12, Tryd.ntmps12
  go_wp2_with (first
    | (go_at_call 24; refine C1.out.mono ?_; rintro e wL ⟨rfl, hw⟩; obtain rfl : w = wL := hw.symm; clear C1)
    | (go_at_call 39; refine C2.out.mono ?_; rintro e wL ⟨rfl, hw⟩; obtain rfl : w = wL := hw.symm; clear C2)
    | fail)
  go_loopw [7] (fun v7 wx => ∃ m : Nat, v7 = .int .i64 (m : Int) ∧ m ≤ pn + 1 ∧ Hid (Below w.heap.size w wx)) (fun v7 wx => pn + 1 - (match v7 with | .int _ i => i.toNat | _ => 0))
  case atStart => exact ⟨0, rfl, Nat.zero_le _, Below.refl _ _⟩
  case round =>
    obtain ⟨m, rfl, hm, HB⟩ := hrel
    by_cases hm2 : m ≤ pn
    · obtain ⟨p, hp0⟩ : ∃ p, atP Ps (m : Int) = p := ⟨_, rfl⟩
      have hp : p.ok := by rw [← hp0]; exact HOK.out _
      have CA : Hid (Calls Tryd.prog 15 #[.slice pa pn pc, .int .i64 (m : Int)] wr fun e w' => e = .returned p.v ∧ ∃ pb w1 w2, (Instr.alloc 52 true (.tuple #[])).run Tryd.prog w' = .ok (.pointer (some ⟨pb, 0, none⟩)) w1 ∧ (Instr.storeAt 52 (.pointer (some ⟨pb, 0, none⟩)) p.v).run Tryd.prog w1 = .ok () w2 ∧ (Below w.heap.size w w2 ∧ Np pb p w2)) := by
        refine (HAT.out wr HB.out m (by omega)).mono ?_
        rintro e w' ⟨rfl, b⟩
        rw [hp0]
        obtain ⟨w1, w2, e1, e2, n2, b2⟩ := pl_new w' hp
        have b12 := b.trans (b2.mono b.size)
        exact ⟨rfl, w'.heap.size, w1, w2, e1, e2, HB.out.trans (b12.mono HB.out.size), n2⟩
      clear hp0 HB
      go_upto_region 6 with fail
      refine alk6 (m := m) (pn := pn) (pc := pc) (pa := pa) (p := p) (fun pb w' => Below w.heap.size w w' ∧ Np pb p w') _ wr _ rfl rfl rfl CA.out ?_
      intro pb a' w1 hf ha
      subst ha
      simp only [Act.put, List.setIfInBounds_toArray, List.set_cons_zero, List.set_cons_succ]
      have H1 := hidMk hf
      have P1 := hidMk (HH.out.below hf.1)
      clear hf CA
      have KN : Hid (∀ W, Below w1.heap.size w1 W → Np pb p W) := fun W b => H1.out.2.below b
      have bd : Below w1.heap.size w1 w1.drew := (Below.refl _ _).drew
      obtain ⟨lok, lln⟩ := HH.out.li p
      have C7 : Hid (Calls Tryd.prog 20 #[.pointer (some ⟨rb, 0, none⟩), p.v] w1.drew fun e x1 => ∃ u1, e = .returned u1 ∧ Below w1.heap.size w1 x1 ∧ Calls Tryd.prog 40 #[.pointer (some ⟨d, 0, none⟩), p.v] x1 fun e x2 => ∃ u2, e = .returned u2 ∧ Below w1.heap.size w1 x2 ∧ Calls Tryd.prog 30 #[u1, u2] x2 fun e x3 => e = .returned (.bool true) ∧ Below w1.heap.size w1 x3 ∧ Calls Tryd.prog 23 #[.pointer (some ⟨rb, 0, none⟩), p.o.v] x3 fun e x4 => ∃ u4, e = .returned u4 ∧ Below w1.heap.size w1 x4 ∧ Calls Tryd.prog 42 #[.pointer (some ⟨d, 0, none⟩), p.o.v] x4 fun e x5 => ∃ u5, e = .returned u5 ∧ Below w1.heap.size w1 x5 ∧ Calls Tryd.prog 41 #[u4, u5] x5 fun e x6 => e = .returned (.bool true) ∧ Below w1.heap.size w1 x6) := by
        have q0 := P1.out.below bd
        have c := entries_any q0.ra.mem hp lln
        rw [HRB.out] at c
        refine c.mono ?_
        rintro e x1 ⟨u1, rfl, o1, b1⟩
        have B1 := bd.trans (b1.mono bd.size)
        have q1 := P1.out.below B1
        refine ⟨u1, rfl, B1, ?_⟩
        refine (rf_entries q1.rf q1.xl hp).mono ?_
        rintro e x2 ⟨u2, rfl, o2, b2⟩
        have B2 := B1.trans (b2.mono B1.size)
        refine ⟨u2, rfl, B2, ?_⟩
        rw [HH.out.eq] at o2
        obtain ⟨a1, c1, rfl, at1⟩ := own_at o1 lok
        obtain ⟨a2, c2, rfl, at2⟩ := own_at o2 lok
        refine (same_entries lok lln (at1.below b2) at2).mono ?_
        rintro e x3 ⟨rfl, b3⟩
        have B3 := B2.trans (b3.mono B2.size)
        refine ⟨rfl, B3, ?_⟩
        have q3 := P1.out.below B3
        have hkl : (keyL s.K p.o).length ≤ 1500000000000 := by
          have := keyL_len q3.ra.mem q3.ra.key p.o
          have e1 := q3.len
          have := q3.xl
          omega
        have c := keys_any q3.ra.mem hp.o (by omega)
        rw [HRB.out] at c
        refine c.mono ?_
        rintro e x4 ⟨u4, rfl, o4, b4⟩
        have B4 := B3.trans (b4.mono B3.size)
        refine ⟨u4, rfl, B4, ?_⟩
        have q4 := P1.out.below B4
        refine (rf_keys q4.rf q4.xl hp.o).mono ?_
        rintro e x5 ⟨u5, rfl, o5, b5⟩
        have B5 := B4.trans (b5.mono B4.size)
        refine ⟨u5, rfl, B5, ?_⟩
        rw [← q4.keys] at o5
        obtain ⟨a4, c4, rfl, at4⟩ := (o4.below b5).texts
        obtain ⟨a5, c5, rfl, at5⟩ := o5.texts
        refine (same_texts (by rw [srtT_len]; omega) at4 at5).mono ?_
        rintro e x6 ⟨rfl, b6⟩
        exact ⟨rfl, B5.trans (b6.mono B5.size)⟩
      go_upto_region 7 with fail
      refine alk7 (rb := rb) (d := d) (pb := pb) (p := p) (fun W => Below w1.heap.size w1 W) _ w1 _ rfl rfl rfl rfl bd (fun W b => ld_pl hp (rng_cells (KN.out W b))) (fun W b => pl_obj (KN.out W b) hp) C7.out ?_
      intro u1 u2 u4 u5 a' w2 hf ha
      subst ha
      simp only [Act.put, List.setIfInBounds_toArray, List.set_cons_zero, List.set_cons_succ]
      have B2 := hidMk hf
      clear hf C7 bd
      obtain ⟨tp, htp⟩ : ∃ tp, (liOf s.P p).getLast?.getD zEn = tp := ⟨_, rfl⟩
      have htok : Hid tp.ok := by
        rw [← htp]
        cases hl : (liOf s.P p).getLast? with
        | none => exact zEn_ok
        | some z => exact lok z (List.mem_of_getLast? hl)
      obtain ⟨r, hr⟩ : ∃ r, (!(liOf s.P p).isEmpty) = r := ⟨_, rfl⟩
      have NEWE : Hid (∀ w', ∃ eb w1 w2, (Instr.alloc 63 true (.tuple #[])).run Tryd.prog w' = .ok (.pointer (some ⟨eb, 0, none⟩)) w1 ∧ (Instr.storeAt 63 (.pointer (some ⟨eb, 0, none⟩)) tp.a).run Tryd.prog w1 = .ok () w2 ∧ Below w'.heap.size w' w2 ∧ RN.Bx w2 eb tp) := by
        intro w'
        obtain ⟨w1, e1, n1, b1⟩ := en_box w'
        obtain ⟨w2, e2, n2, t2⟩ := en_put zEn_ok htok.out n1
        exact ⟨w'.heap.size, w1, w2, e1, e2, b1.trans (t2.below b1.size (fun j e => by rw [e]; exact Nat.le_refl _)), n2⟩
      have CT : Hid (Calls Tryd.prog 21 #[.pointer (some ⟨rb, 0, none⟩), p.v] w2 fun e w' => e = .returned (.tuple #[tp.a, .bool r]) ∧ ∃ eb x1 x2, (Instr.alloc 63 true (.tuple #[])).run Tryd.prog w' = .ok (.pointer (some ⟨eb, 0, none⟩)) x1 ∧ (Instr.storeAt 63 (.pointer (some ⟨eb, 0, none⟩)) tp.a).run Tryd.prog x1 = .ok () x2 ∧ (Below w1.heap.size w1 x2 ∧ RN.Bx x2 eb tp)) := by
        have cc := top_any (P1.out.below B2.out).ra.mem hp lln
        rw [HRB.out] at cc
        refine cc.mono ?_
        rintro e w' ⟨rfl, b⟩
        obtain ⟨eb, x1, x2, e1, e2, b2, n2⟩ := NEWE.out w'
        have b3 := b.trans (b2.mono b.size)
        exact ⟨by rw [htp, hr], eb, x1, x2, e1, e2, B2.out.trans (b3.mono B2.out.size), n2⟩
      have LP := hidMk (ld_pl hp (rng_cells (KN.out _ B2.out)))
      go_upto_region 9 with fail
      refine alk9 (rb := rb) (pb := pb) (p := p) (x := tp) (r := r) (fun eb W => Below w1.heap.size w1 W ∧ RN.Bx W eb tp) _ w2 _ rfl rfl rfl (fun W e => by rw [e]; exact LP.out) CT.out ?_
      intro eb a' w3 hf ha
      subst ha
      simp only [Act.put, List.setIfInBounds_toArray, List.set_cons_zero, List.set_cons_succ]
      have B3 := hidMk hf
      clear hf CT LP
      have CT : Hid (Calls Tryd.prog 43 #[.pointer (some ⟨d, 0, none⟩), p.v] w3 fun e w' => e = .returned (.tuple #[tp.a, .bool r]) ∧ ∃ fb x1 x2, (Instr.alloc 63 true (.tuple #[])).run Tryd.prog w' = .ok (.pointer (some ⟨fb, 0, none⟩)) x1 ∧ (Instr.storeAt 63 (.pointer (some ⟨fb, 0, none⟩)) tp.a).run Tryd.prog x1 = .ok () x2 ∧ (Below w1.heap.size w1 x2 ∧ RN.Bx x2 fb tp ∧ RN.Bx x2 eb tp)) := by
        have q3 := P1.out.below B3.out.1
        have cc := rf_top q3.rf q3.xl hp
        rw [HH.out.eq] at cc
        refine cc.mono ?_
        rintro e w' ⟨rfl, b⟩
        obtain ⟨fb, x1, x2, e1, e2, b2, n2⟩ := NEWE.out w'
        have b3 := b.trans (b2.mono b.size)
        exact ⟨by rw [htp, hr], fb, x1, x2, e1, e2, B3.out.1.trans (b3.mono B3.out.1.size), n2, B3.out.2.below b3⟩
      have LP := hidMk (ld_pl hp (rng_cells (KN.out _ B3.out.1)))
      clear htp hr lok lln
      go_upto_region 10 with fail
      refine alk10 (rb := d) (pb := pb) (p := p) (x := tp) (r := r) (fun fb W => Below w1.heap.size w1 W ∧ RN.Bx W fb tp ∧ RN.Bx W eb tp) _ w3 _ rfl rfl rfl (fun W e => by rw [e]; exact LP.out) CT.out ?_
      intro fb a' w4 hf ha
      subst ha
      simp only [Act.put, List.setIfInBounds_toArray, List.set_cons_zero, List.set_cons_succ]
      have B4 := hidMk hf
      clear hf CT LP NEWE
      have CS : Hid (Calls Tryd.prog 22 #[tp.v.v, tp.v.v] w4 fun e w' => e = .returned (.bool true) ∧ Below w1.heap.size w1 w') := by
        refine (same_self htok.out.w w4).mono ?_
        rintro e w' ⟨rfl, b⟩
        exact ⟨rfl, B4.out.1.trans (b.mono B4.out.1.size)⟩
      go_upto_region 11 with fail
      refine alk11 (eb := eb) (fb := fb) (r := r) (x := tp) (fun W => Below w1.heap.size w1 W) _ w4 _ rfl rfl rfl rfl rfl htok.out.i (fun W e => by rw [e]; exact en_id htok.out B4.out.2.2.rng) (fun W e => by rw [e]; exact en_id htok.out B4.out.2.1.rng) (fun W e => by rw [e]; exact en_va htok.out B4.out.2.2.rng) (fun W e => by rw [e]; exact en_va htok.out B4.out.2.1.rng) CS.out ?_
      intro a' w5 hf ha
      subst ha
      simp only [Act.put, List.setIfInBounds_toArray, List.set_cons_zero, List.set_cons_succ]
      have B5 : Hid (Below w.heap.size w w5) := H1.out.1.trans (hf.mono H1.out.1.size)
      clear hf CS B4 B3 B2 htok KN P1 H1
      go_wp2
      rw [show ((m : Int) + 1) = ((m + 1 : Nat) : Int) by omega]
      refine ⟨⟨m + 1, rfl, by omega, B5.out⟩, ?_⟩
      show pn + 1 - ((m + 1 : Nat) : Int).toNat < pn + 1 - (m : Int).toNat
      omega
    · obtain rfl : m = pn + 1 := by omega
      go_wp2
      go_ret
      exact ⟨rfl, HB.out⟩
structure Fm where
  k : Nat → Option Obj
  w : World
  s : Rs
  e : Nat → Prop
  ps : List PlK
variable {K : Fm}
structure Pz where
  s : Rs
  H : List Rec
  X : Sls
  v : SlV
  pv : Value
  D : List (SlV × Sls)
  bv : Value
  BL : List Nat
  sv : Value
  SL : List Int
def bkV (b : Nat) : Value := .pointer (some ⟨b, 0, none⟩)
def inV (z : Int) : Value := .int .i64 z
theorem RfP.keepE {B : Nat} {w w' : World} {d : Nat} {X : Sls} {v : SlV} {pv : Value} {H : List (SlV × Sls)} {O : Nat → Prop} (h : RfP B w d X v pv H) (t : Tch O w w') (hO : ∀ j, rfB d v pv H j → ¬ O j) (hE : ∀ j, docE X H j → ¬ O j) : RfP B w' d X v pv H := by
  have ke : ∀ Y, (∀ q ∈ Y, ∀ j, q.1.2.v.ownBlock = some j → ¬ O j) → SlsAt w B Y → SlsAt w' B Y := fun Y hy hY q hq => ⟨(hY q hq).1.keep (fun k hk => t.block k ((hY q hq).1.lt hk) (hy q hq k hk)), (hY q hq).2⟩
  refine ⟨(t.block d (Array.getElem?_eq_some_iff.1 h.cell).1 (hO d (.inl rfl))).trans h.cell, h.sl.keep fun j hj => t.block j (h.sl.lt hj) (hO j (.inr (.inl hj))), ke X (fun q hq j e => hE j (.inl ⟨q, hq, e⟩)) h.en, h.past.keep fun j hj => ?_, fun q hq => ⟨(h.ph q hq).1.keep fun j hj => t.block j ((h.ph q hq).1.lt hj) (hO j (.inr (.inr (.inr ⟨q, hq, hj⟩)))), ke _ (fun z hz j e => hE j (.inr ⟨q, hq, z, hz, e⟩)) (h.ph q hq).2.1, (h.ph q hq).2.2⟩, h.dB, h.ap, h.ap2, h.ok⟩
  obtain ⟨_, c, hc⟩ := h.past.ge j hj
  exact t.block j (Array.getElem?_eq_some_iff.1 hc).1 (hO j (.inr (.inr (.inl hj))))
theorem rf_typ {B : Nat} {w : World} {d : Nat} {X : Sls} {v : SlV} {pv : Value} {H : List (SlV × Sls)} (h : RfP B w d X v pv H) {j : Nat} (hj : rfB d v pv H j) : B ≤ j ∧ ∃ c ty, w.heap[j]? = some (.cells c ty (0, 0)) ∧ (ty = 88 ∨ ty = 122 ∨ ty = 85) := by
  rcases hj with rfl | e | e | ⟨q, hq, e⟩
  · exact ⟨h.dB, _, _, h.cell, .inl rfl⟩
  · obtain ⟨hb, c, hc⟩ := h.sl.lo.cells e
    exact ⟨hb, c, _, hc, .inr (.inl rfl)⟩
  · obtain ⟨hb, c, hc⟩ := h.past.ge j e
    exact ⟨hb, c, _, hc, .inr (.inr rfl)⟩
  · obtain ⟨hb, c, hc⟩ := (h.ph q hq).1.lo.cells e
    exact ⟨hb, c, _, hc, .inr (.inl rfl)⟩
theorem doc_typ {B : Nat} {w : World} {d : Nat} {X : Sls} {v : SlV} {pv : Value} {H : List (SlV × Sls)} (h : RfP B w d X v pv H) {j : Nat} (hj : docE X H j) : ∃ c, w.heap[j]? = some (.cells c 63 (0, 0)) := by
  rcases hj with ⟨q, hq, e⟩ | ⟨g, hg, q, hq, e⟩
  · obtain ⟨_, c, hc⟩ := (h.en q hq).1.cells e
    exact ⟨c, hc⟩
  · obtain ⟨_, c, hc⟩ := ((h.ph g hg).2.1 q hq).1.cells e
    exact ⟨c, hc⟩
theorem Hist.keepT {w w' : World} {O : Nat → Prop} (t : Tch O w w') (hO : ∀ j c ty fr, w.heap[j]? = some (.cells c ty fr) → (ty = 111 ∨ ty = 52 ∨ ty = 101 ∨ ty = 125) → ¬ O j) : ∀ {H : List Rec}, Hist w H → Hist w' H
  | [], _ => trivial
  | r :: H, h => by
    refine ⟨?_, Hist.keepT t hO h.2⟩
    have h := h.1
    have go : ∀ {j : Nat} {c : Array Value} {ty : TypeId} {fr : Nat × Nat}, w.heap[j]? = some (.cells c ty fr) → (ty = 111 ∨ ty = 52 ∨ ty = 101 ∨ ty = 125) → w'.heap[j]? = some (.cells c ty fr) := fun h1 h2 => (t.block _ (Array.getElem?_eq_some_iff.1 h1).1 (hO _ _ _ _ h1 h2)).trans h1
    refine ⟨go h.b (.inl rfl), go h.p (.inr (.inl rfl)), go h.t (.inr (.inr (.inl rfl))), h.l.keep (fun k hk => ?_), h.ok, h.bok, h.bn⟩
    obtain ⟨_, c, hc⟩ := h.l.cells hk
    exact (go hc (.inr (.inr (.inr rfl)))).trans hc.symm
def plB (x : Nat) (p : Pz) (j : Nat) : Prop := j = x ∨ p.bv.ownBlock = some j ∨ p.sv.ownBlock = some j
structure PM (K : Fm) (W : World) (B1 B2 x ro d : Nat) (p : Pz) : Prop where
  ra : RgAt W B1 p.s p.H
  rf : RfP B2 W d p.X p.v p.pv p.D
  r : p.s.r = ro
  cell : W.heap[x]? = some (.cells #[.pointer (some ⟨ro, 0, none⟩), .pointer (some ⟨d, 0, none⟩), p.bv, p.sv] 33 (0, 0))
  backs : OwnV W B2 54 p.bv (p.BL.map bkV)
  steps : OwnV W B2 3 p.sv (p.SL.map inV)
  bk : ∀ b ∈ p.BL, IsBk W b
  ap : ∀ j, docE p.X p.D j → ¬ p.s.all j
  xB : B2 ≤ x
  kf : ∀ j o, K.k j = some o → W.heap[j]? = some o ∧ ¬ p.s.all j ∧ ¬ rfB d p.v p.pv p.D j ∧ ¬ plB x p j ∧ ¬ docE p.X p.D j
  zr : ER K.s K.w p.s W
  ef : ∀ j, K.e j → j < W.heap.size ∧ ¬ docE p.X p.D j
section
variable {W W' w0 : World} {B1 B2 x ro d : Nat} {p : Pz}
theorem PM.below (h : PM K W B1 B2 x ro d p) (b : Below W.heap.size W W') : PM K W' B1 B2 x ro d p :=
  ⟨h.ra.below b, h.rf.below b, h.r, (b.block _ (Array.getElem?_eq_some_iff.1 h.cell).1).trans h.cell, h.backs.below b, h.steps.below b, fun j hj => by obtain ⟨c, hc⟩ := h.bk j hj; exact ⟨c, (b.block _ (Array.getElem?_eq_some_iff.1 hc).1).trans hc⟩, h.ap, h.xB, fun j o ho => ⟨(b.block j (Array.getElem?_eq_some_iff.1 (h.kf j o ho).1).1).trans (h.kf j o ho).1, (h.kf j o ho).2⟩, h.zr.post (tch_of b (fun _ => False)) (fun _ _ _ q => q), fun j hj => ⟨Nat.lt_of_lt_of_le (h.ef j hj).1 b.size, (h.ef j hj).2⟩⟩
theorem PM.notRf (h : PM K W B1 B2 x ro d p) {j : Nat} (hj : rfB d p.v p.pv p.D j) : ¬ p.s.all j := by
  obtain ⟨_, c, ty, hc, e⟩ := rf_typ h.rf hj
  exact h.ra.mem.other hc (by rcases e with rfl | rfl | rfl <;> decide) (by rcases e with rfl | rfl | rfl <;> decide)
theorem PM.prog (h : PM K W B1 B2 x ro d p) {s' : Rs} {H' : List Rec} (ra : RgAt W' B1 s' H') (hr : s'.r = p.s.r) (al : ∀ j, s'.all j → p.s.all j ∨ W.heap.size ≤ j) (t : Tch p.s.all W W') (z : ER p.s W s' W') : PM K W' B1 B2 x ro d { p with s := s', H := H' } := by
  have go : ∀ {j : Nat} {c : Array Value} {ty : TypeId} {fr : Nat × Nat}, W.heap[j]? = some (.cells c ty fr) → ty ≠ 84 → ty ≠ 63 → W'.heap[j]? = some (.cells c ty fr) := fun h1 h2 h3 => (t.block _ (Array.getElem?_eq_some_iff.1 h1).1 (h.ra.mem.other h1 h2 h3)).trans h1
  refine ⟨ra, h.rf.keepE t (fun j hj => h.notRf hj) h.ap, hr.trans h.r, go h.cell (by decide) (by decide), h.backs.keep fun j hj => ?_, h.steps.keep fun j hj => ?_, fun b hb => ?_, fun j hj ha => ?_, h.xB, fun j o ho => ?_, h.zr.trans z, fun j hj => ⟨Nat.lt_of_lt_of_le (h.ef j hj).1 t.size, (h.ef j hj).2⟩⟩
  · obtain ⟨_, c, hc⟩ := h.backs.ge j hj
    exact (go hc (by decide) (by decide)).trans hc.symm
  · obtain ⟨_, c, hc⟩ := h.steps.ge j hj
    exact (go hc (by decide) (by decide)).trans hc.symm
  · obtain ⟨c, hc⟩ := h.bk b hb
    exact ⟨c, go hc (by decide) (by decide)⟩
  · rcases al j ha with q | q
    · exact h.ap j hj q
    · obtain ⟨c, hc⟩ := doc_typ h.rf hj
      have := (Array.getElem?_eq_some_iff.1 hc).1
      omega
  · obtain ⟨k1, k2, k3, k4, k5⟩ := h.kf j o ho
    have lt := (Array.getElem?_eq_some_iff.1 k1).1
    exact ⟨(t.block j lt k2).trans k1, fun ha => (al j ha).elim k2 (fun q => by omega), k3, k4, k5⟩
theorem PM.progB (h : PM K W B1 B2 x ro d p) (t : Tch p.s.all W W') (b : Below w0.heap.size w0 W) (h1 : w0.heap.size ≤ B1) : Below w0.heap.size w0 W' := b.trans (t.below b.size (fun j hj => Nat.le_trans h1 (h.ra.mem.allLo hj)))
theorem PM.doc (h : PM K W B1 B2 x ro d p) {X' : Sls} {v' : SlV} {pv' : Value} {D' : List (SlV × Sls)} (rf : RfP B2 W' d X' v' pv' D') (t : Tch (fun j => rfB d p.v p.pv p.D j) W W') (dE : ∀ j, docE X' D' j → docE p.X p.D j ∨ W.heap.size ≤ j) (rB : ∀ j, rfB d v' pv' D' j → rfB d p.v p.pv p.D j ∨ W.heap.size ≤ j) : PM K W' B1 B2 x ro d { p with X := X', v := v', pv := pv', D := D' } := by
  have go : ∀ {j : Nat} {c : Array Value} {ty : TypeId} {fr : Nat × Nat}, W.heap[j]? = some (.cells c ty fr) → ty ≠ 88 → ty ≠ 122 → ty ≠ 85 → ¬ rfB d p.v p.pv p.D j := fun h1 h2 h3 h4 q => by
    obtain ⟨_, c, ty, hc, e⟩ := rf_typ h.rf q
    have := two_types h1 hc
    rw [this] at h2 h3 h4
    rcases e with e | e | e
    · exact h2 e
    · exact h3 e
    · exact h4 e
  have go' : ∀ {j : Nat} {c : Array Value} {ty : TypeId} {fr : Nat × Nat}, W.heap[j]? = some (.cells c ty fr) → ty ≠ 88 → ty ≠ 122 → ty ≠ 85 → W'.heap[j]? = some (.cells c ty fr) := fun h1 h2 h3 h4 => (t.block _ (Array.getElem?_eq_some_iff.1 h1).1 (go h1 h2 h3 h4)).trans h1
  refine ⟨h.ra.keep (fun j hj => t.block j (h.ra.mem.allLt hj) (fun q => h.notRf q hj)) (h.ra.hist.keepT t fun j c ty fr hc e => ?_), rf, h.r, go' h.cell (by decide) (by decide) (by decide), h.backs.keep fun j hj => ?_, h.steps.keep fun j hj => ?_, fun b hb => ?_, fun j hj ha => ?_, h.xB, fun j o ho => ?_, h.zr.post t (fun j cu hj => go hj (by decide) (by decide) (by decide)), fun j hj => ⟨Nat.lt_of_lt_of_le (h.ef j hj).1 t.size, fun q => (dE j q).elim (h.ef j hj).2 (fun q => by have := (h.ef j hj).1; omega)⟩⟩
  · exact go hc (by rcases e with rfl | rfl | rfl | rfl <;> decide) (by rcases e with rfl | rfl | rfl | rfl <;> decide) (by rcases e with rfl | rfl | rfl | rfl <;> decide)
  · obtain ⟨_, c, hc⟩ := h.backs.ge j hj
    exact (go' hc (by decide) (by decide) (by decide)).trans hc.symm
  · obtain ⟨_, c, hc⟩ := h.steps.ge j hj
    exact (go' hc (by decide) (by decide) (by decide)).trans hc.symm
  · obtain ⟨c, hc⟩ := h.bk b hb
    exact ⟨c, go' hc (by decide) (by decide) (by decide)⟩
  · rcases dE j hj with q | q
    · exact h.ap j q ha
    · have := h.ra.mem.allLt ha
      omega
  · obtain ⟨k1, k2, k3, k4, k5⟩ := h.kf j o ho
    have lt := (Array.getElem?_eq_some_iff.1 k1).1
    exact ⟨(t.block j lt k3).trans k1, k2, fun ha => (rB j ha).elim k3 (fun q => by omega), k4, fun ha => (dE j ha).elim k5 (fun q => by omega)⟩
theorem PM.docB (h : PM K W B1 B2 x ro d p) (t : Tch (fun j => rfB d p.v p.pv p.D j) W W') (b : Below w0.heap.size w0 W) (h1 : w0.heap.size ≤ B2) : Below w0.heap.size w0 W' := b.trans (t.below b.size (fun j hj => Nat.le_trans h1 (rf_typ h.rf hj).1))
theorem pl_typ (h : PM K W B1 B2 x ro d p) {j : Nat} (hj : plB x p j) : B2 ≤ j ∧ ∃ c ty, W.heap[j]? = some (.cells c ty (0, 0)) ∧ (ty = 33 ∨ ty = 54 ∨ ty = 3) := by
  rcases hj with rfl | e | e
  · exact ⟨h.xB, _, _, h.cell, .inl rfl⟩
  · obtain ⟨hb, c, hc⟩ := h.backs.ge j e
    exact ⟨hb, c, _, hc, .inr (.inl rfl)⟩
  · obtain ⟨hb, c, hc⟩ := h.steps.ge j e
    exact ⟨hb, c, _, hc, .inr (.inr rfl)⟩
theorem PM.lists (h : PM K W B1 B2 x ro d p) {bv' : Value} {BL' : List Nat} {sv' : Value} {SL' : List Int} (t : Tch (plB x p) W W')
    (hc : W'.heap[x]? = some (.cells #[.pointer (some ⟨ro, 0, none⟩), .pointer (some ⟨d, 0, none⟩), bv', sv'] 33 (0, 0))) (h1 : OwnV W' B2 54 bv' (BL'.map bkV)) (h2 : OwnV W' B2 3 sv' (SL'.map inV)) (hb : ∀ b ∈ BL', IsBk W b) (nB : ∀ j, (bv'.ownBlock = some j ∨ sv'.ownBlock = some j) → plB x p j ∨ W.heap.size ≤ j) : PM K W' B1 B2 x ro d { p with bv := bv', BL := BL', sv := sv', SL := SL' } := by
  have go : ∀ {j : Nat} {c : Array Value} {ty : TypeId} {fr : Nat × Nat}, W.heap[j]? = some (.cells c ty fr) → ty ≠ 33 → ty ≠ 54 → ty ≠ 3 → ¬ plB x p j := fun h1 h2 h3 h4 q => by
    obtain ⟨_, c, ty, hc, e⟩ := pl_typ h q
    have := two_types h1 hc
    rw [this] at h2 h3 h4
    rcases e with e | e | e
    · exact h2 e
    · exact h3 e
    · exact h4 e
  have nall : ∀ {j}, plB x p j → ¬ p.s.all j := fun hj => by
    obtain ⟨_, c, ty, hc, e⟩ := pl_typ h hj
    exact h.ra.mem.other hc (by rcases e with rfl | rfl | rfl <;> decide) (by rcases e with rfl | rfl | rfl <;> decide)
  refine ⟨h.ra.keep (fun j hj => t.block j (h.ra.mem.allLt hj) (fun q => nall q hj)) (h.ra.hist.keepT t fun j c ty fr hc e => ?_), h.rf.keepE t (fun j hj => ?_) (fun j hj => ?_), h.r, hc, h1, h2, fun b hb0 => ?_, h.ap, h.xB, fun j o ho => ?_, h.zr.post t (fun j cu hj => go hj (by decide) (by decide) (by decide)), fun j hj => ⟨Nat.lt_of_lt_of_le (h.ef j hj).1 t.size, (h.ef j hj).2⟩⟩
  · exact go hc (by rcases e with rfl | rfl | rfl | rfl <;> decide) (by rcases e with rfl | rfl | rfl | rfl <;> decide) (by rcases e with rfl | rfl | rfl | rfl <;> decide)
  · obtain ⟨_, c, ty, hc, e⟩ := rf_typ h.rf hj
    exact go hc (by rcases e with rfl | rfl | rfl <;> decide) (by rcases e with rfl | rfl | rfl <;> decide) (by rcases e with rfl | rfl | rfl <;> decide)
  · obtain ⟨c, hc⟩ := doc_typ h.rf hj
    exact go hc (by decide) (by decide) (by decide)
  · obtain ⟨c, hc⟩ := hb b hb0
    exact ⟨c, (t.block _ (Array.getElem?_eq_some_iff.1 hc).1 (go hc (by decide) (by decide) (by decide))).trans hc⟩
  · obtain ⟨k1, k2, k3, k4, k5⟩ := h.kf j o ho
    have lt := (Array.getElem?_eq_some_iff.1 k1).1
    exact ⟨(t.block j lt k4).trans k1, k2, k3, fun ha => ha.elim (fun e => k4 (.inl e)) (fun e => (nB j e).elim k4 (fun q => by omega)), k5⟩
theorem PM.listsB (h : PM K W B1 B2 x ro d p) (t : Tch (plB x p) W W') (b : Below w0.heap.size w0 W) (h1 : w0.heap.size ≤ B2) : Below w0.heap.size w0 W' := b.trans (t.below b.size (fun j hj => Nat.le_trans h1 (pl_typ h hj).1))
end
inductive HM : List Rec → PF → List (SlV × Sls) → Prop
  | nil {f : PF} : HM [] f []
  | step {r : Rec} {t : List Rec} {f : PF} {D : List (SlV × Sls)} {h : SlV × Sls} : (∀ q, entF h.2 q = updF f r.p r.bef q) → HM t (updF f r.p r.bef) D → HM (r :: t) f (D ++ [h])
theorem HM.len {H : List Rec} {f : PF} {D : List (SlV × Sls)} (h : HM H f D) : H.length = D.length := by
  induction h with
  | nil => rfl
  | step _ _ ih => simp [ih]
theorem HM.front {r : Rec} {t : List Rec} {f : PF} {D : List (SlV × Sls)} (h : HM (r :: t) f D) : ∃ P g, D = P ++ [g] ∧ (∀ q, entF g.2 q = updF f r.p r.bef q) ∧ HM t (updF f r.p r.bef) P := by
  cases h with
  | step a b => exact ⟨_, _, rfl, a, b⟩
structure Link (p : Pz) : Prop where
  eq : ∀ q, entF p.X q = liOf p.s.P q
  hm : HM p.H (liOf p.s.P) p.D
  len : p.BL.length = p.SL.length
  nd : (p.H.map (·.bk)).Nodup
  one : ∀ (i j : Nat) b, p.BL[i]? = some b → p.BL[j]? = some b → i = j
  hit : ∀ (i : Nat) z, p.SL[i]? = some z → (z = 0 ∧ ∃ b, p.BL[i]? = some b ∧ b ∉ p.H.map (·.bk)) ∨ (∃ n : Nat, z = (n : Int) ∧ 1 ≤ n ∧ n ≤ p.H.length ∧ ∃ r, p.H[p.H.length - n]? = some r ∧ p.BL[i]? = some r.bk)
  all : ∀ n : Nat, 1 ≤ n → n ≤ p.H.length → ∃ i : Nat, p.SL[i]? = some (n : Int)
theorem app_last {α : Type} {L : List α} {x y : α} {i : Nat} (h : (L ++ [x])[i]? = some y) : (i < L.length ∧ L[i]? = some y) ∨ (i = L.length ∧ y = x) := by
  by_cases hi : i < L.length
  · rw [List.getElem?_append_left hi] at h; exact Or.inl ⟨hi, h⟩
  · rw [List.getElem?_append_right (by omega)] at h
    have := (List.getElem?_eq_some_iff.1 h).1
    simp at this
    obtain rfl : i = L.length := by omega
    simp at h
    exact Or.inr ⟨rfl, h.symm⟩
section
variable {p : Pz}
theorem Link.len2 (h : Link p) : p.H.length = p.D.length := h.hm.len
theorem Link.done (h : Link p) {q : PlK} {L : List EnV} {r : Rec} {s' : Rs} (rp : r.p = q) (rb : r.bef = liOf p.s.P q) (li : ∀ z, liOf s'.P z = if z = q then L else liOf p.s.P z) {X' : Sls} {g : SlV × Sls} (eg : ∀ z, entF g.2 z = entF p.X z) (eX : ∀ z, entF X' z = if z = q then L else entF p.X z) (h1 : ∀ z ∈ p.H, z.bk ≠ r.bk) (h2 : ∀ b ∈ p.BL, b ≠ r.bk) (v' : SlV) (pv' bv sv : Value) :
    Link ⟨s', r :: p.H, X', v', pv', p.D ++ [g], bv, p.BL ++ [r.bk], sv, p.SL ++ [((p.D.length + 1 : Nat) : Int)]⟩ := by
  have hl := h.len2
  have eu : updF (liOf s'.P) r.p r.bef = liOf p.s.P := by
    funext z
    unfold updF
    rw [rp, rb, li]
    by_cases e : z = q
    · rw [if_pos e, e]
    · rw [if_neg e, if_neg e]
  refine ⟨fun z => ?_, HM.step (fun z => ?_) (by rw [eu]; exact h.hm), by simp [h.len], ?_, fun i j b hi hj => ?_, fun i z hz => ?_, fun m m1 m2 => ?_⟩
  · show entF X' z = liOf s'.P z
    rw [eX, li, h.eq]
  · rw [eu, eg, h.eq]
  · simp only [List.map_cons, List.nodup_cons]
    refine ⟨fun hm => ?_, h.nd⟩
    obtain ⟨z, hz, e⟩ := List.mem_map.1 hm
    exact h1 z hz e
  · rcases app_last hi with ⟨_, q⟩ | ⟨e1, q⟩
    · rcases app_last hj with ⟨_, q'⟩ | ⟨_, q'⟩
      · exact h.one i j b q q'
      · exact absurd q' (h2 b (List.mem_of_getElem? q))
    · rcases app_last hj with ⟨_, q'⟩ | ⟨e2, _⟩
      · exact absurd q (h2 b (List.mem_of_getElem? q'))
      · rw [e1, e2]
  · simp only at hz ⊢
    rcases app_last hz with ⟨hi, q⟩ | ⟨rfl, rfl⟩
    · rw [List.getElem?_append_left (by rw [h.len]; exact hi)]
      rcases h.hit i z q with ⟨z0, b, hb, hn⟩ | ⟨m, zm, m1, m2, r', hr, hb⟩
      · refine Or.inl ⟨z0, b, hb, ?_⟩
        simp only [List.map_cons, List.mem_cons, not_or]
        exact ⟨h2 b (List.mem_of_getElem? hb), hn⟩
      · refine Or.inr ⟨m, zm, m1, by simp; omega, r', ?_, hb⟩
        rw [List.length_cons, show p.H.length + 1 - m = (p.H.length - m) + 1 by omega, List.getElem?_cons_succ]
        exact hr
    · refine Or.inr ⟨p.D.length + 1, rfl, by omega, by simp; omega, r, ?_, ?_⟩
      · rw [List.length_cons, hl, Nat.sub_self]; rfl
      · rw [← h.len]; simp
  · simp only [List.length_cons] at m2
    by_cases e : m = p.D.length + 1
    · subst e
      exact ⟨p.SL.length, by simp⟩
    · obtain ⟨i, hi⟩ := h.all m m1 (by omega)
      exact ⟨i, by simp only; rw [List.getElem?_append_left (List.getElem?_eq_some_iff.1 hi).1]; exact hi⟩
theorem Link.undone (h : Link p) {r : Rec} {H' : List Rec} (hH : p.H = r :: H') {P : List (SlV × Sls)} {g : SlV × Sls} (hP : p.D = P ++ [g]) {i : Nat} (hi : p.SL[i]? = some ((p.D.length : Nat) : Int)) {s' : Rs} (li : ∀ z, liOf s'.P z = if z = r.p then r.bef else liOf p.s.P z) (v' : SlV) (pv' sv : Value) :
    Link ⟨s', H', g.2, v', pv', P, p.bv, p.BL, sv, p.SL.set i 0⟩ ∧ p.BL[i]? = some r.bk := by
  have hl := h.len2
  have hm := h.hm
  have hnd := h.nd
  rw [hH] at hm hnd
  obtain ⟨P', g', e1, e2, e4⟩ := hm.front
  rw [hP] at e1
  obtain ⟨rfl, e5⟩ := List.append_inj' e1 rfl
  obtain rfl : g = g' := by simpa using e5
  have eu : liOf s'.P = updF (liOf p.s.P) r.p r.bef := by
    funext z
    unfold updF
    exact li z
  have hHl : p.H.length = H'.length + 1 := by rw [hH]; rfl
  have hPl : p.D.length = P.length + 1 := by rw [hP]; simp
  simp only [List.map_cons, List.nodup_cons] at hnd
  have hb : p.BL[i]? = some r.bk := by
    rcases h.hit i _ hi with ⟨z, _⟩ | ⟨m, zm, m1, m2, r', hr, hb⟩
    · omega
    · obtain rfl : m = p.D.length := by omega
      rw [hl, Nat.sub_self, hH] at hr
      simp at hr
      subst hr
      exact hb
  refine ⟨⟨fun z => by simp only; rw [e2, eu], by simp only; rw [eu]; exact e4, by simp [h.len], hnd.2, h.one, fun j z hz => ?_, fun m m1 m2 => ?_⟩, hb⟩
  · simp only at hz ⊢
    by_cases e : j = i
    · subst e
      rw [List.getElem?_set_self (List.getElem?_eq_some_iff.1 hi).1] at hz
      simp at hz
      exact Or.inl ⟨hz.symm, r.bk, hb, hnd.1⟩
    · rw [List.getElem?_set_ne (fun q => e q.symm)] at hz
      rcases h.hit j z hz with ⟨z0, b, hq, hn⟩ | ⟨m, zm, m1, m2, r', hr, hq⟩
      · refine Or.inl ⟨z0, b, hq, ?_⟩
        rw [hH] at hn
        exact fun q => hn (by simp only [List.map_cons, List.mem_cons]; exact Or.inr q)
      · have hne : m ≠ p.H.length := by
          rintro rfl
          rw [Nat.sub_self, hH] at hr
          simp at hr
          subst hr
          exact e (h.one j i r.bk hq hb)
        refine Or.inr ⟨m, zm, m1, by omega, r', ?_, hq⟩
        rw [hH, List.length_cons, show H'.length + 1 - m = (H'.length - m) + 1 by omega, List.getElem?_cons_succ] at hr
        exact hr
  · simp only at m2 ⊢
    obtain ⟨j, hj⟩ := h.all m m1 (by omega)
    refine ⟨j, ?_⟩
    rw [List.getElem?_set_ne]
    · exact hj
    · rintro rfl
      rw [hi] at hj
      simp at hj
      omega
inductive Meets (p : Pz) (i : Nat) : Prop
  | past (b : Nat) (z : Int) : p.SL[i]? = some z → p.BL[i]? = some b → ptrH p.H ≠ some (⟨b, 0, Option.none⟩ : Addr) → (z < 1 ∨ z ≠ (p.D.length : Int)) → Meets p i
  | last (r : Rec) (H' : List Rec) (P : List (SlV × Sls)) (g : SlV × Sls) : p.H = r :: H' → p.D = P ++ [g] → p.SL[i]? = some ((p.D.length : Nat) : Int) → p.BL[i]? = some r.bk → Meets p i
theorem Link.meets (h : Link p) {i : Nat} (hi : i < p.BL.length) : Meets p i := by
  have hl := h.len2
  obtain ⟨z, hz⟩ : ∃ z, p.SL[i]? = some z := ⟨_, List.getElem?_eq_getElem (by rw [← h.len]; exact hi)⟩
  have hp : ∀ b, b ∉ p.H.map (·.bk) → ptrH p.H ≠ some (⟨b, 0, Option.none⟩ : Addr) := by
    intro b hb e
    cases hH : p.H with
    | nil => rw [hH] at e; simp [ptrH] at e
    | cons r t =>
      rw [hH] at e hb
      simp [ptrH] at e
      exact hb (by simp [e])
  rcases h.hit i z hz with ⟨rfl, b, hb, hn⟩ | ⟨m, rfl, m1, m2, r, hr, hb⟩
  · exact .past b 0 hz hb (hp b hn) (Or.inl (by decide))
  · by_cases e : m = p.H.length
    · subst e
      rw [Nat.sub_self] at hr
      cases hH : p.H with
      | nil => rw [hH] at hr; simp at hr
      | cons r0 t =>
        rw [hH] at hr
        simp at hr
        subst hr
        have hm := h.hm
        rw [hH] at hm
        obtain ⟨P, L, e1, _⟩ := hm.front
        exact .last r0 t P L hH e1 (by rw [← hl]; exact hz) hb
    · refine .past r.bk m hz hb ?_ (Or.inr (by omega))
      cases hH : p.H with
      | nil => rw [hH] at hr; simp at hr
      | cons r0 t =>
        have hnd := h.nd
        rw [hH] at hr hnd m2 e
        simp only [List.map_cons, List.nodup_cons] at hnd
        rw [List.length_cons] at hr m2 e
        rw [show t.length + 1 - m = (t.length - m) + 1 by omega, List.getElem?_cons_succ] at hr
        simp only [ptrH]
        intro q
        injection q with q
        injection q with q
        exact hnd.1 (by rw [q]; exact List.mem_map.2 ⟨r, List.mem_of_getElem? hr, rfl⟩)
end
variable {K : Fm}
structure PY (K : Fm) (w0 : World) (B1 B2 x ro d m : Nat) (p : Pz) (W : World) : Prop where
  pm : PM K W B1 B2 x ro d p
  ln : Link p
  mb : p.BL.length ≤ m
  md : p.D.length ≤ m
  mx : ∀ Y, (Y = p.X ∨ ∃ h ∈ p.D, Y = h.2) → Y.length ≤ m ∧ ∀ q, (entF Y q).length ≤ m
  bel : Below w0.heap.size w0 W
  l1 : w0.heap.size ≤ B1
  l2 : w0.heap.size ≤ B2
  h1 : B1 ≤ W.heap.size
  h2 : B2 ≤ W.heap.size
  kp : ∀ Y, (Y = p.X ∨ ∃ h ∈ p.D, Y = h.2) → ∀ q, entF Y q ≠ [] → q ∈ K.ps
  kn : K.ps.length ≤ 1499999999999
section
variable {w0 W W' : World} {B1 B2 x ro d m : Nat} {p : Pz}
theorem PY.below (h : PY K w0 B1 B2 x ro d m p W) (b : Below W.heap.size W W') : PY K w0 B1 B2 x ro d m p W' := ⟨h.pm.below b, h.ln, h.mb, h.md, h.mx, h.bel.trans (b.mono h.bel.size), h.l1, h.l2, Nat.le_trans h.h1 b.size, Nat.le_trans h.h2 b.size, h.kp, h.kn⟩
theorem PY.mono (h : PY K w0 B1 B2 x ro d m p W) {k : Nat} (hk : m ≤ k) : PY K w0 B1 B2 x ro d k p W := ⟨h.pm, h.ln, Nat.le_trans h.mb hk, Nat.le_trans h.md hk, fun Y hY => ⟨Nat.le_trans (h.mx Y hY).1 hk, fun q => Nat.le_trans ((h.mx Y hY).2 q) hk⟩, h.bel, h.l1, h.l2, h.h1, h.h2, h.kp, h.kn⟩
theorem PY.xl (h : PY K w0 B1 B2 x ro d m p W) : p.X.length ≤ 1499999999999 := by
  have := nodup_len h.pm.rf.ok.nd (fun q hq => h.kp _ (.inl rfl) q ((ent_mem h.pm.rf.ok q).1 hq))
  rw [List.length_map] at this
  exact Nat.le_trans this h.kn
theorem PY.dl (h : PY K w0 B1 B2 x ro d m p W) {g : SlV × Sls} (hg : g ∈ p.D) : g.2.length ≤ 1499999999999 := by
  have ok := (h.pm.rf.ph g hg).2.2
  have := nodup_len ok.nd (fun q hq => h.kp _ (.inr ⟨g, hg, rfl⟩) q ((ent_mem ok q).1 hq))
  rw [List.length_map] at this
  exact Nat.le_trans this h.kn
theorem PY.pr (h : PY K w0 B1 B2 x ro d m p W) : Pr W B1 p.s p.H B2 d p.X p.v p.pv p.D := ⟨h.pm.ra, h.pm.rf, h.ln.eq, Nat.le_trans h.xl (by omega)⟩
theorem PM.ldr (h : PM K W B1 B2 x ro d p) : (Instr.loadAt 26 (.pointer (some ⟨x, 0 + 0, none⟩))).run Tryd.prog W = .ok (.pointer (some ⟨ro, 0, none⟩)) W := by
  have hc : W.cell? ⟨x, 0, none⟩ = some (.pointer (some ⟨ro, 0, none⟩)) := (cell_of_row W x 0 _ _ _ h.cell).trans rfl
  go_simp
theorem PM.ldd (h : PM K W B1 B2 x ro d p) : (Instr.loadAt 28 (.pointer (some ⟨x, 0 + 1, none⟩))).run Tryd.prog W = .ok (.pointer (some ⟨d, 0, none⟩)) W := by
  have hc : W.cell? ⟨x, 1, none⟩ = some (.pointer (some ⟨d, 0, none⟩)) := (cell_of_row W x 1 _ _ _ h.cell).trans rfl
  go_simp
theorem PM.ldb (h : PM K W B1 B2 x ro d p) {a : Option Addr} {n c : Nat} (e : p.bv = .slice a n c) : W.cell? ⟨x, 2, none⟩ = some (.slice a n c) ∧ (Instr.loadAt 30 (.pointer (some ⟨x, 0 + 2, none⟩))).run Tryd.prog W = .ok (.slice a n c) W := by
  have hc : W.cell? ⟨x, 2, none⟩ = some (.slice a n c) := by rw [← e]; exact (cell_of_row W x 2 _ _ _ h.cell).trans rfl
  exact ⟨hc, by go_simp⟩
theorem PM.lds (h : PM K W B1 B2 x ro d p) {a : Option Addr} {n c : Nat} (e : p.sv = .slice a n c) : W.cell? ⟨x, 3, none⟩ = some (.slice a n c) ∧ (Instr.loadAt 31 (.pointer (some ⟨x, 0 + 3, none⟩))).run Tryd.prog W = .ok (.slice a n c) W := by
  have hc : W.cell? ⟨x, 3, none⟩ = some (.slice a n c) := by rw [← e]; exact (cell_of_row W x 3 _ _ _ h.cell).trans rfl
  exact ⟨hc, by go_simp⟩
end
theorem OwnV.form {w : World} {B : Nat} {e : TypeId} {v : Value} {X : List Value} (h : OwnV w B e v X) {i : Nat} (hi : i < X.length) : ∃ bb c, v = .slice (some ⟨bb, 0, none⟩) X.length c := by
  rcases h.2 with ⟨_, hn⟩ | ⟨g, cap, cur, rfl, _⟩
  · omega
  · exact ⟨g, cap, rfl⟩
theorem OwnV.hit {w : World} {B : Nat} {e : TypeId} {v : Value} {X : List Value} (h : OwnV w B e v X) {bb n c : Nat} (ev : v = .slice (some ⟨bb, 0, none⟩) n c) {i : Nat} {u : Value} (hu : X[i]? = some u) : w.cell? ⟨bb, i, none⟩ = some u := by
  obtain ⟨a, cap, e1, _, hv, _⟩ := h.open
  rw [ev] at e1
  injection e1 with e1 _ _
  rcases hv with rfl | ⟨b, off, e2, hc⟩
  · simp at hu
  · rw [e2] at e1
    injection e1 with e1
    injection e1 with e1 e3
    subst e1 e3
    have := hc i u hu
    rwa [Nat.zero_add] at this
theorem ld_bkp {W : World} {g i : Nat} {p : Option Addr} (hc : W.cell? ⟨g, i, none⟩ = some (.pointer p)) : (Instr.loadAt 54 (.pointer (some ⟨g, 0 + i, none⟩))).run Tryd.prog W = .ok (.pointer p) W := by
  rw [Nat.zero_add]
  go_simp
theorem ld_int {W : World} {g i : Nat} {z : Int} (hc : W.cell? ⟨g, i, none⟩ = some (.int .i64 z)) : (Instr.loadAt 3 (.pointer (some ⟨g, 0 + i, none⟩))).run Tryd.prog W = .ok (.int .i64 z) W := by
  rw [Nat.zero_add]
  go_simp
theorem own_setI {w : World} {B : Nat} {v : Value} {R : List Int} (own : OwnV w B 3 v (R.map inV)) {g n c : Nat} (ev : v = .slice (some ⟨g, 0, none⟩) n c) {i : Nat} (hi : i < R.length) (t : Int) :
    ∃ w', (Instr.storeAt 3 (.pointer (some ⟨g, 0 + i, none⟩)) (.int .i64 t)).run Tryd.prog w = .ok () w' ∧ OwnV w' B 3 v ((R.set i t).map inV) ∧ Tch (fun j => j = g) w w' ∧ B ≤ g := by
  rcases own.2 with ⟨e, hz⟩ | ⟨gb, cap, cur, e, hbg, hg, hnc, hcm, hcs, htake⟩
  · rw [List.length_map] at hz; omega
  · rw [ev] at e
    injection e with e1 e2 e3
    injection e1 with e1
    injection e1 with e1
    subst e1
    rw [List.length_map] at e2 hnc
    rw [List.length_map, Nat.mul_one] at htake
    have hl : i < cur.size := by rw [hcs]; omega
    obtain ⟨u, hu⟩ : ∃ u, R[i]? = some u := ⟨_, List.getElem?_eq_getElem hi⟩
    have hcell : w.cell? ⟨g, i, none⟩ = some (.int .i64 u) := by
      rw [cell_of_row w g i cur 3 (0, 0) hg]
      have h1 : (R.map inV)[i]? = some (.int .i64 u) := by rw [List.getElem?_map, hu]; rfl
      rw [← htake, List.getElem?_take, if_pos hi] at h1
      simpa using h1
    have hf := frozen_of_row w g i _ _ hg
    have es : (Instr.storeAt 3 (.pointer (some ⟨g, 0 + i, none⟩)) (.int .i64 t)).run Tryd.prog w = .ok () (w.setCell ⟨g, i, none⟩ (.int .i64 t)) := by
      rw [Nat.zero_add]
      go_simp
    refine ⟨_, es, ⟨by simp, .inr ⟨g, cap, cur.set! i (.int .i64 t), by rw [ev, List.length_map, List.length_set, e2, e3], hbg, ?_, by rw [List.length_map, List.length_set]; exact hnc, hcm, by simp [hcs], ?_⟩⟩, ⟨rfl, rfl, rfl, by simp [World.setCell], fun j _ hj => Go.heap_setCell_other _ _ _ _ hj⟩, hbg⟩
    · obtain ⟨hl2, hv⟩ := Array.getElem?_eq_some_iff.1 hg
      simp [World.setCell, hl2, Array.getElem_modify_self, hv]
    · rw [List.length_map, List.length_set, Nat.mul_one, List.map_set, ← htake]
      simp [Array.set!, List.take_set, inV]
def LastIs (p : Pz) (z : Int) : Prop := (z = -1 ∧ p.H = []) ∨ ∃ i : Nat, z = (i : Int) ∧ i < p.BL.length ∧ p.SL[i]? = some ((p.D.length : Nat) : Int) ∧ 0 < p.D.length
theorem dlast_any {w0 w : World} {B1 B2 x ro d m : Nat} {p : Pz} (h : PY K w0 B1 B2 x ro d m p w) (hm : m ≤ 2200000000000) :
    Calls Tryd.prog 67 #[.pointer (some ⟨x, 0, none⟩)] w fun e w' => ∃ z, e = .returned (.int .i64 z) ∧ LastIs p z ∧ Below w.heap.size w w' := by
  have hmb := h.mb
  have hlen := h.ln.len
  obtain ⟨a, c, esv, hle, hv, _⟩ := h.pm.steps.open
  rw [List.length_map] at esv hle
  obtain ⟨n, hnn⟩ : ∃ n, p.SL.length = n := ⟨_, rfl⟩
  have HN := hidMk hnn
  have HLEN := hidMk hlen
  have hnb : n ≤ 2200000000000 := by omega
  rw [hnn] at esv
  have HP := hidMk (fun (W : World) (b : Below w.heap.size w W) => h.pm.below b)
  have HC3 := hidMk (fun (W : World) (b : Below w.heap.size w W) => (h.pm.below b).lds esv)
  have HS := hidMk (fun (W : World) (b : Below w.heap.size w W) => rf_steps (h.pm.below b).rf)
  have HV := hidMk (fun (i : Nat) (z : Int) (hz : p.SL[i]? = some z) => show ∃ bb, a = some ⟨bb, 0, none⟩ ∧ ∀ W, Below w.heap.size w W → W.cell? ⟨bb, i, none⟩ = some (.int .i64 z) by
    obtain ⟨bb, cc, e⟩ := h.pm.steps.form (i := i) (by rw [List.length_map]; exact (List.getElem?_eq_some_iff.1 hz).1)
    refine ⟨bb, ?_, fun W b => (h.pm.below b).steps.hit e (by rw [List.getElem?_map, hz]; rfl)⟩
    rw [esv] at e
    injection e)
  have HK := hidMk h.ln
  obtain ⟨dl, hdl⟩ : ∃ l, p.D.length = l := ⟨_, rfl⟩
  rw [hdl] at HS
  have HDL := hidMk hdl
  clear hv esv hle hnn hlen hmb h hm hdl
  go_enter Tryd.func67, Tryd.ntmps67
  go_wp2
  go_loopw [3] (fun v3 wr => ∃ i : Nat, v3 = .int .i64 (i : Int) ∧ i ≤ n ∧ Hid ((∀ j, j < i → p.SL[j]? ≠ some (dl : Int) ∨ dl = 0) ∧ Below w.heap.size w wr)) (fun v3 wr => n - (match v3 with | .int _ i => i.toNat | _ => 0))
  case atStart => exact ⟨0, rfl, Nat.zero_le _, fun j hj => (by omega), Below.refl _ _⟩
  case round =>
    obtain ⟨i, rfl, hin, HI⟩ := hrel
    have c3 := (HC3.out wr HI.out.2).1
    by_cases hi : i < n
    · obtain ⟨z, hz⟩ : ∃ z, p.SL[i]? = some z := ⟨_, List.getElem?_eq_getElem (by have := HN.out; omega)⟩
      obtain ⟨bb, rfl, hcz⟩ := HV.out i z hz
      have HZ := hidMk (And.intro hz hcz)
      clear hz hcz
      have h63 : n ≤ 9223372036854775807 := by omega
      have NEXT : Hid (z ≠ (dl : Int) ∨ dl = 0 → ∀ j, j < i + 1 → p.SL[j]? ≠ some (dl : Int) ∨ dl = 0) := fun hne j hj => by
        by_cases ej : j = i
        · subst ej
          exact hne.imp (fun h q => by rw [HZ.out.1] at q; exact h (Option.some.inj q)) id
        · exact HI.out.1 j (by omega)
      have beld : Below w.heap.size w wr.drew := HI.out.2.drew
      go_upto_region 4 with fail
      clear c3
      by_cases hz : z > 0
      · obtain ⟨r, hr⟩ : ∃ r, (z == (dl : Int)) = r := ⟨_, rfl⟩
        refine las4t (x := x) (d := d) (g := bb) (o := 0) (n := n) (c := c) (i := i) (s := z) (z := (dl : Int)) (r := r) (fun W => Below w.heap.size w W) _ wr _ rfl rfl rfl hi h63 hz hr beld (fun W b => (HC3.out W b).2) (fun W b => ld_int (HZ.out.2 W b)) (fun W b => (HP.out W b).ldd) ?_ ?_
        · refine (HS.out _ beld).mono ?_
          rintro e w' ⟨rfl, hw⟩
          rw [hw]
          exact ⟨rfl, beld⟩
        intro a' w' hw' ha
        subst ha
        simp only [Act.put, List.setIfInBounds_toArray, List.set_cons_zero, List.set_cons_succ]
        have HW := hidMk hw'
        have HR := hidMk hr
        have HZP := hidMk hz
        clear hw' hr hz beld
        cases r
        · go_wp2
          rw [show ((i : Int) + 1) = ((i + 1 : Nat) : Int) by omega]
          refine ⟨⟨i + 1, rfl, hi, NEXT.out (.inl (by simpa using HR.out)), HW.out⟩, ?_⟩
          show n - ((i + 1 : Nat) : Int).toNat < n - (i : Int).toNat
          omega
        · go_wp2
          go_ret
          have e : z = (dl : Int) := by simpa using HR.out
          have hz2 := HZ.out.1
          rw [e] at hz2
          have := HZP.out
          exact ⟨_, rfl, Or.inr ⟨i, rfl, by have := HLEN.out; have := HN.out; omega, by rw [HDL.out]; exact hz2, by rw [HDL.out]; omega⟩, HW.out⟩
      · refine las4f (x := x) (g := bb) (o := 0) (n := n) (c := c) (i := i) (s := z) (fun W => Below w.heap.size w W) _ wr _ rfl rfl rfl hi h63 hz beld (fun W b => (HC3.out W b).2) (fun W b => ld_int (HZ.out.2 W b)) ?_
        intro a' w' hw' ha
        subst ha
        simp only [Act.put, List.setIfInBounds_toArray, List.set_cons_zero, List.set_cons_succ]
        have HW := hidMk hw'
        have HZP := hidMk hz
        clear hw' hz beld
        go_wp2
        rw [show ((i : Int) + 1) = ((i + 1 : Nat) : Int) by omega]
        refine ⟨⟨i + 1, rfl, hi, NEXT.out (by have := HZP.out; omega), HW.out⟩, ?_⟩
        show n - ((i + 1 : Nat) : Int).toNat < n - (i : Int).toNat
        omega
    · obtain rfl : i = n := by omega
      clear hi hin
      go_wp2
      go_ret
      refine ⟨_, rfl, Or.inl ⟨rfl, ?_⟩, HI.out.2⟩
      have hl := HK.out.len2
      cases hH : p.H with
      | nil => rfl
      | cons r t =>
        obtain ⟨j, hj⟩ := HK.out.all p.H.length (by rw [hH]; simp) (Nat.le_refl _)
        rw [hl, HDL.out] at hj
        rcases HI.out.1 j (by rw [← HN.out]; exact (List.getElem?_eq_some_iff.1 hj).1) with q | q
        · exact absurd hj q
        · rw [← HDL.out, ← hl, hH] at q; simp at q
variable {K : Fm}
theorem PM.setStep {W : World} {B1 B2 x ro d : Nat} {p : Pz} (h : PM K W B1 B2 x ro d p) {g n c : Nat} (ev : p.sv = .slice (some ⟨g, 0, none⟩) n c) {i : Nat} (hi : i < p.SL.length) :
    ∃ W', (Instr.storeAt 3 (.pointer (some ⟨g, 0 + i, none⟩)) (.int .i64 0)).run Tryd.prog W = .ok () W' ∧ PM K W' B1 B2 x ro d { p with SL := p.SL.set i 0 } ∧ Tch (plB x p) W W' := by
  obtain ⟨W', e, o, t, _⟩ := own_setI h.steps ev hi 0
  have hg : p.sv.ownBlock = some g := by rw [ev]; rfl
  obtain ⟨_, cg, hcg⟩ := h.steps.ge g hg
  have ne : ∀ {j : Nat} {c : Array Value} {ty : TypeId} {fr : Nat × Nat}, W.heap[j]? = some (.cells c ty fr) → ty ≠ 3 → j ≠ g := fun h1 h2 e => by
    rw [e] at h1
    exact h2 (two_types h1 hcg)
  have t' : Tch (plB x p) W W' := t.mono fun j _ e => Or.inr (Or.inr (by rw [e]; exact hg))
  refine ⟨W', e, ?_, t'⟩
  have := h.lists (bv' := p.bv) (BL' := p.BL) (sv' := p.sv) (SL' := p.SL.set i 0) t' ((t.block x (Array.getElem?_eq_some_iff.1 h.cell).1 (ne h.cell (by decide))).trans h.cell) (h.backs.keep fun j hj => ?_) o h.bk (fun j hj => .inl (.inr hj))
  · exact this
  · obtain ⟨_, cb, hcb⟩ := h.backs.ge j hj
    exact t.block j (Array.getElem?_eq_some_iff.1 hcb).1 (ne hcb (by decide))
def UPost (K : Fm) (w0 : World) (B1 B2 x ro d m : Nat) (p : Pz) (z : Int) (e : Ending) (w' : World) : Prop := e = .returned (.bool true) ∧ ∃ p', PY K w0 B1 B2 x ro d m p' w' ∧ (z = -1 → p'.H.length = p.H.length - 1)
def DL (K : Fm) (B1 B2 x ro d : Nat) (p : Pz) (W : World) : Prop := ∃ q : Pz, PM K W B1 B2 x ro d q ∧ q.bv = p.bv ∧ q.BL = p.BL ∧ q.sv = p.sv ∧ q.SL = p.SL
def F5 (K : Fm) (w0 : World) (B1 B2 x ro d : Nat) (p : Pz) (r : Rec) (H' : List Rec) (W : World) : Prop := ∃ s' : Rs, PM K W B1 B2 x ro d { p with s := s', H := H' } ∧ (∀ q, liOf s'.P q = if q = r.p then r.bef else liOf p.s.P q) ∧ Below w0.heap.size w0 W ∧ B1 ≤ W.heap.size ∧ B2 ≤ W.heap.size
def F6 (K : Fm) (w0 : World) (B1 B2 x ro d : Nat) (p : Pz) (r : Rec) (H' : List Rec) (P : List (SlV × Sls)) (g : SlV × Sls) (W : World) : Prop := ∃ (s' : Rs) (pv2 : Value), PM K W B1 B2 x ro d { p with s := s', H := H', X := g.2, v := g.1, pv := pv2, D := P } ∧ (∀ q, liOf s'.P q = if q = r.p then r.bef else liOf p.s.P q) ∧ Below w0.heap.size w0 W ∧ B1 ≤ W.heap.size ∧ B2 ≤ W.heap.size
theorem F5.drew {w0 : World} {B1 B2 x ro d : Nat} {p : Pz} {r : Rec} {H' : List Rec} {W : World} (h : F5 K w0 B1 B2 x ro d p r H' W) : F5 K w0 B1 B2 x ro d p r H' W.drew := by
  obtain ⟨s', pm, li, b, s1, s2⟩ := h
  exact ⟨s', pm.below (Below.refl _ _).drew, li, b.drew, s1, s2⟩
set_option maxHeartbeats 8000000 in
theorem dundo_any {w0 w : World} {B1 B2 x ro d m : Nat} {p : Pz} (h : PY K w0 B1 B2 x ro d m p w) (hm : m ≤ 2200000000000) {z : Int} (hz : -9223372036854775808 ≤ z ∧ z ≤ 9223372036854775807) :
    Calls Tryd.prog 37 #[.pointer (some ⟨x, 0, none⟩), .int .i64 z] w (UPost K w0 B1 B2 x ro d m p z) := by
  have HH := hidMk h
  obtain ⟨n, hnn⟩ : ∃ n, p.BL.length = n := ⟨_, rfl⟩
  have HN := hidMk hnn
  have hnb : n ≤ 2200000000000 := by have := h.mb; omega
  obtain ⟨a, ca, eav, hle, _, _⟩ := h.pm.backs.open
  rw [List.length_map, hnn] at eav
  have HAV := hidMk eav
  have HL := hidMk (dlast_any h (by omega))
  have SAME : Hid (∀ W, Below w.heap.size w W → (z = -1 → p.H = []) → UPost K w0 B1 B2 x ro d m p z (.returned (.bool true)) W) := fun W b hh => ⟨rfl, p, h.below b, fun e => by rw [hh e]; rfl⟩
  have HUN := hidMk (undo_nil ro)
  clear eav hle hnn h
  go_enter Tryd.func37, Tryd.ntmps37
  by_cases hz1 : z = -1
  · subst hz1
    clear hz
    go_upto_region 3 with (first
      | (go_at_call 67; refine HL.out.mono ?_; rintro e w1 ⟨z1, rfl, hz1, b1⟩; clear HL)
      | fail)
    rcases hz1 with ⟨rfl, hH⟩ | ⟨i, rfl, hi0, hsi, hpos⟩
    · have c0 : w1.cell? ⟨x, 0, none⟩ = some (.pointer (some ⟨ro, 0, none⟩)) := (cell_of_row w1 x 0 _ _ _ (HH.out.below b1).pm.cell).trans rfl
      have c2 := ((HH.out.below b1).pm.ldb HAV.out).1
      have HHH := hidMk hH
      have HB1 := hidMk b1
      clear hH b1
      go_wp2_with (first
        | (go_at_call 19; refine (HUN.out _).mono ?_; rintro e w2 ⟨rfl, hw2⟩; obtain rfl : w1 = w2 := hw2.symm)
        | fail)
      go_ret
      exact SAME.out w1 HB1.out (fun _ => HHH.out)
    · have hi : i < n := by have := HN.out; omega
      obtain ⟨r, H', hH⟩ : ∃ r H', p.H = r :: H' := by
        have := HH.out.ln.len2
        cases e : p.H with
        | nil => rw [e] at this; simp at this; omega
        | cons r t => exact ⟨r, t, rfl⟩
      obtain ⟨P, g, hP⟩ : ∃ P g, p.D = P ++ [g] := by
        have hm := HH.out.ln.hm
        rw [hH] at hm
        obtain ⟨P, g, e, _⟩ := hm.front
        exact ⟨P, g, e⟩
      have hbi : p.BL[i]? = some r.bk := by
        rcases HH.out.ln.hit i _ hsi with ⟨q, _⟩ | ⟨k, zk, m1, m2, r', hr, hb⟩
        · omega
        · have hl := HH.out.ln.len2
          obtain rfl : k = p.H.length := by omega
          rw [Nat.sub_self, hH] at hr
          simp at hr
          subst hr
          exact hb
      obtain ⟨bb, c, ebv⟩ := HH.out.pm.backs.form (i := i) (by rw [List.length_map, HN.out]; exact hi)
      obtain ⟨sb, sc, esv⟩ := HH.out.pm.steps.form (i := i) (by rw [List.length_map, ← HH.out.ln.len, HN.out]; exact hi)
      rw [List.length_map, HN.out] at ebv
      rw [List.length_map, ← HH.out.ln.len, HN.out] at esv
      obtain ⟨z, hz⟩ : ∃ z, (-1 : Int) = z := ⟨_, rfl⟩
      have UZ : Hid (∀ e W, UPost K w0 B1 B2 x ro d m p z e W → UPost K w0 B1 B2 x ro d m p (-1) e W) := fun e W q => by rw [hz]; exact q
      clear hz
      have BV := hidMk ebv
      have SVV := hidMk esv
      obtain ⟨lE, hlE⟩ : ∃ l, p.D.length = l := ⟨_, rfl⟩
      have hPl : p.D.length = P.length + 1 := by rw [hP]; simp
      have HFX := hidMk (And.intro hH (And.intro hP (And.intro hsi (And.intro hbi (And.intro hPl hlE)))))
      have C5 : Hid (∀ W, Below w.heap.size w W → Calls Tryd.prog 19 #[.pointer (some ⟨ro, 0, none⟩), .pointer (some ⟨r.bk, 0, none⟩)] W fun e w' => e = .returned (.int .i64 0) ∧ DL K B1 B2 x ro d p w' ∧ F5 K w0 B1 B2 x ro d p r H' w') := by
        intro W b
        have q := HH.out.below b
        have ra := q.pm.ra
        rw [HFX.out.1] at ra
        have cc := undo_any ra q.h1
        rw [q.pm.r] at cc
        refine cc.mono ?_
        rintro e w' ⟨rfl, s', ra', hr', li, al, t, z⟩
        have pm' := q.pm.prog ra' hr' al t z
        exact ⟨rfl, ⟨_, pm', rfl, rfl, rfl, rfl⟩, s', pm', li, q.pm.progB t q.bel q.l1, Nat.le_trans q.h1 t.size, Nat.le_trans q.h2 t.size⟩
      have C6 : Hid (∀ W, F5 K w0 B1 B2 x ro d p r H' W → Calls Tryd.prog 68 #[.pointer (some ⟨d, 0, none⟩), .int .i64 (lE : Int)] W fun e w' => e = .returned (.int .i64 0) ∧ DL K B1 B2 x ro d p w' ∧ F6 K w0 B1 B2 x ro d p r H' P g w') := by
        rintro W ⟨s', pm, li, bel, s1, s2⟩
        have rf := pm.rf
        simp only at rf
        rw [HFX.out.2.1] at rf
        have cc := rf_undo_ok rf (by have := HH.out.md; have := HFX.out.2.2.2.2.1; omega)
        rw [← HFX.out.2.2.2.2.1, HFX.out.2.2.2.2.2] at cc
        refine cc.mono ?_
        rintro e w' ⟨rfl, pv2, rf', t, hpv⟩
        have t' : Tch (fun j => rfB d p.v p.pv p.D j) W w' := t.mono fun j _ e => Or.inl e
        have pm' := pm.doc rf' t' (fun j hj => Or.inl (by
          simp only
          rw [HFX.out.2.1]
          rcases hj with ⟨q, hq, e⟩ | ⟨k, hk, q, hq, e⟩
          · exact Or.inr ⟨g, by simp, q, hq, e⟩
          · exact Or.inr ⟨k, by simp [hk], q, hq, e⟩)) (fun j hj => Or.inl (by
            simp only
            rw [HFX.out.2.1]
            rcases hj with e | e | e | ⟨q, hq, e⟩
            · exact Or.inl e
            · exact Or.inr (Or.inr (Or.inr ⟨g, by simp, e⟩))
            · exact Or.inr (Or.inr (Or.inl (hpv ▸ e)))
            · exact Or.inr (Or.inr (Or.inr ⟨q, by simp [hq], e⟩))))
        exact ⟨rfl, ⟨_, pm', rfl, rfl, rfl, rfl⟩, s', pv2, pm', li, pm.docB t' bel HH.out.l2, Nat.le_trans s1 t.size, Nat.le_trans s2 t.size⟩
      have C10 : Hid (∀ W, F6 K w0 B1 B2 x ro d p r H' P g W → ∃ w1, (Instr.storeAt 3 (.pointer (some ⟨sb, 0 + i, none⟩)) (.int .i64 0)).run Tryd.prog W = .ok () w1 ∧ UPost K w0 B1 B2 x ro d m p z (.returned (.bool true)) w1) := by
        rintro W ⟨s', pv2, pm, li, bel, s1, s2⟩
        obtain ⟨w1, e1, pm1, t1⟩ := pm.setStep SVV.out (i := i) (by have := HN.out; have := HH.out.ln.len; simp only; omega)
        have lk := (HH.out.ln.undone HFX.out.1 HFX.out.2.1 HFX.out.2.2.1 li g.1 pv2 p.sv).1
        refine ⟨w1, e1, rfl, _, ⟨pm1, lk, HH.out.mb, ?_, fun Y hY => ?_, pm.listsB t1 bel HH.out.l2, HH.out.l1, HH.out.l2, Nat.le_trans s1 t1.size, Nat.le_trans s2 t1.size, fun Y hY => HH.out.kp Y (Or.inr ?_), HH.out.kn⟩, fun _ => ?_⟩
        · have := HH.out.md
          have := HFX.out.2.2.2.2.1
          simp only
          omega
        · refine HH.out.mx Y (Or.inr ?_)
          rw [HFX.out.2.1]
          rcases hY with rfl | ⟨k, hk, rfl⟩
          · exact ⟨g, by simp, rfl⟩
          · exact ⟨k, by simp [show k ∈ P from hk], rfl⟩
        · rw [HFX.out.2.1]
          rcases hY with rfl | ⟨k, hk, rfl⟩
          · exact ⟨g, by simp, rfl⟩
          · exact ⟨k, by simp [show k ∈ P from hk], rfl⟩
        · rw [HFX.out.1]; rfl
      have L5 : Hid (∀ W, DL K B1 B2 x ro d p W → (Instr.loadAt 26 (.pointer (some ⟨x, 0 + 0, none⟩))).run Tryd.prog W = .ok (.pointer (some ⟨ro, 0, none⟩)) W ∧ (Instr.loadAt 28 (.pointer (some ⟨x, 0 + 1, none⟩))).run Tryd.prog W = .ok (.pointer (some ⟨d, 0, none⟩)) W ∧ (Instr.loadAt 30 (.pointer (some ⟨x, 0 + 2, none⟩))).run Tryd.prog W = .ok (.slice (some ⟨bb, 0, none⟩) n c) W ∧ (Instr.loadAt 31 (.pointer (some ⟨x, 0 + 3, none⟩))).run Tryd.prog W = .ok (.slice (some ⟨sb, 0, none⟩) n sc) W ∧ (Instr.loadAt 54 (.pointer (some ⟨bb, 0 + i, none⟩))).run Tryd.prog W = .ok (.pointer (some ⟨r.bk, 0, none⟩)) W ∧ (Instr.loadAt 3 (.pointer (some ⟨sb, 0 + i, none⟩))).run Tryd.prog W = .ok (.int .i64 (lE : Int)) W) := by
        rintro W ⟨q, pm, e1, e2, e3, e4⟩
        refine ⟨pm.ldr, pm.ldd, (pm.ldb (e1.trans BV.out)).2, (pm.lds (e3.trans SVV.out)).2, ld_bkp (pm.backs.hit (e1.trans BV.out) ?_), ld_int (pm.steps.hit (e3.trans SVV.out) ?_)⟩
        · rw [List.getElem?_map, e2, HFX.out.2.2.2.1]; rfl
        · rw [List.getElem?_map, e4, HFX.out.2.2.1, HFX.out.2.2.2.2.2]; rfl
      have bd := hidMk b1.drew
      have D0 : Hid (DL K B1 B2 x ro d p _) := (⟨p, (HH.out.below bd.out).pm, rfl, rfl, rfl, rfl⟩ : DL K B1 B2 x ro d p _)
      have c2 := ((HH.out.below b1).pm.ldb BV.out).1
      have h63 : n ≤ 9223372036854775807 := by omega
      clear hH hP hsi hbi hlE hPl ebv esv
      go_upto_region 5 with fail
      clear c2
      refine dun5 (x := x) (rb := ro) (g := bb) (o := 0) (n := n) (c := c) (i := i) (bk := r.bk) (z := 0) (DL K B1 B2 x ro d p) (F5 K w0 B1 B2 x ro d p r H') _ _ _ rfl rfl rfl hi h63 D0.out (fun W h => (L5.out W h).1) (fun W h => (L5.out W h).2.2.1) (fun W h => (L5.out W h).2.2.2.2.1) (C5.out _ bd.out) ?_
      intro a' w3 hf ha
      subst ha
      simp only [Act.put, List.setIfInBounds_toArray, List.set_cons_zero, List.set_cons_succ]
      have K3 := hidMk (F5.drew hf)
      clear hf C5 D0 bd b1
      have D3 : Hid (DL K B1 B2 x ro d p w3.drew) := by
        obtain ⟨s', pm, _⟩ := K3.out
        exact ⟨_, pm, rfl, rfl, rfl, rfl⟩
      go_upto_region 6 with fail
      refine dun6 (x := x) (d := d) (g := sb) (o := 0) (n := n) (c := sc) (i := i) (z := 0) (s := (lE : Int)) (DL K B1 B2 x ro d p) (F6 K w0 B1 B2 x ro d p r H' P g) _ w3 _ rfl rfl rfl hi h63 D3.out (fun W h => (L5.out W h).2.1) (fun W h => (L5.out W h).2.2.2.1) (fun W h => (L5.out W h).2.2.2.2.2) (C6.out _ K3.out) ?_
      intro a' w4 hf ha
      subst ha
      simp only [Act.put, List.setIfInBounds_toArray, List.set_cons_zero, List.set_cons_succ]
      obtain ⟨w5, e5, u5⟩ := C10.out w4 hf
      have L4 : Hid ((Instr.loadAt 31 (.pointer (some ⟨x, 0 + 3, none⟩))).run Tryd.prog w4 = .ok (.slice (some ⟨sb, 0, none⟩) n sc) w4) := by
        obtain ⟨s', pv2, pm, _⟩ := hf
        exact (pm.lds SVV.out).2
      have HE5 := hidMk e5
      have HU5 := hidMk u5
      clear hf C6 C10 K3 D3 e5 u5 L5
      go_upto_region 10 with fail
      refine dun10 (x := x) (g := sb) (o := 0) (n := n) (c := sc) (i := i) (w1 := w5) _ w4 _ rfl rfl rfl hi h63 (fun W e => by rw [e]; exact L4.out) HE5.out ?_
      intro a' w6 hf ha
      subst ha
      obtain rfl : w5 = w6 := hf.symm
      simp only [Act.put, List.setIfInBounds_toArray, List.set_cons_zero, List.set_cons_succ]
      clear HE5 L4
      go_wp2
      go_ret
      exact UZ.out _ _ HU5.out
  · by_cases hneg : z < 0
    · have c0 : w.cell? ⟨x, 0, none⟩ = some (.pointer (some ⟨ro, 0, none⟩)) := (cell_of_row w x 0 _ _ _ HH.out.pm.cell).trans rfl
      have c2 := (HH.out.pm.ldb HAV.out).1
      have HZ1 := hidMk hz1
      clear HL
      go_wp2_with (first
        | (go_at_call 19; refine (HUN.out _).mono ?_; rintro e w2 ⟨rfl, hw2⟩; obtain rfl : w = w2 := hw2.symm)
        | fail)
      go_ret
      exact SAME.out w (Below.refl _ _) (fun e => absurd e HZ1.out)
    · by_cases hge : (n : Int) ≤ z
      · have c0 : w.cell? ⟨x, 0, none⟩ = some (.pointer (some ⟨ro, 0, none⟩)) := (cell_of_row w x 0 _ _ _ HH.out.pm.cell).trans rfl
        have c2 := (HH.out.pm.ldb HAV.out).1
        have HZ1 := hidMk hz1
        clear HL
        go_wp2_with (first
          | (go_at_call 19; refine (HUN.out _).mono ?_; rintro e w2 ⟨rfl, hw2⟩; obtain rfl : w = w2 := hw2.symm)
          | fail)
        go_ret
        exact SAME.out w (Below.refl _ _) (fun e => absurd e HZ1.out)
      · obtain ⟨i, hzi⟩ : ∃ i : Nat, z = (i : Int) := ⟨z.toNat, by omega⟩
        have hi : i < n := by omega
        have UZ : Hid (∀ e W, UPost K w0 B1 B2 x ro d m p z e W → UPost K w0 B1 B2 x ro d m p (i : Int) e W) := fun e W q => by rw [← hzi]; exact q
        have SAMEi : Hid (∀ W, Below w.heap.size w W → UPost K w0 B1 B2 x ro d m p (i : Int) (.returned (.bool true)) W) := fun W b => by rw [← hzi]; exact SAME.out W b (fun e => by omega)
        rw [hzi]
        clear hneg hge hz1 hzi hz SAME HL
        have b1 : Below w.heap.size w w := Below.refl _ _
        obtain ⟨bb, c, ebv⟩ := HH.out.pm.backs.form (i := i) (by rw [List.length_map, HN.out]; exact hi)
        obtain ⟨sb, sc, esv⟩ := HH.out.pm.steps.form (i := i) (by rw [List.length_map, ← HH.out.ln.len, HN.out]; exact hi)
        rw [List.length_map, HN.out] at ebv
        rw [List.length_map, ← HH.out.ln.len, HN.out] at esv
        rcases HH.out.ln.meets (i := i) (by rw [HN.out]; exact hi) with ⟨b, s, hsi, hbi, hne, hs⟩ | ⟨r, H', P, g, hH, hP, hsi, hbi⟩
        · have BV := hidMk ebv
          have SVV := hidMk esv
          have C5 : Hid (∀ W, Below w.heap.size w W → Calls Tryd.prog 19 #[.pointer (some ⟨ro, 0, none⟩), .pointer (some ⟨b, 0, none⟩)] W fun e w' => e = .returned (.int .i64 2) ∧ Below w.heap.size w w' ∧ Below w.heap.size w w') := by
            intro W b0
            have q := HH.out.below b0
            have cc := undo_not q.pm.ra (q.pm.bk b (List.mem_of_getElem? hbi)) hne
            rw [q.pm.r] at cc
            refine cc.mono ?_
            rintro e w' ⟨rfl, hw⟩
            rw [hw]
            exact ⟨rfl, b0, b0⟩
          have C6 : Hid (∀ W, Below w.heap.size w W → Calls Tryd.prog 68 #[.pointer (some ⟨d, 0, none⟩), .int .i64 s] W fun e w' => e = .returned (.int .i64 2) ∧ Below w.heap.size w w' ∧ Below w.heap.size w w') := by
            intro W b0
            refine (rf_undo_not (HH.out.below b0).pm.rf hs).mono ?_
            rintro e w' ⟨rfl, hw⟩
            rw [hw]
            exact ⟨rfl, b0, b0⟩
          have L5 : Hid (∀ W, Below w.heap.size w W → (Instr.loadAt 26 (.pointer (some ⟨x, 0 + 0, none⟩))).run Tryd.prog W = .ok (.pointer (some ⟨ro, 0, none⟩)) W ∧ (Instr.loadAt 28 (.pointer (some ⟨x, 0 + 1, none⟩))).run Tryd.prog W = .ok (.pointer (some ⟨d, 0, none⟩)) W ∧ (Instr.loadAt 30 (.pointer (some ⟨x, 0 + 2, none⟩))).run Tryd.prog W = .ok (.slice (some ⟨bb, 0, none⟩) n c) W ∧ (Instr.loadAt 31 (.pointer (some ⟨x, 0 + 3, none⟩))).run Tryd.prog W = .ok (.slice (some ⟨sb, 0, none⟩) n sc) W ∧ (Instr.loadAt 54 (.pointer (some ⟨bb, 0 + i, none⟩))).run Tryd.prog W = .ok (.pointer (some ⟨b, 0, none⟩)) W ∧ (Instr.loadAt 3 (.pointer (some ⟨sb, 0 + i, none⟩))).run Tryd.prog W = .ok (.int .i64 s) W) := by
            intro W b0
            have pm := (HH.out.below b0).pm
            refine ⟨pm.ldr, pm.ldd, (pm.ldb BV.out).2, (pm.lds SVV.out).2, ld_bkp (pm.backs.hit BV.out ?_), ld_int (pm.steps.hit SVV.out ?_)⟩
            · rw [List.getElem?_map, hbi]; rfl
            · rw [List.getElem?_map, hsi]; rfl
          have bd := hidMk b1.drew
          have c2 := (HH.out.pm.ldb BV.out).1
          have h63 : n ≤ 9223372036854775807 := by omega
          clear hsi hbi hne hs ebv esv
          go_upto_region 5 with fail
          clear c2
          refine dun5 (x := x) (rb := ro) (g := bb) (o := 0) (n := n) (c := c) (i := i) (bk := b) (z := 2) (fun W => Below w.heap.size w W) (fun W => Below w.heap.size w W) _ w _ rfl rfl rfl hi h63 bd.out (fun W h => (L5.out W h).1) (fun W h => (L5.out W h).2.2.1) (fun W h => (L5.out W h).2.2.2.2.1) (C5.out _ bd.out) ?_
          intro a' w3 hf ha
          subst ha
          simp only [Act.put, List.setIfInBounds_toArray, List.set_cons_zero, List.set_cons_succ]
          have K3 : Hid (Below w.heap.size w w3.drew) := hf.drew
          clear hf C5 bd b1
          go_upto_region 6 with fail
          refine dun6 (x := x) (d := d) (g := sb) (o := 0) (n := n) (c := sc) (i := i) (z := 2) (s := s) (fun W => Below w.heap.size w W) (fun W => Below w.heap.size w W) _ w3 _ rfl rfl rfl hi h63 K3.out (fun W h => (L5.out W h).2.1) (fun W h => (L5.out W h).2.2.2.1) (fun W h => (L5.out W h).2.2.2.2.2) (C6.out _ K3.out) ?_
          intro a' w4 hf ha
          subst ha
          simp only [Act.put, List.setIfInBounds_toArray, List.set_cons_zero, List.set_cons_succ]
          have K4 := hidMk hf
          clear hf C6 K3 L5
          go_wp2
          go_ret
          exact SAMEi.out w4 K4.out
        · clear SAMEi
          have BV := hidMk ebv
          have SVV := hidMk esv
          obtain ⟨lE, hlE⟩ : ∃ l, p.D.length = l := ⟨_, rfl⟩
          have hPl : p.D.length = P.length + 1 := by rw [hP]; simp
          have HFX := hidMk (And.intro hH (And.intro hP (And.intro hsi (And.intro hbi (And.intro hPl hlE)))))
          have C5 : Hid (∀ W, Below w.heap.size w W → Calls Tryd.prog 19 #[.pointer (some ⟨ro, 0, none⟩), .pointer (some ⟨r.bk, 0, none⟩)] W fun e w' => e = .returned (.int .i64 0) ∧ DL K B1 B2 x ro d p w' ∧ F5 K w0 B1 B2 x ro d p r H' w') := by
            intro W b
            have q := HH.out.below b
            have ra := q.pm.ra
            rw [HFX.out.1] at ra
            have cc := undo_any ra q.h1
            rw [q.pm.r] at cc
            refine cc.mono ?_
            rintro e w' ⟨rfl, s', ra', hr', li, al, t, z⟩
            have pm' := q.pm.prog ra' hr' al t z
            exact ⟨rfl, ⟨_, pm', rfl, rfl, rfl, rfl⟩, s', pm', li, q.pm.progB t q.bel q.l1, Nat.le_trans q.h1 t.size, Nat.le_trans q.h2 t.size⟩
          have C6 : Hid (∀ W, F5 K w0 B1 B2 x ro d p r H' W → Calls Tryd.prog 68 #[.pointer (some ⟨d, 0, none⟩), .int .i64 (lE : Int)] W fun e w' => e = .returned (.int .i64 0) ∧ DL K B1 B2 x ro d p w' ∧ F6 K w0 B1 B2 x ro d p r H' P g w') := by
            rintro W ⟨s', pm, li, bel, s1, s2⟩
            have rf := pm.rf
            simp only at rf
            rw [HFX.out.2.1] at rf
            have cc := rf_undo_ok rf (by have := HH.out.md; have := HFX.out.2.2.2.2.1; omega)
            rw [← HFX.out.2.2.2.2.1, HFX.out.2.2.2.2.2] at cc
            refine cc.mono ?_
            rintro e w' ⟨rfl, pv2, rf', t, hpv⟩
            have t' : Tch (fun j => rfB d p.v p.pv p.D j) W w' := t.mono fun j _ e => Or.inl e
            have pm' := pm.doc rf' t' (fun j hj => Or.inl (by
              simp only
              rw [HFX.out.2.1]
              rcases hj with ⟨q, hq, e⟩ | ⟨k, hk, q, hq, e⟩
              · exact Or.inr ⟨g, by simp, q, hq, e⟩
              · exact Or.inr ⟨k, by simp [hk], q, hq, e⟩)) (fun j hj => Or.inl (by
                simp only
                rw [HFX.out.2.1]
                rcases hj with e | e | e | ⟨q, hq, e⟩
                · exact Or.inl e
                · exact Or.inr (Or.inr (Or.inr ⟨g, by simp, e⟩))
                · exact Or.inr (Or.inr (Or.inl (hpv ▸ e)))
                · exact Or.inr (Or.inr (Or.inr ⟨q, by simp [hq], e⟩))))
            exact ⟨rfl, ⟨_, pm', rfl, rfl, rfl, rfl⟩, s', pv2, pm', li, pm.docB t' bel HH.out.l2, Nat.le_trans s1 t.size, Nat.le_trans s2 t.size⟩
          have C10 : Hid (∀ W, F6 K w0 B1 B2 x ro d p r H' P g W → ∃ w1, (Instr.storeAt 3 (.pointer (some ⟨sb, 0 + i, none⟩)) (.int .i64 0)).run Tryd.prog W = .ok () w1 ∧ UPost K w0 B1 B2 x ro d m p z (.returned (.bool true)) w1) := by
            rintro W ⟨s', pv2, pm, li, bel, s1, s2⟩
            obtain ⟨w1, e1, pm1, t1⟩ := pm.setStep SVV.out (i := i) (by have := HN.out; have := HH.out.ln.len; simp only; omega)
            have lk := (HH.out.ln.undone HFX.out.1 HFX.out.2.1 HFX.out.2.2.1 li g.1 pv2 p.sv).1
            refine ⟨w1, e1, rfl, _, ⟨pm1, lk, HH.out.mb, ?_, fun Y hY => ?_, pm.listsB t1 bel HH.out.l2, HH.out.l1, HH.out.l2, Nat.le_trans s1 t1.size, Nat.le_trans s2 t1.size, fun Y hY => HH.out.kp Y (Or.inr ?_), HH.out.kn⟩, fun _ => ?_⟩
            · have := HH.out.md
              have := HFX.out.2.2.2.2.1
              simp only
              omega
            · refine HH.out.mx Y (Or.inr ?_)
              rw [HFX.out.2.1]
              rcases hY with rfl | ⟨k, hk, rfl⟩
              · exact ⟨g, by simp, rfl⟩
              · exact ⟨k, by simp [show k ∈ P from hk], rfl⟩
            · rw [HFX.out.2.1]
              rcases hY with rfl | ⟨k, hk, rfl⟩
              · exact ⟨g, by simp, rfl⟩
              · exact ⟨k, by simp [show k ∈ P from hk], rfl⟩
            · rw [HFX.out.1]; rfl
          have L5 : Hid (∀ W, DL K B1 B2 x ro d p W → (Instr.loadAt 26 (.pointer (some ⟨x, 0 + 0, none⟩))).run Tryd.prog W = .ok (.pointer (some ⟨ro, 0, none⟩)) W ∧ (Instr.loadAt 28 (.pointer (some ⟨x, 0 + 1, none⟩))).run Tryd.prog W = .ok (.pointer (some ⟨d, 0, none⟩)) W ∧ (Instr.loadAt 30 (.pointer (some ⟨x, 0 + 2, none⟩))).run Tryd.prog W = .ok (.slice (some ⟨bb, 0, none⟩) n c) W ∧ (Instr.loadAt 31 (.pointer (some ⟨x, 0 + 3, none⟩))).run Tryd.prog W = .ok (.slice (some ⟨sb, 0, none⟩) n sc) W ∧ (Instr.loadAt 54 (.pointer (some ⟨bb, 0 + i, none⟩))).run Tryd.prog W = .ok (.pointer (some ⟨r.bk, 0, none⟩)) W ∧ (Instr.loadAt 3 (.pointer (some ⟨sb, 0 + i, none⟩))).run Tryd.prog W = .ok (.int .i64 (lE : Int)) W) := by
            rintro W ⟨q, pm, e1, e2, e3, e4⟩
            refine ⟨pm.ldr, pm.ldd, (pm.ldb (e1.trans BV.out)).2, (pm.lds (e3.trans SVV.out)).2, ld_bkp (pm.backs.hit (e1.trans BV.out) ?_), ld_int (pm.steps.hit (e3.trans SVV.out) ?_)⟩
            · rw [List.getElem?_map, e2, HFX.out.2.2.2.1]; rfl
            · rw [List.getElem?_map, e4, HFX.out.2.2.1, HFX.out.2.2.2.2.2]; rfl
          have bd := hidMk b1.drew
          have D0 : Hid (DL K B1 B2 x ro d p _) := (⟨p, (HH.out.below bd.out).pm, rfl, rfl, rfl, rfl⟩ : DL K B1 B2 x ro d p _)
          have c2 := ((HH.out.below b1).pm.ldb BV.out).1
          have h63 : n ≤ 9223372036854775807 := by omega
          clear hH hP hsi hbi hlE hPl ebv esv
          go_upto_region 5 with fail
          clear c2
          refine dun5 (x := x) (rb := ro) (g := bb) (o := 0) (n := n) (c := c) (i := i) (bk := r.bk) (z := 0) (DL K B1 B2 x ro d p) (F5 K w0 B1 B2 x ro d p r H') _ _ _ rfl rfl rfl hi h63 D0.out (fun W h => (L5.out W h).1) (fun W h => (L5.out W h).2.2.1) (fun W h => (L5.out W h).2.2.2.2.1) (C5.out _ bd.out) ?_
          intro a' w3 hf ha
          subst ha
          simp only [Act.put, List.setIfInBounds_toArray, List.set_cons_zero, List.set_cons_succ]
          have K3 := hidMk (F5.drew hf)
          clear hf C5 D0 bd b1
          have D3 : Hid (DL K B1 B2 x ro d p w3.drew) := by
            obtain ⟨s', pm, _⟩ := K3.out
            exact ⟨_, pm, rfl, rfl, rfl, rfl⟩
          go_upto_region 6 with fail
          refine dun6 (x := x) (d := d) (g := sb) (o := 0) (n := n) (c := sc) (i := i) (z := 0) (s := (lE : Int)) (DL K B1 B2 x ro d p) (F6 K w0 B1 B2 x ro d p r H' P g) _ w3 _ rfl rfl rfl hi h63 D3.out (fun W h => (L5.out W h).2.1) (fun W h => (L5.out W h).2.2.2.1) (fun W h => (L5.out W h).2.2.2.2.2) (C6.out _ K3.out) ?_
          intro a' w4 hf ha
          subst ha
          simp only [Act.put, List.setIfInBounds_toArray, List.set_cons_zero, List.set_cons_succ]
          obtain ⟨w5, e5, u5⟩ := C10.out w4 hf
          have L4 : Hid ((Instr.loadAt 31 (.pointer (some ⟨x, 0 + 3, none⟩))).run Tryd.prog w4 = .ok (.slice (some ⟨sb, 0, none⟩) n sc) w4) := by
            obtain ⟨s', pv2, pm, _⟩ := hf
            exact (pm.lds SVV.out).2
          have HE5 := hidMk e5
          have HU5 := hidMk u5
          clear hf C6 C10 K3 D3 e5 u5 L5
          go_upto_region 10 with fail
          refine dun10 (x := x) (g := sb) (o := 0) (n := n) (c := sc) (i := i) (w1 := w5) _ w4 _ rfl rfl rfl hi h63 (fun W e => by rw [e]; exact L4.out) HE5.out ?_
          intro a' w6 hf ha
          subst ha
          obtain rfl : w5 = w6 := hf.symm
          simp only [Act.put, List.setIfInBounds_toArray, List.set_cons_zero, List.set_cons_succ]
          clear HE5 L4
          go_wp2
          go_ret
          exact UZ.out _ _ HU5.out
structure IdB (W : World) (ib : Nat) (iv : Value) (I : List IdK) (W' : World) : Prop where
  b : W'.heap[ib]? = some (.cells #[iv] 43 (0, 0))
  o : RI.Own W' W.heap.size iv I
  bel : Below W.heap.size W W'
  sl : ∃ s : SlV, iv = s.v
theorem idl_store {W : World} {ib : Nat} {iv : Value} {s : SlV} (h : W.heap[ib]? = some (.cells #[iv] 43 (0, 0))) : ∃ W', (Instr.storeAt 43 (.pointer (some ⟨ib, 0, none⟩)) s.v).run Tryd.prog W = .ok () W' ∧ W'.heap[ib]? = some (.cells #[s.v] 43 (0, 0)) ∧ Tch (fun j => j = ib) W W' := by
  have c0 : W.cell? ⟨ib, 0, none⟩ = some iv := (cell_of_row W ib 0 _ _ _ h).trans rfl
  have f0 := frozen_of_row W ib 0 _ _ h
  refine ⟨W.setCell ⟨ib, 0, none⟩ (.slice s.a s.n s.c), ?_, ?_, ⟨rfl, rfl, rfl, by simp [World.setCell], fun j _ hj => Go.heap_setCell_other _ _ _ _ hj⟩⟩
  · unfold SlV.v
    go_simp
  · exact Go.heap_setCell_same W ib 0 _ 43 _ h
theorem idl_load {W : World} {ib : Nat} {s : SlV} (h : W.heap[ib]? = some (.cells #[s.v] 43 (0, 0))) : (Instr.loadAt 43 (.pointer (some ⟨ib, 0, none⟩))).run Tryd.prog W = .ok s.v W := by
  have c0 : W.cell? ⟨ib, 0, none⟩ = some (.slice s.a s.n s.c) := (cell_of_row W ib 0 _ _ _ h).trans rfl
  unfold SlV.v
  go_simp
theorem idl_new (W : World) : ∃ W', (Instr.alloc 43 true (.tuple #[])).run Tryd.prog W = .ok (.pointer (some ⟨W.heap.size, 0, none⟩)) W' ∧ IdB W W.heap.size (.slice none 0 0) [] W' :=
  ⟨W.alloc (.cells #[.slice none 0 0] 43), by kernel_rfl, heap_alloc_new _ _, RowT.own_nil RI _ _, (Below.refl _ _).alloc (Nat.le_refl _) _, ⟨none, 0, 0⟩, rfl⟩
variable {K : Fm}
theorem tells_st {W : World} {ib : Nat} {s : SlV} {I : List IdK} (hb : W.heap[ib]? = some (.cells #[s.v] 43 (0, 0))) {base : Nat} (ho : RI.Own W base s.v I) (ok : ∀ x ∈ I, x.ok) (hn : I.length ≤ 9000000000000) : Tells W 32 #[.pointer (some ⟨ib, 0, none⟩)] (fun k => decide (k ∈ I)) := by
  refine ⟨enters_of Tryd.func32 (by kernel_rfl) rfl, fun w bW k hk => ?_⟩
  obtain ⟨w1, E1, n1, b1⟩ := box_id w k
  have h2 := (bW.block ib (Array.getElem?_eq_some_iff.1 hb).1).trans hb
  have hb1 := (b1.block ib (Array.getElem?_eq_some_iff.1 h2).1).trans h2
  have o1 := (ho.below bW).below b1
  obtain ⟨a, c, es, hat, _⟩ := o1.open RI_is ok
  have CS := hidMk (saw_any ok hn (c := c) hat hk)
  rw [← es] at CS
  have H1 := hidMk E1
  have L1 := hidMk (idl_load hb1)
  have L2 := hidMk (load_id hk n1)
  have HB := hidMk b1
  clear E1 n1 b1 hb1 o1 es hat bW hb ho h2
  show Calls Tryd.prog 32 #[k.v, .pointer (some ⟨ib, 0, none⟩)] w _
  go_enter Tryd.func32, Tryd.ntmps32
  go_wp2_with (first
    | (refine wpList_run rfl (exec_boxE (t := 38) (v := k.v) (u := .pointer (some ⟨w.heap.size, 0, none⟩)) (w2 := w1) rfl rfl H1.out) ?_)
    | (refine wpList_val rfl (exec_load (t := 43) (v := s.v) rfl rfl L1.out) ?_)
    | (refine wpList_val rfl (exec_load (t := 38) (v := k.v) rfl rfl L2.out) ?_)
    | (go_at_call 33; refine CS.out.mono ?_; rintro e w2 ⟨rfl, b2⟩; have B2 := hidMk b2; clear b2 CS)
    | fail)
  go_ret
  exact ⟨rfl, HB.out.trans (B2.out.mono HB.out.size)⟩
theorem bs_id0 (w : World) : (Instr.buildSlice 43 0 #[]).run Tryd.prog w = .ok (.slice (some ⟨w.heap.size, 0, none⟩) 0 0) (w.alloc (.cells #[] 38)) := by kernel_rfl
theorem ids_copy (W : World) {sv : Value} {I : List IdK} (h : SeenL W sv I) (hn : I.length ≤ 3518437208883) :
    ∃ e0 w1 u w2 ib w3 w4, (Instr.buildSlice 43 0 #[]).run Tryd.prog W = .ok e0 w1 ∧ Below W.heap.size W w1 ∧ (Builtin.append_ #[43, 43] 43 #[e0, sv]).run Tryd.prog w1 = .ok u w2 ∧ (Instr.alloc 43 true (.tuple #[])).run Tryd.prog w2 = .ok (.pointer (some ⟨ib, 0, none⟩)) w3 ∧ (Instr.storeAt 43 (.pointer (some ⟨ib, 0, none⟩)) u).run Tryd.prog w3 = .ok () w4 ∧ Below W.heap.size W w4 ∧ Tells w4 32 #[.pointer (some ⟨ib, 0, none⟩)] (fun k => decide (k ∈ I)) := by
  obtain ⟨a, c, rfl, hat⟩ := h.at'
  have b0 : Below W.heap.size W (W.alloc (.cells #[] 38)) := (Below.refl _ _).alloc (Nat.le_refl _) _
  have o0 : RI.Own (W.alloc (.cells #[] 38)) W.heap.size (.slice (some ⟨W.heap.size, 0, none⟩) 0 0) [] := ⟨by simp [RowT.flat], .inr ⟨W.heap.size, 0, #[], rfl, Nat.le_refl _, heap_alloc_new _ _, Nat.le_refl _, by decide, by simp, by simp [RowT.flat]⟩⟩
  obtain ⟨u, w2, E1, o1, g1, _⟩ := RowT.run_app RI_is _ W.heap.size _ [] a I c o0 (hat.below b0) h.ok (by simp; unfold maxLen; omega) (by simp; show _ * 40 ≤ _; omega) b0.size
  have b2 : Below W.heap.size W w2 := b0.grown g1 b0.size (fun k hk => (o0.cells hk).1)
  rw [List.nil_append] at o1
  obtain ⟨oa, oc, rfl⟩ := o1.form
  obtain ⟨w3, E3, i3⟩ := idl_new w2
  obtain ⟨w4, E4, n4, t4⟩ := idl_store (s := ⟨oa, I.length, oc⟩) i3.b
  have b34 : Below w2.heap.size w2 w4 := i3.bel.trans (t4.below i3.bel.size (fun j e => by rw [e]; exact Nat.le_refl _))
  refine ⟨_, _, _, w2, w2.heap.size, w3, w4, bs_id0 W, b0, E1, E3, E4, b2.trans (b34.mono b2.size), tells_st n4 (s := ⟨oa, I.length, oc⟩) (o1.below b34) h.ok (by omega)⟩
section
variable {W W' : World}
theorem op_kc {b o : Nat} {x : OpR} (h : W.rangeAt b o x.c) : (Instr.loadAt 3 (.pointer (some ⟨b, o + 0, none⟩))).run Tryd.prog W = .ok (.int .i64 x.kind) W := by
  have hc : W.cell? ⟨b, o, none⟩ = some (.int .i64 x.kind) := h 0 _ rfl
  go_simp
theorem op_bc {b o : Nat} {x : OpR} (hx : x.id.ok) (h : W.rangeAt b o x.c) : (Instr.loadAt 3 (.pointer (some ⟨b, o + 41, none⟩))).run Tryd.prog W = .ok (.int .i64 x.back) W := by
  have hc : W.cell? ⟨b, o + 41, none⟩ = some (.int .i64 x.back) := h 41 _ (by
    rw [OpR.c, show 41 = (33 + 6) + 1 + 1 by rfl, List.getElem?_cons_succ, List.getElem?_cons_succ, List.getElem?_append_right (by rw [IdK.len hx]; omega), IdK.len hx, List.getElem?_append_right (by rw [VaV.len]; omega), VaV.len]
    rfl)
  go_simp
theorem op_sc {b o : Nat} {x : OpR} (hx : x.id.ok) (hs : ∃ a n c, x.seen = .slice a n c) (h : W.rangeAt b o x.c) : (Instr.loadAt 43 (.pointer (some ⟨b, o + 40, none⟩))).run Tryd.prog W = .ok x.seen W := by
  have hc : W.cell? ⟨b, o + 40, none⟩ = some x.seen := h 40 _ (by
    rw [OpR.c, show 40 = (33 + 5) + 1 + 1 by rfl, List.getElem?_cons_succ, List.getElem?_cons_succ, List.getElem?_append_right (by rw [IdK.len hx]; omega), IdK.len hx, List.getElem?_append_right (by rw [VaV.len]; omega), VaV.len]
    rfl)
  obtain ⟨a, n, c, e⟩ := hs
  rw [e] at hc ⊢
  go_simp
theorem box_op (w : World) (o : OpR) : ∃ w1, (Instr.box 45 o.a).run Tryd.prog w = .ok (.pointer (some ⟨w.heap.size, 0, none⟩)) w1 ∧ w1.heap[w.heap.size]? = some (.cells o.c.toArray 45 (0, 0)) ∧ Below w.heap.size w w1 := ⟨_, by rw [run_box]; rfl, heap_alloc_new _ _, (Below.refl _ _).alloc (Nat.le_refl _) _⟩
structure Loc (o : OpR) (q : PlK) (ob pb : Nat) (W : World) : Prop where
  o : W.heap[ob]? = some (.cells o.c.toArray 45 (0, 0))
  p : Np pb q W
variable {B1 B2 x ro d : Nat} {p : Pz} {o : OpR} {q : PlK} {ob pb : Nat}
theorem Loc.below (h : Loc o q ob pb W) (b : Below W.heap.size W W') : Loc o q ob pb W' := ⟨(b.block _ (Array.getElem?_eq_some_iff.1 h.o).1).trans h.o, h.p.below b⟩
theorem Loc.prog (h : Loc o q ob pb W) (m : PM K W B1 B2 x ro d p) (t : Tch p.s.all W W') : Loc o q ob pb W' :=
  ⟨(t.block _ (Array.getElem?_eq_some_iff.1 h.o).1 (m.ra.mem.other h.o (by decide) (by decide))).trans h.o, (t.block _ (Array.getElem?_eq_some_iff.1 h.p).1 (m.ra.mem.other h.p (by decide) (by decide))).trans h.p⟩
theorem PM.rfNot (h : PM K W B1 B2 x ro d p) {j : Nat} {c : Array Value} {ty : TypeId} {fr : Nat × Nat} (h1 : W.heap[j]? = some (.cells c ty fr)) (h2 : ty ≠ 88) (h3 : ty ≠ 122) (h4 : ty ≠ 85) : ¬ rfB d p.v p.pv p.D j := fun q => by
  obtain ⟨_, c, ty, hc, e⟩ := rf_typ h.rf q
  have := two_types h1 hc
  rw [this] at h2 h3 h4
  rcases e with e | e | e
  · exact h2 e
  · exact h3 e
  · exact h4 e
theorem Loc.doc (h : Loc o q ob pb W) (m : PM K W B1 B2 x ro d p) (t : Tch (fun j => rfB d p.v p.pv p.D j) W W') : Loc o q ob pb W' :=
  ⟨(t.block _ (Array.getElem?_eq_some_iff.1 h.o).1 (m.rfNot h.o (by decide) (by decide) (by decide))).trans h.o, (t.block _ (Array.getElem?_eq_some_iff.1 h.p).1 (m.rfNot h.p (by decide) (by decide) (by decide))).trans h.p⟩
theorem infoBk : (Tryd.prog.info? 54).map (fun i => (i.zero, i.size, i.bytes)) = some (some (.pointer none), 1, 8) := by kernel_rfl
theorem infoIn : (Tryd.prog.info? 3).map (fun i => (i.zero, i.size, i.bytes)) = some (some (.int .i64 0), 1, 8) := by kernel_rfl
theorem st_dn2 {a b c0 e0 : Value} {s : SlV} (h : W.heap[x]? = some (.cells #[a, b, c0, e0] 33 (0, 0))) (hc0 : ∃ s : SlV, c0 = s.v) : ∃ w', (Instr.storeAt 30 (.pointer (some ⟨x, 0 + 2, none⟩)) s.v).run Tryd.prog W = .ok () w' ∧ w'.heap[x]? = some (.cells #[a, b, s.v, e0] 33 (0, 0)) ∧ Tch (fun j => j = x) W w' := by
  obtain ⟨s0, rfl⟩ := hc0
  have c2 : W.cell? ⟨x, 2, none⟩ = some (.slice s0.a s0.n s0.c) := (cell_of_row W x 2 _ _ _ h).trans rfl
  have f2 := frozen_of_row W x 2 _ _ h
  refine ⟨W.setCell ⟨x, 2, none⟩ (.slice s.a s.n s.c), ?_, ?_, ⟨rfl, rfl, rfl, by simp [World.setCell], fun j _ hj => Go.heap_setCell_other _ _ _ _ hj⟩⟩
  · unfold SlV.v
    go_simp
  · obtain ⟨hl2, hv⟩ := Array.getElem?_eq_some_iff.1 h
    simp [World.setCell, hl2, Array.getElem_modify_self, hv, SlV.v]
theorem st_dn3 {a b c0 e0 : Value} {s : SlV} (h : W.heap[x]? = some (.cells #[a, b, c0, e0] 33 (0, 0))) (hc0 : ∃ s : SlV, e0 = s.v) : ∃ w', (Instr.storeAt 31 (.pointer (some ⟨x, 0 + 3, none⟩)) s.v).run Tryd.prog W = .ok () w' ∧ w'.heap[x]? = some (.cells #[a, b, c0, s.v] 33 (0, 0)) ∧ Tch (fun j => j = x) W w' := by
  obtain ⟨s0, rfl⟩ := hc0
  have c2 : W.cell? ⟨x, 3, none⟩ = some (.slice s0.a s0.n s0.c) := (cell_of_row W x 3 _ _ _ h).trans rfl
  have f2 := frozen_of_row W x 3 _ _ h
  refine ⟨W.setCell ⟨x, 3, none⟩ (.slice s.a s.n s.c), ?_, ?_, ⟨rfl, rfl, rfl, by simp [World.setCell], fun j _ hj => Go.heap_setCell_other _ _ _ _ hj⟩⟩
  · unfold SlV.v
    go_simp
  · obtain ⟨hl2, hv⟩ := Array.getElem?_eq_some_iff.1 h
    simp [World.setCell, hl2, Array.getElem_modify_self, hv, SlV.v]
theorem ownV_sl {w : World} {B e : Nat} {v : Value} {X : List Value} (h : OwnV w B e v X) : ∃ s : SlV, v = s.v := by
  obtain ⟨a, c, e, _⟩ := h.open
  exact ⟨⟨a, _, c⟩, e⟩
theorem PM.pushB (h : PM K W B1 B2 x ro d p) (hB : B2 ≤ W.heap.size) (hn : p.BL.length + 1 ≤ 2200000000000) {bk : Nat} (hb : IsBk W bk) :
    ∃ sv w1 bv2 w2 w3, (Instr.loadAt 30 (.pointer (some ⟨x, 0 + 2, none⟩))).run Tryd.prog W = .ok p.bv W ∧ (Instr.buildSlice 30 1 #[(0, .pointer (some ⟨bk, 0, none⟩))]).run Tryd.prog W = .ok sv w1 ∧ (Builtin.append_ #[30, 30] 30 #[p.bv, sv]).run Tryd.prog w1 = .ok bv2 w2 ∧ (Instr.storeAt 30 (.pointer (some ⟨x, 0 + 2, none⟩)) bv2).run Tryd.prog w2 = .ok () w3 ∧ PM K w3 B1 B2 x ro d { p with bv := bv2, BL := p.BL ++ [bk] } ∧ Tch (plB x p) W w3 := by
  obtain ⟨sv, w1, bv2, w2, E1, b1, E2, o2, t2, ob2⟩ := run_pushV 30 54 8 (.pointer none) Tryd.underlying30 infoBk (.inl rfl) rfl (bkV bk) rfl rfl h.backs hB (by rw [List.length_map]; exact hn)
  have ne : ∀ {j : Nat} {c : Array Value} {ty : TypeId} {fr : Nat × Nat}, W.heap[j]? = some (.cells c ty fr) → ty ≠ 54 → w2.heap[j]? = W.heap[j]? := fun h1 h2 => t2.block _ (Array.getElem?_eq_some_iff.1 h1).1 fun e => by
    obtain ⟨_, c, hc⟩ := h.backs.ge _ e
    exact h2 (two_types h1 hc)
  obtain ⟨s2, rfl⟩ := ownV_sl o2
  obtain ⟨s0, hs0⟩ := ownV_sl h.backs
  obtain ⟨w3, E3, n3, t3⟩ := st_dn2 (s := s2) ((ne h.cell (by decide)).trans h.cell) ⟨s0, hs0⟩
  have t' : Tch (plB x p) W w3 := (t2.mono fun j _ e => Or.inr (Or.inl e)).trans' t3 (fun j _ e => Or.inl e)
  have nx : ∀ {j : Nat} {c : Array Value} {ty : TypeId} {fr : Nat × Nat}, w2.heap[j]? = some (.cells c ty fr) → ty ≠ 33 → w3.heap[j]? = w2.heap[j]? := fun h1 h2 => t3.block _ (Array.getElem?_eq_some_iff.1 h1).1 fun e => by
    rw [e, ne h.cell (by decide)] at h1
    exact h2 (two_types h1 h.cell)
  refine ⟨sv, w1, s2.v, w2, w3, ?_, E1, E2, E3, h.lists (bv' := s2.v) (BL' := p.BL ++ [bk]) (sv' := p.sv) (SL' := p.SL) t' n3 ?_ ?_ ?_ (fun j hj => hj.elim (fun e => ob2.elim (fun q => .inl (.inr (.inl (q ▸ e)))) (fun q => .inr (q j e))) (fun e => .inl (.inr (.inr e)))), t'⟩
  · rw [hs0]
    exact (h.ldb (a := s0.a) (n := s0.n) (c := s0.c) hs0).2
  · rw [List.map_append]
    refine o2.keep fun j hj => ?_
    obtain ⟨_, c, hc⟩ := o2.ge j hj
    exact nx hc (by decide)
  · refine h.steps.keep fun j hj => ?_
    obtain ⟨_, c, hc⟩ := h.steps.ge j hj
    have e2 := ne hc (by decide)
    exact (nx (e2.trans hc) (by decide)).trans e2
  · intro b hb'
    rcases List.mem_append.1 hb' with q | q
    · exact h.bk b q
    · rw [List.mem_singleton.1 q]; exact hb
theorem PM.pushS (h : PM K W B1 B2 x ro d p) (hB : B2 ≤ W.heap.size) (hn : p.SL.length + 1 ≤ 2200000000000) (z : Int) :
    ∃ sv w1 iv2 w2 w3, (Instr.buildSlice 31 1 #[(0, .int .i64 z)]).run Tryd.prog W = .ok sv w1 ∧ (Builtin.append_ #[31, 31] 31 #[p.sv, sv]).run Tryd.prog w1 = .ok iv2 w2 ∧ (Instr.storeAt 31 (.pointer (some ⟨x, 0 + 3, none⟩)) iv2).run Tryd.prog w2 = .ok () w3 ∧ (w1.heap[x]? = W.heap[x]? ∧ w2.heap[x]? = W.heap[x]?) ∧ PM K w3 B1 B2 x ro d { p with sv := iv2, SL := p.SL ++ [z] } ∧ Tch (plB x p) W w3 := by
  obtain ⟨sv, w1, iv2, w2, E1, b1, E2, o2, t2, ob2⟩ := run_pushV 31 3 8 (.int .i64 0) Tryd.underlying31 infoIn (.inl rfl) rfl (inV z) rfl rfl h.steps hB (by rw [List.length_map]; exact hn)
  have ne : ∀ {j : Nat} {c : Array Value} {ty : TypeId} {fr : Nat × Nat}, W.heap[j]? = some (.cells c ty fr) → ty ≠ 3 → w2.heap[j]? = W.heap[j]? := fun h1 h2 => t2.block _ (Array.getElem?_eq_some_iff.1 h1).1 fun e => by
    obtain ⟨_, c, hc⟩ := h.steps.ge _ e
    exact h2 (two_types h1 hc)
  obtain ⟨s2, rfl⟩ := ownV_sl o2
  obtain ⟨w3, E3, n3, t3⟩ := st_dn3 (s := s2) ((ne h.cell (by decide)).trans h.cell) (ownV_sl h.steps)
  have t' : Tch (plB x p) W w3 := (t2.mono fun j _ e => Or.inr (Or.inr e)).trans' t3 (fun j _ e => Or.inl e)
  have nx : ∀ {j : Nat} {c : Array Value} {ty : TypeId} {fr : Nat × Nat}, w2.heap[j]? = some (.cells c ty fr) → ty ≠ 33 → w3.heap[j]? = w2.heap[j]? := fun h1 h2 => t3.block _ (Array.getElem?_eq_some_iff.1 h1).1 fun e => by
    rw [e, ne h.cell (by decide)] at h1
    exact h2 (two_types h1 h.cell)
  refine ⟨sv, w1, s2.v, w2, w3, E1, E2, E3, ⟨b1.block _ (Array.getElem?_eq_some_iff.1 h.cell).1, ne h.cell (by decide)⟩, h.lists (bv' := p.bv) (BL' := p.BL) (sv' := s2.v) (SL' := p.SL ++ [z]) t' n3 ?_ ?_ h.bk (fun j hj => hj.elim (fun e => .inl (.inr (.inl e))) (fun e => ob2.elim (fun q => .inl (.inr (.inr (q ▸ e)))) (fun q => .inr (q j e)))), t'⟩
  · refine h.backs.keep fun j hj => ?_
    obtain ⟨_, c, hc⟩ := h.backs.ge j hj
    have e2 := ne hc (by decide)
    exact (nx (e2.trans hc) (by decide)).trans e2
  · rw [List.map_append]
    refine o2.keep fun j hj => ?_
    obtain ⟨_, c, hc⟩ := o2.ge j hj
    exact nx hc (by decide)
end
variable {K : Fm}
theorem Hist.lt {w : World} : ∀ {H : List Rec}, Hist w H → ∀ z ∈ H, z.bk < w.heap.size
  | [], _, z, hz => by cases hz
  | r :: H, h, z, hz => by
    rcases List.mem_cons.1 hz with rfl | hz
    · exact (Array.getElem?_eq_some_iff.1 h.1.b).1
    · exact Hist.lt h.2 z hz
theorem IsBk.lt {w : World} {b : Nat} (h : IsBk w b) : b < w.heap.size := by
  obtain ⟨c, hc⟩ := h
  exact (Array.getElem?_eq_some_iff.1 hc).1
structure GK (p : Pz) (q : PlK) (L : List EnV) (bk : Nat) (rc : Rec) (s' : Rs) : Prop where
  rk : rc.bk = bk
  li : ∀ z, liOf s'.P z = if z = q then L else liOf p.s.P z
  rp : rc.p = q
  rb : rc.bef = liOf p.s.P q
  f1 : ∀ z ∈ p.H, z.bk ≠ bk
  f2 : ∀ b ∈ p.BL, b ≠ bk
structure GD (p : Pz) (q : PlK) (L : List EnV) (X' : Sls) (g : SlV × Sls) : Prop where
  eg : ∀ z, entF g.2 z = entF p.X z
  lg : List.length g.2 = p.X.length
  eX : ∀ z, entF X' z = if z = q then L else entF p.X z
  lX : X'.length ≤ p.X.length + 1
structure GB (w0 : World) (B1 B2 bk : Nat) (W : World) : Prop where
  ib : IsBk W bk
  b : Below w0.heap.size w0 W
  h1 : B1 ≤ W.heap.size
  h2 : B2 ≤ W.heap.size
def G1 (K : Fm) (w0 : World) (B1 B2 x ro d : Nat) (p : Pz) (o : OpR) (q : PlK) (ob pb : Nat) (L : List EnV) (bk : Nat) (W : World) : Prop := ∃ rc s', GK p q L bk rc s' ∧ PM K W B1 B2 x ro d { p with s := s', H := rc :: p.H } ∧ Loc o q ob pb W ∧ GB w0 B1 B2 bk W
def G2 (K : Fm) (w0 : World) (B1 B2 x ro d : Nat) (p : Pz) (q : PlK) (L : List EnV) (bk : Nat) (W : World) : Prop := ∃ rc s' X' v' pv' g, GK p q L bk rc s' ∧ GD p q L X' g ∧ PM K W B1 B2 x ro d ⟨s', rc :: p.H, X', v', pv', p.D ++ [g], p.bv, p.BL, p.sv, p.SL⟩ ∧ GB w0 B1 B2 bk W
def G3 (K : Fm) (w0 : World) (B1 B2 x ro d : Nat) (p : Pz) (q : PlK) (L : List EnV) (bk : Nat) (bv2 : Value) (W : World) : Prop := ∃ rc s' X' v' pv' g, GK p q L bk rc s' ∧ GD p q L X' g ∧ PM K W B1 B2 x ro d ⟨s', rc :: p.H, X', v', pv', p.D ++ [g], bv2, p.BL ++ [bk], p.sv, p.SL⟩ ∧ GB w0 B1 B2 bk W
def SS (K : Fm) (B1 B2 x ro d : Nat) (o : OpR) (q : PlK) (ob pb : Nat) (W : World) : Prop := ∃ p, PM K W B1 B2 x ro d p ∧ Loc o q ob pb W
section
variable {w0 W W' : World} {B1 B2 x ro d m : Nat} {p : Pz} {o : OpR} {q : PlK} {ob pb : Nat} {L : List EnV} {bk : Nat}
theorem SS.drew (h : SS K B1 B2 x ro d o q ob pb W) : SS K B1 B2 x ro d o q ob pb W.drew := by
  obtain ⟨p, h1, h2⟩ := h
  exact ⟨p, h1.below (Below.refl _ _).drew, h2.below (Below.refl _ _).drew⟩
theorem GB.drew (h : GB w0 B1 B2 bk W) : GB w0 B1 B2 bk W.drew := by
  obtain ⟨c, hc⟩ := h.ib
  exact ⟨⟨c, hc⟩, h.b.drew, h.h1, h.h2⟩
theorem G1.drew (h : G1 K w0 B1 B2 x ro d p o q ob pb L bk W) : G1 K w0 B1 B2 x ro d p o q ob pb L bk W.drew := by
  obtain ⟨rc, s', k, pm, lc, gb⟩ := h
  exact ⟨rc, s', k, pm.below (Below.refl _ _).drew, lc.below (Below.refl _ _).drew, gb.drew⟩
theorem G3.drew {bv2 : Value} (h : G3 K w0 B1 B2 x ro d p q L bk bv2 W) : G3 K w0 B1 B2 x ro d p q L bk bv2 W.drew := by
  obtain ⟨rc, s', X', v', pv', g, k, gd, pm, gb⟩ := h
  exact ⟨rc, s', X', v', pv', g, k, gd, pm.below (Below.refl _ _).drew, gb.drew⟩
theorem op_prog (h : PY K w0 B1 B2 x ro d m p W) (lc : Loc o q ob pb W) {e : Ending} (hop : OpE W B1 p.s p.H q L e W') : ∃ bk, e = .returned (.pointer (some ⟨bk, 0, none⟩)) ∧ SS K B1 B2 x ro d o q ob pb W' ∧ G1 K w0 B1 B2 x ro d p o q ob pb L bk W' := by
  obtain ⟨rc, s', rfl, hn⟩ := hop
  have pm' := h.pm.prog hn.at' hn.r hn.al hn.tch hn.z
  have lc' := lc.prog h.pm hn.tch
  refine ⟨rc.bk, rfl, ⟨_, pm', lc'⟩, rc, s', ⟨rfl, hn.li, hn.rp, hn.rb, fun z hz e => ?_, fun b hb e => ?_⟩, pm', lc', ⟨⟨_, hn.at'.hist.1.b⟩, h.pm.progB hn.tch h.bel h.l1, Nat.le_trans h.h1 hn.tch.size, Nat.le_trans h.h2 hn.tch.size⟩⟩
  · have := h.pm.ra.hist.lt z hz
    have := hn.new
    omega
  · have := (h.pm.bk b hb).lt
    have := hn.new
    omega
theorem op_doc (l2 : w0.heap.size ≤ B2) (h : G1 K w0 B1 B2 x ro d p o q ob pb L bk W) (hr : RfO B2 W d p.X p.v p.pv p.D q L W') : SS K B1 B2 x ro d o q ob pb W' ∧ G2 K w0 B1 B2 x ro d p q L bk W' := by
  obtain ⟨rc, s', k, pm, lc, gb⟩ := h
  obtain ⟨X', v', pv', g, rf', eg, lg, eX, lX, t, dE, rB⟩ := hr
  have pm' := pm.doc rf' t dE rB
  have lc' := lc.doc pm t
  refine ⟨⟨_, pm', lc'⟩, rc, s', X', v', pv', g, k, ⟨eg, lg, eX, lX⟩, pm', ⟨?_, pm.docB t gb.b l2, Nat.le_trans gb.h1 t.size, Nat.le_trans gb.h2 t.size⟩⟩
  obtain ⟨c, hc⟩ := gb.ib
  exact ⟨c, (t.block _ (Array.getElem?_eq_some_iff.1 hc).1 (pm.rfNot hc (by decide) (by decide) (by decide))).trans hc⟩
theorem PM.plNot (h : PM K W B1 B2 x ro d p) {j : Nat} {c : Array Value} {ty : TypeId} {fr : Nat × Nat} (h1 : W.heap[j]? = some (.cells c ty fr)) (h2 : ty ≠ 33) (h3 : ty ≠ 54) (h4 : ty ≠ 3) : ¬ plB x p j := fun q => by
  obtain ⟨_, c, ty, hc, e⟩ := pl_typ h q
  have := two_types h1 hc
  rw [this] at h2 h3 h4
  rcases e with e | e | e
  · exact h2 e
  · exact h3 e
  · exact h4 e
theorem tail18 (l2 : w0.heap.size ≤ B2) (hn : p.BL.length + 1 ≤ 2200000000000) (h : G2 K w0 B1 B2 x ro d p q L bk W) :
    ∃ sv w1 bv2 w2 w3, (Instr.loadAt 30 (.pointer (some ⟨x, 0 + 2, none⟩))).run Tryd.prog W = .ok p.bv W ∧ (Instr.buildSlice 30 1 #[(0, .pointer (some ⟨bk, 0, none⟩))]).run Tryd.prog W = .ok sv w1 ∧ (Builtin.append_ #[30, 30] 30 #[p.bv, sv]).run Tryd.prog w1 = .ok bv2 w2 ∧ (Instr.storeAt 30 (.pointer (some ⟨x, 0 + 2, none⟩)) bv2).run Tryd.prog w2 = .ok () w3 ∧ G3 K w0 B1 B2 x ro d p q L bk bv2 w3 := by
  obtain ⟨rc, s', X', v', pv', g, k, gd, pm, gb⟩ := h
  obtain ⟨sv, w1, bv2, w2, w3, e0, e1, e2, e3, pm', t⟩ := pm.pushB gb.h2 hn gb.ib
  refine ⟨sv, w1, bv2, w2, w3, e0, e1, e2, e3, rc, s', X', v', pv', g, k, gd, pm', ⟨?_, pm.listsB t gb.b l2, Nat.le_trans gb.h1 t.size, Nat.le_trans gb.h2 t.size⟩⟩
  obtain ⟨c, hc⟩ := gb.ib
  exact ⟨c, (t.block _ (Array.getElem?_eq_some_iff.1 hc).1 (pm.plNot hc (by decide) (by decide) (by decide))).trans hc⟩
def XC (x ro d : Nat) (bv sv : Value) (W : World) : Prop := W.heap[x]? = some (.cells #[.pointer (some ⟨ro, 0, none⟩), .pointer (some ⟨d, 0, none⟩), bv, sv] 33 (0, 0))
theorem tail19 (l1 : w0.heap.size ≤ B1) (l2 : w0.heap.size ≤ B2) (h0 : Link p) (mb : p.BL.length ≤ m) (md : p.D.length ≤ m) (mx : ∀ Y, (Y = p.X ∨ ∃ h ∈ p.D, Y = h.2) → Y.length ≤ m ∧ ∀ q, (entF Y q).length ≤ m) (hm : m + 1 ≤ 2200000000000) (hL : L.length ≤ m + 1) (kp : ∀ Y, (Y = p.X ∨ ∃ h ∈ p.D, Y = h.2) → ∀ q, entF Y q ≠ [] → q ∈ K.ps) (kn : K.ps.length ≤ 1499999999999) (hq : q ∈ K.ps) {bv2 : Value} (h : G3 K w0 B1 B2 x ro d p q L bk bv2 W) :
    ∃ sv w1 iv2 w2 w3, XC x ro d bv2 p.sv W ∧ (∃ s : SlV, p.sv = s.v) ∧ (Calls Tryd.prog 38 #[.pointer (some ⟨d, 0, none⟩)] W fun e w' => e = .returned (.int .i64 ((p.D.length + 1 : Nat) : Int)) ∧ w' = W) ∧ (Instr.buildSlice 31 1 #[(0, .int .i64 ((p.D.length + 1 : Nat) : Int))]).run Tryd.prog W = .ok sv w1 ∧ XC x ro d bv2 p.sv w1 ∧ (Builtin.append_ #[31, 31] 31 #[p.sv, sv]).run Tryd.prog w1 = .ok iv2 w2 ∧ XC x ro d bv2 p.sv w2 ∧ (Instr.storeAt 31 (.pointer (some ⟨x, 0 + 3, none⟩)) iv2).run Tryd.prog w2 = .ok () w3 ∧ ∃ p', PY K w0 B1 B2 x ro d (m + 1) p' w3 := by
  obtain ⟨rc, s', X', v', pv', g, k, gd, pm, gb⟩ := h
  obtain ⟨sv, w1, iv2, w2, w3, e1, e2, e3, ex, pm', t⟩ := pm.pushS gb.h2 (by have := h0.len; simp only; omega) ((p.D.length + 1 : Nat) : Int)
  have cs := rf_steps pm.rf
  simp only [List.length_append, List.length_singleton] at cs
  have lk := h0.done (s' := s') k.rp k.rb k.li gd.eg gd.eX (fun z hz e => k.f1 z hz (e.trans k.rk)) (fun b hb e => k.f2 b hb (e.trans k.rk)) v' pv' bv2 iv2
  rw [k.rk] at lk
  refine ⟨sv, w1, iv2, w2, w3, pm.cell, ownV_sl pm.steps, cs, e1, ex.1.trans pm.cell, e2, ex.2.trans pm.cell, e3, _, pm', lk, ?_, ?_, fun Y hY => ?_, pm.listsB t gb.b l2, l1, l2, Nat.le_trans gb.h1 t.size, Nat.le_trans gb.h2 t.size, fun Y hY => ?_, kn⟩
  · simp only [List.length_append, List.length_singleton]; omega
  · simp only [List.length_append, List.length_singleton]; omega
  · have hx := mx p.X (.inl rfl)
    rcases hY with rfl | ⟨z, hz, rfl⟩
    · refine ⟨by have := gd.lX; omega, fun z => ?_⟩
      rw [gd.eX]
      by_cases e : z = q
      · rw [if_pos e]; exact hL
      · rw [if_neg e]; have := hx.2 z; omega
    · rcases List.mem_append.1 hz with hz | hz
      · have := mx z.2 (.inr ⟨z, hz, rfl⟩)
        exact ⟨by omega, fun y => by have := this.2 y; omega⟩
      · rw [List.mem_singleton.1 hz]
        refine ⟨by have := gd.lg; omega, fun y => ?_⟩
        rw [gd.eg]
        have := hx.2 y
        omega
  · rcases hY with rfl | ⟨z, hz, rfl⟩
    · intro z hz
      rw [gd.eX] at hz
      by_cases e : z = q
      · rw [e]; exact hq
      · rw [if_neg e] at hz; exact kp p.X (.inl rfl) z hz
    · rcases List.mem_append.1 hz with hz | hz
      · exact kp z.2 (.inr ⟨z, hz, rfl⟩)
      · rw [List.mem_singleton.1 hz]
        intro y hy
        rw [gd.eg] at hy
        exact kp p.X (.inl rfl) y hy
theorem xc_d {bv sv : Value} (h : XC x ro d bv sv W) : (Instr.loadAt 28 (.pointer (some ⟨x, 0 + 1, none⟩))).run Tryd.prog W = .ok (.pointer (some ⟨d, 0, none⟩)) W := by
  have hc : W.cell? ⟨x, 1, none⟩ = some (.pointer (some ⟨d, 0, none⟩)) := (cell_of_row W x 1 _ _ _ h).trans rfl
  go_simp
theorem xc_s {bv sv : Value} (hs : ∃ s : SlV, sv = s.v) (h : XC x ro d bv sv W) : (Instr.loadAt 31 (.pointer (some ⟨x, 0 + 3, none⟩))).run Tryd.prog W = .ok sv W := by
  obtain ⟨s, rfl⟩ := hs
  have hc : W.cell? ⟨x, 3, none⟩ = some (.slice s.a s.n s.c) := (cell_of_row W x 3 _ _ _ h).trans rfl
  unfold SlV.v
  go_simp
end
variable {K : Fm}
structure OpS (w0 : World) (o : OpR) (I : List IdK) : Prop where
  ok : o.ok w0
  sn : SeenL w0 o.seen I
  n : I.length ≤ 3518437208883
set_option maxHeartbeats 16000000 in
theorem dstep_any {w0 w : World} {B1 B2 x ro d m : Nat} {p : Pz} (h : PY K w0 B1 B2 x ro d m p w) (hm : m + 1 ≤ 2200000000000) {pa : Option Addr} {pc : Nat} {Ps : List PlK} (hP : RowAt 67 PlK.c w0 pa Ps) (okP : ∀ x ∈ Ps, x.ok) (hPn : Ps.length ≤ 2000000000000) (hKP : ∀ z, atP Ps z ∈ K.ps) {o : OpR} {I : List IdK} (ho : OpS w0 o I) :
    Calls Tryd.prog 11 #[.pointer (some ⟨x, 0, none⟩), o.a, .slice pa Ps.length pc] w fun e w' => e = .returned (.bool true) ∧ ∃ p', PY K w0 B1 B2 x ro d (m + 1) p' w' := by
  have HH := hidMk h
  have HO := hidMk ho
  obtain ⟨pn, hpn⟩ : ∃ n, Ps.length = n := ⟨_, rfl⟩
  obtain ⟨wb, EB, nb, bb⟩ := box_op w o
  obtain ⟨ob, hob⟩ : ∃ b, w.heap.size = b := ⟨_, rfl⟩
  obtain ⟨q, hq0⟩ : ∃ q, atP Ps o.pl = q := ⟨_, rfl⟩
  have hq : q.ok := by rw [← hq0]; exact atP_ok okP _
  have HKQ : Hid (q ∈ K.ps) := by rw [← hq0]; exact hKP _
  have HLQ : Hid ((liOf p.s.P q).length ≤ m) := by
    have := (h.mx p.X (.inl rfl)).2 q
    rw [h.ln.eq] at this
    exact this
  rw [hob] at EB nb
  have HBB := hidMk bb
  have CA : Hid (Calls Tryd.prog 15 #[.slice pa pn pc, .int .i64 o.pl] wb fun e w' => e = .returned q.v ∧ ∃ pb w1 w2, (Instr.alloc 52 true (.tuple #[])).run Tryd.prog w' = .ok (.pointer (some ⟨pb, 0, none⟩)) w1 ∧ (Instr.storeAt 52 (.pointer (some ⟨pb, 0, none⟩)) q.v).run Tryd.prog w1 = .ok () w2 ∧ (Below w.heap.size w w2 ∧ Loc o q ob pb w2)) := by
    have b0 := h.bel.trans (bb.mono h.bel.size)
    rw [← hpn]
    refine (at_any (hP.below b0) okP hPn ho.ok.pl).mono ?_
    rintro e w' ⟨rfl, b⟩
    rw [hq0]
    obtain ⟨w1, w2, e1, e2, n2, b2⟩ := pl_new w' hq
    have b12 := b.trans (b2.mono b.size)
    exact ⟨rfl, w'.heap.size, w1, w2, e1, e2, bb.trans (b12.mono bb.size), ⟨(b12.block _ (Array.getElem?_eq_some_iff.1 nb).1).trans nb, n2⟩⟩
  have LPL : Hid ((Instr.loadAt 3 (.pointer (some ⟨ob, 0 + 1, none⟩))).run Tryd.prog wb = .ok (.int .i64 o.pl) wb) := op_plc (rng_cells nb)
  have HEB := hidMk EB
  have hkd := ho.ok.kind
  rw [hpn]
  clear h ho hP okP hPn hpn hq0 EB nb bb hob
  go_enter Tryd.func11, Tryd.ntmps11
  go_upto_region 1 with (first
    | (refine wpList_run rfl (exec_boxE (t := 45) (v := o.a) (u := .pointer (some ⟨ob, 0, none⟩)) (w2 := wb) rfl rfl HEB.out) ?_)
    | fail)
  refine stp1 (ob := ob) (pn := pn) (pc := pc) (pa := pa) (o := o) (p := q) (fun pb w' => Below w.heap.size w w' ∧ Loc o q ob pb w') _ wb _ rfl rfl rfl (fun W e => by rw [e]; exact LPL.out) CA.out ?_
  intro pb a' w1 hf ha
  subst ha
  simp only [Act.put, List.setIfInBounds_toArray, List.set_cons_zero, List.set_cons_succ]
  have K1 := hidMk hf
  clear hf CA LPL HEB HBB
  obtain ⟨e0, y1, u, y2, ib, y3, w4, E0, b1, E1, E2, E3, b4, tl⟩ := ids_copy w1 (HO.out.sn.below (HH.out.bel.trans (K1.out.1.mono HH.out.bel.size))) HO.out.n
  have LSN : Hid ((Instr.loadAt 43 (.pointer (some ⟨ob, 0 + 40, none⟩))).run Tryd.prog y1 = .ok o.seen y1) := by
    obtain ⟨sa, sc, es, _⟩ := HO.out.sn.at'
    exact op_sc HO.out.ok.id ⟨_, _, _, es⟩ (rng_cells (K1.out.2.below b1).o)
  have HE := hidMk (And.intro E0 (And.intro E1 (And.intro E2 E3)))
  have B4 : Hid (Below w.heap.size w w4) := K1.out.1.trans (b4.mono K1.out.1.size)
  have LC4 := hidMk (K1.out.2.below b4)
  have TL4 := hidMk tl
  clear E0 b1 E1 E2 E3 b4 tl K1
  go_upto_region 2 with fail
  refine stp2 (ob := ob) (ib := ib) (o := o) (e0 := e0) (u := u) (w1 := y1) (w2 := y2) (w3 := y3) (w4 := w4) _ w1 _ rfl rfl (fun W e => by rw [e]; exact LSN.out) HE.out.1 HE.out.2.1 HE.out.2.2.1 HE.out.2.2.2 ?_
  intro a' w5 hf ha
  subst ha
  obtain rfl : w4 = w5 := hf.symm
  simp only [Act.put, List.setIfInBounds_toArray, List.set_cons_zero, List.set_cons_succ]
  clear HE LSN
  have LKD : Hid ((Instr.loadAt 3 (.pointer (some ⟨ob, 0 + 0, none⟩))).run Tryd.prog w4 = .ok (.int .i64 o.kind) w4) := op_kc (rng_cells LC4.out.o)
  have LBK : Hid ((Instr.loadAt 3 (.pointer (some ⟨ob, 0 + 41, none⟩))).run Tryd.prog w4 = .ok (.int .i64 o.back) w4) := op_bc HO.out.ok.id (rng_cells LC4.out.o)
  go_upto_region 5 with fail
  refine stp5 (ob := ob) (o := o) _ w4 _ rfl rfl (fun W e => by rw [e]; exact LKD.out) ?_
  intro a' w5 hf ha
  subst ha
  obtain rfl : w4 = w5 := hf.symm
  simp only [Act.put, List.setIfInBounds_toArray, List.set_cons_zero, List.set_cons_succ]
  have bd : Below w4.heap.size w4 w4.drew := (Below.refl _ _).drew
  have P4 : Hid (PY K w0 B1 B2 x ro d m p w4.drew) := (HH.out.below B4.out).below bd
  have L4 := hidMk (LC4.out.below bd)
  have T4 := hidMk (TL4.out.below bd)
  have S4 : Hid (SS K B1 B2 x ro d o q ob pb w4.drew) := ⟨p, P4.out.pm, L4.out⟩
  have LL : Hid (∀ W, SS K B1 B2 x ro d o q ob pb W → (Instr.loadAt 26 (.pointer (some ⟨x, 0 + 0, none⟩))).run Tryd.prog W = .ok (.pointer (some ⟨ro, 0, none⟩)) W ∧ (Instr.loadAt 28 (.pointer (some ⟨x, 0 + 1, none⟩))).run Tryd.prog W = .ok (.pointer (some ⟨d, 0, none⟩)) W ∧ (Instr.loadAt 52 (.pointer (some ⟨pb, 0, none⟩))).run Tryd.prog W = .ok q.v W ∧ (Instr.loadAt 38 (.pointer (some ⟨ob, 0 + 2, none⟩))).run Tryd.prog W = .ok o.id.v W ∧ (Instr.loadAt 42 (.pointer (some ⟨ob, 0 + 35, none⟩))).run Tryd.prog W = .ok o.v.v W ∧ (Instr.loadAt 2 (.pointer (some ⟨ob, 0 + 39, none⟩))).run Tryd.prog W = .ok (.int .i64 o.n) W ∧ (Instr.loadAt 43 (.pointer (some ⟨ob, 0 + 40, none⟩))).run Tryd.prog W = .ok o.seen W) := by
    rintro W ⟨p', pm, lc⟩
    have rg := rng_cells lc.o
    obtain ⟨sa, sc, es, _⟩ := HO.out.sn.at'
    exact ⟨pm.ldr, pm.ldd, ld_pl hq (rng_cells lc.p), op_idc HO.out.ok.id rg, op_vac HO.out.ok.id rg, op_nc HO.out.ok.id rg, op_sc HO.out.ok.id ⟨_, _, _, es⟩ rg⟩
  have CU : Hid (Calls Tryd.prog 37 #[.pointer (some ⟨x, 0, none⟩), .int .i64 o.back] w4 fun e w' => e = .returned (.bool true) ∧ ∃ p', PY K w0 B1 B2 x ro d (m + 1) p' w') := by
    refine (dundo_any (HH.out.below B4.out) (by omega) HO.out.ok.back).mono ?_
    rintro e w' ⟨rfl, p', py, _⟩
    exact ⟨rfl, p', py.mono (Nat.le_succ _)⟩
  have SAME : Hid (∃ p', PY K w0 B1 B2 x ro d (m + 1) p' w4) := ⟨p, (HH.out.below B4.out).mono (Nat.le_succ _)⟩
  obtain ⟨kd, hke⟩ : ∃ k, o.kind = k := ⟨_, rfl⟩
  rw [hke] at hkd ⊢
  clear LKD bd LC4 TL4 B4 hke
  by_cases h0 : kd = 0
  · subst h0
    clear hkd CU SAME LBK
    obtain ⟨L, hLe⟩ : ∃ L, Rg.res (inL I) (liOf p.s.P q) ++ [⟨o.id, o.v⟩] = L := ⟨_, rfl⟩
    have hLb : L.length ≤ m + 1 := by
      rw [← hLe]
      have h1 := Rg.res_len (inL I) (liOf p.s.P q) 0
      have h2 := HLQ.out
      rw [List.length_append, List.length_singleton]
      omega
    have HLL := hidMk hLb
    clear hLb
    have CC : Hid (Calls Tryd.prog 16 #[.pointer (some ⟨ro, 0, none⟩), q.v, o.id.v, o.v.v, .func (.func 32) #[] #[.pointer (some ⟨ib, 0, none⟩)]] w4.drew fun e w' => ∃ bk, e = .returned (.pointer (some ⟨bk, 0, none⟩)) ∧ SS K B1 B2 x ro d o q ob pb w' ∧ G1 K w0 B1 B2 x ro d p o q ob pb L bk w') := by
      have py := P4.out
      have cc := put_any py.pm.ra py.h1 hq HO.out.ok.id HO.out.ok.v (.inr ⟨_, _, rfl, T4.out⟩) (by have := HLQ.out; omega)
      rw [py.pm.r] at cc
      refine cc.mono fun e w' hop => ?_
      have hop2 : OpE w4.drew B1 p.s p.H q L e w' := by rw [← hLe]; exact hop
      exact op_prog py L4.out hop2
    have CD : Hid (∀ bk W, G1 K w0 B1 B2 x ro d p o q ob pb L bk W → Calls Tryd.prog 34 #[.pointer (some ⟨d, 0, none⟩), q.v, o.id.v, o.v.v, o.seen] W.drew fun e w' => e = .returned (.tuple #[]) ∧ SS K B1 B2 x ro d o q ob pb w' ∧ G2 K w0 B1 B2 x ro d p q L bk w') := by
      intro bk W g0
      have g1 := g0.drew
      have gg := g1
      obtain ⟨rc, s', k, pm, lc, gb⟩ := gg
      have hxl := HH.out.xl
      have hxe := (HH.out.mx p.X (.inl rfl)).2 q
      have hdl := HH.out.md
      have cc := rf_put pm.rf gb.h2 gb.b HH.out.l2 (by simp only; omega) (by simp only; omega) hq HO.out.ok.id HO.out.ok.v HO.out.sn (by simp only; omega)
      refine cc.mono ?_
      rintro e w' ⟨rfl, rfo⟩
      simp only at rfo
      rw [HH.out.ln.eq, show _ = L from hLe] at rfo
      exact ⟨rfl, op_doc HH.out.l2 g1 rfo⟩
    clear hLe
    go_upto_region 8 with fail
    refine stp8 (x := x) (rb := ro) (ob := ob) (pb := pb) (o := o) (p := q) (fv := .func (.func 32) #[] #[.pointer (some ⟨ib, 0, none⟩)]) (SS K B1 B2 x ro d o q ob pb) (G1 K w0 B1 B2 x ro d p o q ob pb L) _ w4 _ rfl rfl rfl rfl rfl S4.out (fun W h => (LL.out W h).1) (fun W h => (LL.out W h).2.2.1) (fun W h => (LL.out W h).2.2.2.1) (fun W h => (LL.out W h).2.2.2.2.1) CC.out ?_
    intro bk a' w5 hf ha
    subst ha
    simp only [Act.put, List.setIfInBounds_toArray, List.set_cons_zero, List.set_cons_succ]
    have K1 := hidMk hf
    have S5 : Hid (SS K B1 B2 x ro d o q ob pb w5.drew) := by
      obtain ⟨rc, s', k, pm, lc, gb⟩ := hf.drew
      exact ⟨_, pm, lc⟩
    clear hf CC S4 P4 L4 T4
    go_upto_region 9 with fail
    refine stp9 (x := x) (d := d) (ob := ob) (pb := pb) (o := o) (p := q) (SS K B1 B2 x ro d o q ob pb) (G2 K w0 B1 B2 x ro d p q L bk) _ w5 _ rfl rfl rfl rfl S5.out (fun W h => (LL.out W h).2.1) (fun W h => (LL.out W h).2.2.1) (fun W h => (LL.out W h).2.2.2.1) (fun W h => (LL.out W h).2.2.2.2.1) (fun W h => (LL.out W h).2.2.2.2.2.2) (CD.out bk w5 K1.out) ?_
    intro a' w6 hf ha
    subst ha
    simp only [Act.put, List.setIfInBounds_toArray, List.set_cons_zero, List.set_cons_succ]
    clear K1 S5 LL
    obtain ⟨sv, y1, bv2, y2, y3, l18, e18a, e18b, e18c, g3⟩ := tail18 HH.out.l2 (by have := HH.out.mb; omega) hf
    have H18 := hidMk (And.intro l18 (And.intro e18a (And.intro e18b e18c)))
    have K3 := hidMk g3.drew
    clear hf g3 l18 e18a e18b e18c CD
    go_upto_region 18 with fail
    refine stp18 (x := x) (bk := bk) (bv := p.bv) (sv := sv) (bv2 := bv2) (w1 := y1) (w2 := y2) (w3 := y3) _ w6 _ rfl rfl rfl (fun W e => by rw [e]; exact H18.out.1) H18.out.2.1 H18.out.2.2.1 H18.out.2.2.2 ?_
    intro a' w7 hf ha
    subst ha
    obtain rfl : y3 = w7 := hf.symm
    simp only [Act.put, List.setIfInBounds_toArray, List.set_cons_zero, List.set_cons_succ]
    clear H18
    obtain ⟨sv2, z1, iv2, z2, z3, x0, xs, cs, e19a, x1, e19b, x2, e19c, pyz⟩ := tail19 HH.out.l1 HH.out.l2 HH.out.ln HH.out.mb HH.out.md HH.out.mx hm HLL.out HH.out.kp HH.out.kn HKQ.out K3.out
    have X0 := hidMk x0
    have XS := hidMk xs
    have CSS := hidMk cs
    have H19 := hidMk (And.intro e19a (And.intro x1 (And.intro e19b (And.intro x2 e19c))))
    have PYZ := hidMk pyz
    clear x0 xs cs e19a x1 e19b x2 e19c pyz K3
    go_upto_region 19 with fail
    refine stp19 (x := x) (d := d) (z := ((p.D.length + 1 : Nat) : Int)) (iv := p.sv) (sv := sv2) (iv2 := iv2) (w1 := z1) (w2 := z2) (w3 := z3) (XC x ro d bv2 p.sv) _ y3 _ rfl rfl X0.out (fun W h => xc_s XS.out h) (fun W h => xc_d h) CSS.out X0.out H19.out.1 H19.out.2.1 H19.out.2.2.1 H19.out.2.2.2.1 H19.out.2.2.2.2 ?_
    intro a' w8 hf ha
    subst ha
    obtain rfl : z3 = w8 := hf.symm
    simp only [Act.put, List.setIfInBounds_toArray, List.set_cons_zero, List.set_cons_succ]
    clear H19 CSS X0 XS HLL
    go_wp2
    go_ret
    exact ⟨rfl, PYZ.out⟩
  · by_cases h1 : kd = 1
    · subst h1
      clear hkd CU SAME LBK h0
      obtain ⟨L, hLe⟩ : ∃ L, Rg.res (inL I) (liOf p.s.P q) = L := ⟨_, rfl⟩
      have hLb : L.length ≤ m + 1 := by
        rw [← hLe]
        have h1 := Rg.res_len (inL I) (liOf p.s.P q) 0
        have h2 := HLQ.out
        omega
      have HLL := hidMk hLb
      clear hLb
      have CC : Hid (Calls Tryd.prog 17 #[.pointer (some ⟨ro, 0, none⟩), q.v, .func (.func 32) #[] #[.pointer (some ⟨ib, 0, none⟩)]] w4.drew fun e w' => ∃ bk, e = .returned (.pointer (some ⟨bk, 0, none⟩)) ∧ SS K B1 B2 x ro d o q ob pb w' ∧ G1 K w0 B1 B2 x ro d p o q ob pb L bk w') := by
        have py := P4.out
        have cc := delete_any py.pm.ra py.h1 hq (.inr ⟨_, _, rfl, T4.out⟩) (by have := HLQ.out; omega)
        rw [py.pm.r] at cc
        refine cc.mono fun e w' hop => ?_
        have hop2 : OpE w4.drew B1 p.s p.H q L e w' := by rw [← hLe]; exact hop
        exact op_prog py L4.out hop2
      have CD : Hid (∀ bk W, G1 K w0 B1 B2 x ro d p o q ob pb L bk W → Calls Tryd.prog 35 #[.pointer (some ⟨d, 0, none⟩), q.v, o.seen] W.drew fun e w' => e = .returned (.tuple #[]) ∧ SS K B1 B2 x ro d o q ob pb w' ∧ G2 K w0 B1 B2 x ro d p q L bk w') := by
        intro bk W g0
        have g1 := g0.drew
        have gg := g1
        obtain ⟨rc, s', k, pm, lc, gb⟩ := gg
        have hxl := HH.out.xl
        have hxe := (HH.out.mx p.X (.inl rfl)).2 q
        have hdl := HH.out.md
        have cc := rf_delete pm.rf gb.h2 gb.b HH.out.l2 (by simp only; omega) (by simp only; omega) hq HO.out.sn
        refine cc.mono ?_
        rintro e w' ⟨rfl, rfo⟩
        simp only at rfo
        rw [HH.out.ln.eq, show _ = L from hLe] at rfo
        exact ⟨rfl, op_doc HH.out.l2 g1 rfo⟩
      clear hLe
      go_upto_region 11 with fail
      refine stp11 (x := x) (rb := ro) (ob := ob) (pb := pb) (o := o) (p := q) (fv := .func (.func 32) #[] #[.pointer (some ⟨ib, 0, none⟩)]) (SS K B1 B2 x ro d o q ob pb) (G1 K w0 B1 B2 x ro d p o q ob pb L) _ w4 _ rfl rfl rfl rfl rfl S4.out (fun W h => (LL.out W h).1) (fun W h => (LL.out W h).2.2.1) CC.out ?_
      intro bk a' w5 hf ha
      subst ha
      simp only [Act.put, List.setIfInBounds_toArray, List.set_cons_zero, List.set_cons_succ]
      have K1 := hidMk hf
      have S5 : Hid (SS K B1 B2 x ro d o q ob pb w5.drew) := by
        obtain ⟨rc, s', k, pm, lc, gb⟩ := hf.drew
        exact ⟨_, pm, lc⟩
      clear hf CC S4 P4 L4 T4
      go_upto_region 12 with fail
      refine stp12 (x := x) (d := d) (ob := ob) (pb := pb) (o := o) (p := q) (SS K B1 B2 x ro d o q ob pb) (G2 K w0 B1 B2 x ro d p q L bk) _ w5 _ rfl rfl rfl rfl S5.out (fun W h => (LL.out W h).2.1) (fun W h => (LL.out W h).2.2.1) (fun W h => (LL.out W h).2.2.2.2.2.2) (CD.out bk w5 K1.out) ?_
      intro a' w6 hf ha
      subst ha
      simp only [Act.put, List.setIfInBounds_toArray, List.set_cons_zero, List.set_cons_succ]
      clear K1 S5 LL
      obtain ⟨sv, y1, bv2, y2, y3, l18, e18a, e18b, e18c, g3⟩ := tail18 HH.out.l2 (by have := HH.out.mb; omega) hf
      have H18 := hidMk (And.intro l18 (And.intro e18a (And.intro e18b e18c)))
      have K3 := hidMk g3.drew
      clear hf g3 l18 e18a e18b e18c CD
      go_upto_region 18 with fail
      refine stp18 (x := x) (bk := bk) (bv := p.bv) (sv := sv) (bv2 := bv2) (w1 := y1) (w2 := y2) (w3 := y3) _ w6 _ rfl rfl rfl (fun W e => by rw [e]; exact H18.out.1) H18.out.2.1 H18.out.2.2.1 H18.out.2.2.2 ?_
      intro a' w7 hf ha
      subst ha
      obtain rfl : y3 = w7 := hf.symm
      simp only [Act.put, List.setIfInBounds_toArray, List.set_cons_zero, List.set_cons_succ]
      clear H18
      obtain ⟨sv2, z1, iv2, z2, z3, x0, xs, cs, e19a, x1, e19b, x2, e19c, pyz⟩ := tail19 HH.out.l1 HH.out.l2 HH.out.ln HH.out.mb HH.out.md HH.out.mx hm HLL.out HH.out.kp HH.out.kn HKQ.out K3.out
      have X0 := hidMk x0
      have XS := hidMk xs
      have CSS := hidMk cs
      have H19 := hidMk (And.intro e19a (And.intro x1 (And.intro e19b (And.intro x2 e19c))))
      have PYZ := hidMk pyz
      clear x0 xs cs e19a x1 e19b x2 e19c pyz K3
      go_upto_region 19 with fail
      refine stp19 (x := x) (d := d) (z := ((p.D.length + 1 : Nat) : Int)) (iv := p.sv) (sv := sv2) (iv2 := iv2) (w1 := z1) (w2 := z2) (w3 := z3) (XC x ro d bv2 p.sv) _ y3 _ rfl rfl X0.out (fun W h => xc_s XS.out h) (fun W h => xc_d h) CSS.out X0.out H19.out.1 H19.out.2.1 H19.out.2.2.1 H19.out.2.2.2.1 H19.out.2.2.2.2 ?_
      intro a' w8 hf ha
      subst ha
      obtain rfl : z3 = w8 := hf.symm
      simp only [Act.put, List.setIfInBounds_toArray, List.set_cons_zero, List.set_cons_succ]
      clear H19 CSS X0 XS HLL
      go_wp2
      go_ret
      exact ⟨rfl, PYZ.out⟩
    · by_cases h2 : kd = 2
      · subst h2
        clear hkd CU SAME LBK h0 h1
        obtain ⟨L, hLe⟩ : ∃ L, chs (inL I) (sumV o.n) (liOf p.s.P q) = L := ⟨_, rfl⟩
        have hLb : L.length ≤ m + 1 := by
          rw [← hLe]
          have h2 := HLQ.out
          rw [chs_len]
          omega
        have HLL := hidMk hLb
        clear hLb
        have CC : Hid (Calls Tryd.prog 18 #[.pointer (some ⟨ro, 0, none⟩), q.v, .int .i64 o.n, .func (.func 32) #[] #[.pointer (some ⟨ib, 0, none⟩)]] w4.drew fun e w' => ∃ bk, e = .returned (.pointer (some ⟨bk, 0, none⟩)) ∧ SS K B1 B2 x ro d o q ob pb w' ∧ G1 K w0 B1 B2 x ro d p o q ob pb L bk w') := by
          have py := P4.out
          have cc := add_any py.pm.ra py.h1 hq HO.out.ok.n (.inr ⟨_, _, rfl, T4.out⟩) (by have := HLQ.out; omega)
          rw [py.pm.r] at cc
          refine cc.mono fun e w' hop => ?_
          have hop2 : OpE w4.drew B1 p.s p.H q L e w' := by rw [← hLe]; exact hop
          exact op_prog py L4.out hop2
        have CD : Hid (∀ bk W, G1 K w0 B1 B2 x ro d p o q ob pb L bk W → Calls Tryd.prog 36 #[.pointer (some ⟨d, 0, none⟩), q.v, .int .i64 o.n, o.seen] W.drew fun e w' => e = .returned (.tuple #[]) ∧ SS K B1 B2 x ro d o q ob pb w' ∧ G2 K w0 B1 B2 x ro d p q L bk w') := by
          intro bk W g0
          have g1 := g0.drew
          have gg := g1
          obtain ⟨rc, s', k, pm, lc, gb⟩ := gg
          have hxl := HH.out.xl
          have hxe := (HH.out.mx p.X (.inl rfl)).2 q
          have hdl := HH.out.md
          have cc := rf_add pm.rf gb.h2 gb.b HH.out.l2 (by simp only; omega) (by simp only; omega) hq HO.out.ok.n HO.out.sn
          refine cc.mono ?_
          rintro e w' ⟨rfl, rfo⟩
          simp only at rfo
          rw [HH.out.ln.eq, show _ = L from hLe] at rfo
          exact ⟨rfl, op_doc HH.out.l2 g1 rfo⟩
        clear hLe
        go_upto_region 14 with fail
        refine stp14 (x := x) (rb := ro) (ob := ob) (pb := pb) (o := o) (p := q) (fv := .func (.func 32) #[] #[.pointer (some ⟨ib, 0, none⟩)]) (SS K B1 B2 x ro d o q ob pb) (G1 K w0 B1 B2 x ro d p o q ob pb L) _ w4 _ rfl rfl rfl rfl rfl S4.out (fun W h => (LL.out W h).1) (fun W h => (LL.out W h).2.2.1) (fun W h => (LL.out W h).2.2.2.2.2.1) CC.out ?_
        intro bk a' w5 hf ha
        subst ha
        simp only [Act.put, List.setIfInBounds_toArray, List.set_cons_zero, List.set_cons_succ]
        have K1 := hidMk hf
        have S5 : Hid (SS K B1 B2 x ro d o q ob pb w5.drew) := by
          obtain ⟨rc, s', k, pm, lc, gb⟩ := hf.drew
          exact ⟨_, pm, lc⟩
        clear hf CC S4 P4 L4 T4
        go_upto_region 15 with fail
        refine stp15 (x := x) (d := d) (ob := ob) (pb := pb) (o := o) (p := q) (SS K B1 B2 x ro d o q ob pb) (G2 K w0 B1 B2 x ro d p q L bk) _ w5 _ rfl rfl rfl rfl S5.out (fun W h => (LL.out W h).2.1) (fun W h => (LL.out W h).2.2.1) (fun W h => (LL.out W h).2.2.2.2.2.1) (fun W h => (LL.out W h).2.2.2.2.2.2) (CD.out bk w5 K1.out) ?_
        intro a' w6 hf ha
        subst ha
        simp only [Act.put, List.setIfInBounds_toArray, List.set_cons_zero, List.set_cons_succ]
        clear K1 S5 LL
        obtain ⟨sv, y1, bv2, y2, y3, l18, e18a, e18b, e18c, g3⟩ := tail18 HH.out.l2 (by have := HH.out.mb; omega) hf
        have H18 := hidMk (And.intro l18 (And.intro e18a (And.intro e18b e18c)))
        have K3 := hidMk g3.drew
        clear hf g3 l18 e18a e18b e18c CD
        go_upto_region 18 with fail
        refine stp18 (x := x) (bk := bk) (bv := p.bv) (sv := sv) (bv2 := bv2) (w1 := y1) (w2 := y2) (w3 := y3) _ w6 _ rfl rfl rfl (fun W e => by rw [e]; exact H18.out.1) H18.out.2.1 H18.out.2.2.1 H18.out.2.2.2 ?_
        intro a' w7 hf ha
        subst ha
        obtain rfl : y3 = w7 := hf.symm
        simp only [Act.put, List.setIfInBounds_toArray, List.set_cons_zero, List.set_cons_succ]
        clear H18
        obtain ⟨sv2, z1, iv2, z2, z3, x0, xs, cs, e19a, x1, e19b, x2, e19c, pyz⟩ := tail19 HH.out.l1 HH.out.l2 HH.out.ln HH.out.mb HH.out.md HH.out.mx hm HLL.out HH.out.kp HH.out.kn HKQ.out K3.out
        have X0 := hidMk x0
        have XS := hidMk xs
        have CSS := hidMk cs
        have H19 := hidMk (And.intro e19a (And.intro x1 (And.intro e19b (And.intro x2 e19c))))
        have PYZ := hidMk pyz
        clear x0 xs cs e19a x1 e19b x2 e19c pyz K3
        go_upto_region 19 with fail
        refine stp19 (x := x) (d := d) (z := ((p.D.length + 1 : Nat) : Int)) (iv := p.sv) (sv := sv2) (iv2 := iv2) (w1 := z1) (w2 := z2) (w3 := z3) (XC x ro d bv2 p.sv) _ y3 _ rfl rfl X0.out (fun W h => xc_s XS.out h) (fun W h => xc_d h) CSS.out X0.out H19.out.1 H19.out.2.1 H19.out.2.2.1 H19.out.2.2.2.1 H19.out.2.2.2.2 ?_
        intro a' w8 hf ha
        subst ha
        obtain rfl : z3 = w8 := hf.symm
        simp only [Act.put, List.setIfInBounds_toArray, List.set_cons_zero, List.set_cons_succ]
        clear H19 CSS X0 XS HLL
        go_wp2
        go_ret
        exact ⟨rfl, PYZ.out⟩
      · by_cases h3 : kd = 3
        · subst h3
          clear hkd SAME h0 h1 h2 LL S4 P4 L4 T4
          go_upto_region 17 with fail
          refine stp17 (x := x) (ob := ob) (o := o) (fun w' => ∃ p', PY K w0 B1 B2 x ro d (m + 1) p' w') _ w4 _ rfl rfl rfl (fun W e => by rw [e]; exact LBK.out) CU.out ?_
          intro a' w5 hf ha
          subst ha
          simp only [Act.put, List.setIfInBounds_toArray, List.set_cons_zero, List.set_cons_succ]
          have K5 := hidMk hf
          clear hf CU LBK
          go_wp2
          go_ret
          exact ⟨rfl, K5.out⟩
        · clear LL S4 P4 L4 T4 CU LBK
          go_wp2
          go_ret
          exact ⟨rfl, SAME.out⟩
variable {K : Fm}
theorem szOpR : (Tryd.prog.info? 45).map (·.size) = some 42 := by kernel_rfl
theorem ld_op {w W : World} {b o : Nat} {x : OpR} (hx : x.ok w) (h : W.rangeAt b o x.c) : (Instr.loadAt 45 (.pointer (some ⟨b, o, none⟩))).run Tryd.prog W = .ok x.a W :=
  run_loadAt_mid (P := Tryd.prog) W b o 45 x.c _ h Tryd.underlying45 rfl (by rw [OpR.len hx]; exact szOpR)
structure PlI (w : World) (pa : Option Addr) (Ps : List PlK) (a : Option Addr) (L : List OpR) : Prop where
  hP : RowAt 67 PlK.c w pa Ps
  okP : ∀ x ∈ Ps, x.ok
  hPn : Ps.length ≤ 2000000000000
  hL : RowAt 42 OpR.c w a L
  okL : ∀ x ∈ L, ∃ I, OpS w x I
  hLn : L.length ≤ 1034834473202
def p0 (so : Rs) : Pz := ⟨so, [], [], ⟨none, 0, 0⟩, .slice none 0 0, [], .slice none 0 0, [], .slice none 0 0, []⟩
theorem py_start {w w1 w2 w3 : World} (b1 : Below w.heap.size w w1) {so : Rs} (ra : RgAt w2 w1.heap.size so []) (rl : ∀ q, liOf so.P q = []) (b2 : Below w1.heap.size w1 w2) {d : Nat} (rf : RfP w2.heap.size w3 d [] ⟨none, 0, 0⟩ (.slice none 0 0) []) (b3 : Below w2.heap.size w2 w3) {KP : List PlK} (kn : KP.length ≤ 1499999999999) :
    PY ⟨fun _ => none, (w3.alloc (.cells #[.pointer (some ⟨so.r, 0, none⟩), .pointer (some ⟨d, 0, none⟩), .slice none 0 0, .slice none 0 0] 33)), so, fun _ => False, KP⟩ w w1.heap.size w2.heap.size w3.heap.size so.r d 0 (p0 so) (w3.alloc (.cells #[.pointer (some ⟨so.r, 0, none⟩), .pointer (some ⟨d, 0, none⟩), .slice none 0 0, .slice none 0 0] 33)) := by
  have b4 : Below w3.heap.size w3 (w3.alloc (.cells #[.pointer (some ⟨so.r, 0, none⟩), .pointer (some ⟨d, 0, none⟩), .slice none 0 0, .slice none 0 0] 33)) := (Below.refl _ _).alloc (Nat.le_refl _) _
  have z1 := b1.size
  have z2 := b2.size
  have z3 := b3.size
  have z4 := b4.size
  refine ⟨⟨(ra.below b3).below b4, rf.below b4, rfl, heap_alloc_new _ _, ⟨rfl, Or.inl ⟨rfl, rfl⟩⟩, ⟨rfl, Or.inl ⟨rfl, rfl⟩⟩, by simp [p0], ?_, z3, fun j o ho => (by cases ho), ER.refl _ _, fun j hj => hj.elim⟩, ⟨fun q => ?_, HM.nil, rfl, by simp [p0], by simp [p0], by simp [p0], ?_⟩, by simp [p0], by simp [p0], ?_, ?_, z1, by omega, by omega, by omega, ?_, kn⟩
  · rintro j (⟨q, hq, _⟩ | ⟨g, hg, _⟩)
    · cases hq
    · cases hg
  · show entF [] q = liOf so.P q
    rw [rl]
    rfl
  · intro n h1 h2
    simp [p0] at h2
    omega
  · rintro Y (rfl | ⟨g, hg, _⟩)
    · exact ⟨Nat.le_refl _, fun q => Nat.le_refl _⟩
    · cases hg
  · have c1 := b1.trans (b2.mono z1)
    have c2 := c1.trans (b3.mono c1.size)
    exact c2.trans (b4.mono c2.size)
  · rintro Y (rfl | ⟨g, hg, _⟩) q hq
    · exact absurd rfl hq
    · cases hg
section
variable {w : World} {pa : Option Addr} {pc : Nat} {Ps : List PlK} {a : Option Addr} {L : List OpR}
theorem PlI.at' (h : PlI w pa Ps a L) {i : Nat} (hi : i < L.length) : ∃ q I g o, OpS w q I ∧ a = some ⟨g, o, none⟩ ∧ ∀ W, Below w.heap.size w W → (Instr.loadAt 45 (.pointer (some ⟨g, o + 42 * i, none⟩))).run Tryd.prog W = .ok q.a W := by
  obtain ⟨x, hx⟩ : ∃ x, L[i]? = some x := ⟨_, List.getElem?_eq_getElem hi⟩
  obtain ⟨I, ho⟩ := h.okL x (List.mem_of_getElem? hx)
  rcases h.hL with e | ⟨g, o, e, h1, h2⟩
  · rw [e] at hx; cases hx
  · exact ⟨x, I, g, o, ho, e, fun W b => ld_op ho.ok (rangeAt_keep (by rw [Nat.mul_comm]; exact h2 i x hx) (b.block _ h1))⟩
theorem PlI.alike (h : PlI w pa Ps a L) {B1 B2 x ro d m : Nat} {p : Pz} {W : World} (py : PY K w B1 B2 x ro d m p W) (hm : m ≤ 2200000000000) : Calls Tryd.prog 12 #[.pointer (some ⟨ro, 0, none⟩), .pointer (some ⟨d, 0, none⟩), .slice pa Ps.length pc] W fun e w' => e = .returned (.bool true) ∧ PY K w B1 B2 x ro d m p w' := by
  have cc := alike_any py.pr (pc := pc) (h.hP.below py.bel) h.okP h.hPn
  rw [py.pm.r] at cc
  refine cc.mono ?_
  rintro e w' ⟨rfl, b⟩
  exact ⟨rfl, py.below b⟩
end
section
variable {w0 W W' : World} {B1 B2 x ro d m : Nat} {p : Pz}
def offP (x d : Nat) (p : Pz) (j : Nat) : Prop := ¬ p.s.all j ∧ ¬ rfB d p.v p.pv p.D j ∧ ¬ plB x p j ∧ ¬ docE p.X p.D j
theorem PM.new (h : PM K W B1 B2 x ro d p) {j : Nat} (hj : W.heap.size ≤ j) : offP x d p j := by
  refine ⟨fun q => ?_, fun q => ?_, fun q => ?_, fun q => ?_⟩
  · have := h.ra.mem.allLt q; omega
  · obtain ⟨_, c, ty, hc, _⟩ := rf_typ h.rf q
    have := (Array.getElem?_eq_some_iff.1 hc).1; omega
  · obtain ⟨_, c, ty, hc, _⟩ := pl_typ h q
    have := (Array.getElem?_eq_some_iff.1 hc).1; omega
  · obtain ⟨c, hc⟩ := doc_typ h.rf q
    have := (Array.getElem?_eq_some_iff.1 hc).1; omega
end
def Rm (s t : Rs) : Prop := ∀ q ∈ s.P, ∀ q' ∈ t.P, ∀ b n c n' c', q.2.1 = .slice (some ⟨b, 0, none⟩) n c → q'.2.1 = .slice (some ⟨b, 0, none⟩) n' c' → (n < c → n' ≤ n ∧ n' = c') ∧ (n' < c' → n ≤ n' ∧ n = c)
theorem Rm.symm {s t : Rs} (h : Rm s t) : Rm t s := fun q hq q' hq' b n c n' c' e e' => (h q' hq' q hq b n' c' n c e' e).symm
theorem lo_room {w : World} {base : Nat} {v : Value} {L : List EnV} (h : RN.Lo w base v L) {b n c : Nat} (e : v = .slice (some ⟨b, 0, none⟩) n c) : n ≤ c ∧ b < w.heap.size := by
  rcases h with ⟨rfl, _⟩ | ⟨g, cap, cur, rfl, hbg, hg, hnc, _⟩
  · cases e
  · injection e with e1 e2 e3
    injection e1 with e1
    injection e1 with e1
    subst e1 e2 e3
    exact ⟨hnc, (Array.getElem?_eq_some_iff.1 hg).1⟩
theorem Rm.step {s s' t : Rs} {w w' : World} {base B : Nat} (h : Rm s t) (z : ER s w s' w') (m' : RgM w' base s') (mt : RgM w B t) : Rm s' t := fun q hq q' hq' b n c n' c' e e' => by
  obtain ⟨_, lt⟩ := lo_room (mt.en q' hq').1 e'
  obtain ⟨le, _⟩ := lo_room (m'.en q hq).1 e
  rcases z.l q hq b n c e with k | ⟨q0, hq0, n0, c0, e0, k1, k2⟩
  · omega
  · obtain ⟨h1, h2⟩ := h q0 hq0 q' hq' b n0 c0 n' c' e0 e'
    refine ⟨fun hn => ?_, fun hn => ?_⟩
    · obtain ⟨a1, a2⟩ := k2 hn
      obtain ⟨a3, a4⟩ := h1 (by omega)
      exact ⟨by omega, a4⟩
    · obtain ⟨a1, a2⟩ := h2 hn
      refine ⟨by omega, Nat.le_antisymm le (Nat.le_of_not_lt fun hlt => ?_)⟩
      obtain ⟨a3, a4⟩ := k2 hlt
      omega
theorem Rm.lo {s t : Rs} {w w' : World} {base : Nat} (h : Rm s t) (z : EH s w w') {q : PlK × (Value × List EnV)} (hq : q ∈ t.P) (lo : RN.Lo w base q.2.1 q.2.2) : RN.Lo w' base q.2.1 q.2.2 := by
  rcases lo with e | ⟨g, cap, cur, e, hbg, hg, hnc, hcm, hcs, htake⟩
  · exact .inl e
  · obtain ⟨cu', hg', k⟩ := z.2 g cur hg
    by_cases hr : ∃ q0 ∈ s.P, ∃ n c, q0.2.1 = .slice (some ⟨g, 0, none⟩) n c ∧ n < c
    · obtain ⟨q0, hq0, n, c, e0, hn⟩ := hr
      obtain ⟨_, hc⟩ := (h q0 hq0 q hq g n c _ _ e0 e).1 hn
      have ht := k (q.2.2.length * RN.k) (fun q1 hq1 n1 c1 e1 hn1 => by
        rw [Nat.mul_comm]
        exact Nat.mul_le_mul_left _ ((h q1 hq1 q hq g n1 c1 _ _ e1 e).1 hn1).1)
      refine .inr ⟨g, cap, cu', e, hbg, hg', hnc, hcm, ?_, ht.trans htake⟩
      have hl := congrArg List.length ht
      rw [List.length_take, List.length_take] at hl
      rw [← hc] at hcs ⊢
      simp only [Array.length_toList] at hl
      omega
    · have ht := k (cu'.size + cur.size) (fun q1 hq1 n1 c1 e1 hn1 => absurd ⟨q1, hq1, n1, c1, e1, hn1⟩ hr)
      rw [List.take_of_length_le (by simp), List.take_of_length_le (by simp)] at ht
      obtain rfl : cu' = cur := Array.toList_inj.1 ht
      exact .inr ⟨g, cap, cu', e, hbg, hg', hnc, hcm, hcs, htake⟩
theorem RgAt.beside {W W' : World} {B : Nat} {s : Rs} {H : List Rec} (h : RgAt W B s H) (hb : ∀ j ∈ s.bl, W'.heap[j]? = W.heap[j]?) (hh : Hist W' H) (hl : ∀ q ∈ s.P, RN.Lo W' B q.2.1 q.2.2) : RgAt W' B s H :=
  ⟨⟨(hb _ (by simp [Rs.bl])).trans h.mem.cell, h.mem.pl.below (hb _ (by simp [Rs.bl])), h.mem.kl.below (hb _ (by simp [Rs.bl])), fun r hr => (h.mem.kr r hr).below (hb _ (Rs.row_bl hr)), fun q hq => ⟨hl q hq, (h.mem.en q hq).2⟩, h.mem.dis, h.mem.ead, h.mem.lo⟩, h.key, h.last, hh, h.hok⟩
def exB (x d : Nat) (p : Pz) (j : Nat) : Prop := j ∈ p.s.bl ∨ rfB d p.v p.pv p.D j ∨ plB x p j ∨ docE p.X p.D j
def stB (W : World) (j : Nat) : Prop := ∃ c ty fr, W.heap[j]? = some (.cells c ty fr) ∧ (ty = 111 ∨ ty = 52 ∨ ty = 101 ∨ ty = 125)
section
variable {K : Fm} {w0 W W' : World} {B1 B2 x ro d m : Nat} {p : Pz}
theorem PM.exLt (h : PM K W B1 B2 x ro d p) {j : Nat} (hj : exB x d p j) : j < W.heap.size := by
  rcases hj with hj | hj | hj | hj
  · exact h.ra.mem.lt j hj
  · obtain ⟨_, c, ty, hc, _⟩ := rf_typ h.rf hj
    exact (Array.getElem?_eq_some_iff.1 hc).1
  · obtain ⟨_, c, ty, hc, _⟩ := pl_typ h hj
    exact (Array.getElem?_eq_some_iff.1 hc).1
  · obtain ⟨c, hc⟩ := doc_typ h.rf hj
    exact (Array.getElem?_eq_some_iff.1 hc).1
theorem PM.stOff (h : PM K W B1 B2 x ro d p) {j : Nat} (hj : stB W j) : offP x d p j := by
  obtain ⟨c, ty, fr, hc, e⟩ := hj
  refine ⟨h.ra.mem.other hc (by rcases e with rfl | rfl | rfl | rfl <;> decide) (by rcases e with rfl | rfl | rfl | rfl <;> decide), fun q => ?_, fun q => ?_, fun q => ?_⟩
  · obtain ⟨_, c', ty', hc', e'⟩ := rf_typ h.rf q
    have := two_types hc hc'
    subst this
    rcases e with rfl | rfl | rfl | rfl <;> rcases e' with e' | e' | e' <;> revert e' <;> decide
  · obtain ⟨_, c', ty', hc', e'⟩ := pl_typ h q
    have := two_types hc hc'
    subst this
    rcases e with rfl | rfl | rfl | rfl <;> rcases e' with e' | e' | e' <;> revert e' <;> decide
  · obtain ⟨c', hc'⟩ := doc_typ h.rf q
    have := two_types hc hc'
    subst this
    rcases e with e | e | e | e <;> revert e <;> decide
theorem PM.beside (h : PM K W B1 B2 x ro d p) (t : Tch (fun j => ¬ (exB x d p j ∨ stB W j)) W W') (hl : ∀ q ∈ p.s.P, RN.Lo W' B1 q.2.1 q.2.2) : PM ⟨fun _ => none, W', p.s, fun _ => False, K.ps⟩ W' B1 B2 x ro d p := by
  have hx : ∀ j, exB x d p j → W'.heap[j]? = W.heap[j]? := fun j hj => t.block j (h.exLt hj) (fun q => q (.inl hj))
  refine ⟨h.ra.beside (fun j hj => hx j (.inl hj)) (h.ra.hist.keepT t (fun j c ty fr hc e q => q (.inr ⟨c, ty, fr, hc, e⟩))) hl, h.rf.keepE t (fun j hj q => q (.inl (.inr (.inl hj)))) (fun j hj q => q (.inl (.inr (.inr (.inr hj))))), h.r, (hx x (.inr (.inr (.inl (.inl rfl))))).trans h.cell, h.backs.keep fun j hj => hx j (.inr (.inr (.inl (.inr (.inl hj))))), h.steps.keep fun j hj => hx j (.inr (.inr (.inl (.inr (.inr hj))))), fun b hb => ?_, h.ap, h.xB, fun j o ho => (by cases ho), ER.refl _ _, fun j hj => False.elim hj⟩
  obtain ⟨c, hc⟩ := h.bk b hb
  exact ⟨c, (t.block _ (Array.getElem?_eq_some_iff.1 hc).1 (fun q => q (.inr ⟨_, _, _, hc, .inl rfl⟩))).trans hc⟩
theorem PY.beside (h : PY K w0 B1 B2 x ro d m p W) (t : Tch (fun j => ¬ (exB x d p j ∨ stB W j)) W W') (hl : ∀ q ∈ p.s.P, RN.Lo W' B1 q.2.1 q.2.2) (b : Below w0.heap.size w0 W') : PY ⟨fun _ => none, W', p.s, fun _ => False, K.ps⟩ w0 B1 B2 x ro d m p W' :=
  ⟨h.pm.beside t hl, h.ln, h.mb, h.md, h.mx, b, h.l1, h.l2, Nat.le_trans h.h1 t.size, Nat.le_trans h.h2 t.size, h.kp, h.kn⟩
end
structure Pc where
  B1 : Nat
  B2 : Nat
  x : Nat
  ro : Nat
  d : Nat
  ps : List PlK
structure Two (w0 : World) (c : Pc) (m : Nat) (p : Pz) (c' : Pc) (m' : Nat) (p' : Pz) (W : World) : Prop where
  a : ∃ K : Fm, K.ps = c.ps ∧ PY K w0 c.B1 c.B2 c.x c.ro c.d m p W
  b : ∃ K : Fm, K.ps = c'.ps ∧ PY K w0 c'.B1 c'.B2 c'.x c'.ro c'.d m' p' W
  t1 : ∀ j, exB c'.x c'.d p' j → offP c.x c.d p j
  t2 : ∀ j, exB c.x c.d p j → offP c'.x c'.d p' j
  rm : Rm p.s p'.s
open Classical in
noncomputable def fmB (W : World) (c : Pc) (p : Pz) (c' : Pc) (p' : Pz) : Fm := ⟨fun j => if exB c'.x c'.d p' j ∨ stB W j then W.heap[j]? else none, W, p.s, fun j => ∃ q ∈ p'.s.P, q.2.1.ownBlock = some j, c.ps⟩
section
variable {w0 W W' : World} {c c' : Pc} {m m' : Nat} {p p' : Pz}
theorem Two.symm (h : Two w0 c m p c' m' p' W) : Two w0 c' m' p' c m p W := ⟨h.b, h.a, h.t2, h.t1, h.rm.symm⟩
theorem Two.below (h : Two w0 c m p c' m' p' W) (b : Below W.heap.size W W') : Two w0 c m p c' m' p' W' := by
  obtain ⟨K, kc, ha⟩ := h.a
  obtain ⟨K', kc', hb⟩ := h.b
  exact ⟨⟨K, kc, ha.below b⟩, ⟨K', kc', hb.below b⟩, h.t1, h.t2, h.rm⟩
theorem Two.mono (h : Two w0 c m p c' m' p' W) {k k' : Nat} (hk : m ≤ k) (hk' : m' ≤ k') : Two w0 c k p c' k' p' W := by
  obtain ⟨K, kc, ha⟩ := h.a
  obtain ⟨K', kc', hb⟩ := h.b
  exact ⟨⟨K, kc, ha.mono hk⟩, ⟨K', kc', hb.mono hk'⟩, h.t1, h.t2, h.rm⟩
theorem Two.fm (h : Two w0 c m p c' m' p' W) : PY (fmB W c p c' p') w0 c.B1 c.B2 c.x c.ro c.d m p W := by
  obtain ⟨K, kc, ha⟩ := h.a
  obtain ⟨K', kc', hb⟩ := h.b
  have pm := ha.pm
  refine ⟨⟨pm.ra, pm.rf, pm.r, pm.cell, pm.backs, pm.steps, pm.bk, pm.ap, pm.xB, fun j o ho => ?_, ER.refl _ _, ?_⟩, ha.ln, ha.mb, ha.md, ha.mx, ha.bel, ha.l1, ha.l2, ha.h1, ha.h2, fun Y hY q hq => ?_, ?_⟩
  · simp only [fmB] at ho
    split at ho
    · rename_i hc
      exact ⟨ho, hc.elim (h.t1 j) (fun q => pm.stOff q)⟩
    · cases ho
  · rintro j ⟨q, hq, e⟩
    exact ⟨hb.pm.ra.mem.allLt (.inr ⟨q, hq, e⟩), fun hd => (h.t2 j (.inr (.inr (.inr hd)))).1 (.inr ⟨q, hq, e⟩)⟩
  · have := ha.kp Y hY q hq
    rw [kc] at this
    exact this
  · have := ha.kn
    rw [kc] at this
    exact this
theorem Two.gone (h : Two w0 c m p c' m' p' W) {m2 : Nat} {p2 : Pz} (hs : PY (fmB W c p c' p') w0 c.B1 c.B2 c.x c.ro c.d m2 p2 W') : Two w0 c m2 p2 c' m' p' W' := by
  obtain ⟨K, kc, ha⟩ := h.a
  obtain ⟨K', kc', hb⟩ := h.b
  have zr : ER p.s W p2.s W' := hs.pm.zr
  have kf : ∀ j, exB c'.x c'.d p' j ∨ stB W j → j < W.heap.size → W'.heap[j]? = W.heap[j]? ∧ offP c.x c.d p2 j := fun j hj hl => by
    have ho : (fmB W c p c' p').k j = some (W.heap[j]'hl) := by
      simp only [fmB]
      rw [if_pos hj]
      exact Array.getElem?_eq_getElem hl
    obtain ⟨k1, k2⟩ := hs.pm.kf j _ ho
    exact ⟨k1.trans (Array.getElem?_eq_getElem hl).symm, k2⟩
  have t : Tch (fun j => ¬ (exB c'.x c'.d p' j ∨ stB W j)) W W' := ⟨hs.bel.os.trans hb.bel.os.symm, hs.bel.tape.trans hb.bel.tape.symm, hs.bel.output.trans hb.bel.output.symm, zr.h.1, fun j hl hn => (kf j (Classical.not_not.1 hn) hl).1⟩
  have hb' := hb.beside t (fun q hq => h.rm.lo zr.h hq (hb.pm.ra.mem.en q hq).1) hs.bel
  refine ⟨⟨_, rfl, hs⟩, ⟨⟨fun _ => none, W', p'.s, fun _ => False, K'.ps⟩, kc', hb'⟩, fun j hj => (kf j (.inl hj) (hb.pm.exLt hj)).2, fun j hj => ?_, h.rm.step zr hs.pm.ra.mem hb.pm.ra.mem⟩
  have no : ¬ exB c'.x c'.d p' j := fun q => by
    obtain ⟨k1, k2, k3, k4⟩ := (kf j (.inl q) (hb.pm.exLt q)).2
    rcases hj with e | e | e | e
    · exact k1 (.inl e)
    · exact k2 e
    · exact k3 e
    · exact k4 e
  refine ⟨?_, fun q => no (.inr (.inl q)), fun q => no (.inr (.inr (.inl q))), fun q => no (.inr (.inr (.inr q)))⟩
  rintro (q | ⟨q, hq, e⟩)
  · exact no (.inl q)
  · obtain ⟨_, cu, hc⟩ := (hb'.pm.ra.mem.en q hq).1.cells e
    rcases hj with k | k | k | k
    · exact hs.pm.ra.mem.blNot hc k
    · obtain ⟨_, c2, ty, hc2, e2⟩ := rf_typ hs.pm.rf k
      have := two_types hc hc2
      rw [← this] at e2
      revert e2; decide
    · obtain ⟨_, c2, ty, hc2, e2⟩ := pl_typ hs.pm k
      have := two_types hc hc2
      rw [← this] at e2
      revert e2; decide
    · exact (hs.pm.ef j ⟨q, hq, e⟩).2 k
end
theorem exec_makeMapN {P : Program} {w w2 : World} {a : Act} {o : Oper} {t : TypeId} {x : Operand} {xv v : Value} (ho : o.op = .makeMap t (some x)) (hx : a.eval x = xv) (hl : (Instr.makeMap t (some xv)).run P w = .ok v w2) : (execOp a.eval o).run P w = .ok (.value v) w2 := by
  unfold execOp; simp only [ho, Option.map_some, hx, Sem.run_bind, hl, Result.andThen_ok, Sem.run_pure]
theorem exec_build3 {P : Program} {w : World} {a : Act} {o : Oper} {t : TypeId} {x y z : Operand} {xv yv zv v : Value} (ho : o.op = .build t #[(0, x), (1, y), (2, z)]) (hx : a.eval x = xv) (hy : a.eval y = yv) (hz : a.eval z = zv) (hl : (Instr.build t #[(0, xv), (1, yv), (2, zv)]).run P w = .ok v w) : (execOp a.eval o).run P w = .ok (.value v) w := by
  unfold execOp; simp only [ho, List.map_toArray, List.map_cons, List.map_nil, hx, hy, hz, Sem.run_bind, hl, Result.andThen_ok, Sem.run_pure]
def fk3_o0 : Oper := ⟨some 10, .move (.tmp 0), 26, "regs.go:35", #[], none⟩
def fk3_o1 : Oper := ⟨some 11, .nilCheck (.tmp 10), 0, "regs.go:35", #[⟨0, .data⟩], none⟩
def fk3_o2 : Oper := ⟨some 12, .fieldAddr 84 (.tmp 11) 0, 0, "regs.go:35", #[⟨1, .data⟩], none⟩
def fk3_o3 : Oper := ⟨some 13, .load 81 (.tmp 12), 81, "regs.go:35", #[⟨2, .data⟩], none⟩
def fk3_o4 : Oper := ⟨some 14, .call { callee := Callee.value (Operand.func 44), args := #[.tmp 13], argTypes := #[81] }, 81, "regs.go:35", #[⟨3, .data⟩], none⟩
def fk3_o5 : Oper := ⟨some 15, .move (.tmp 0), 26, "regs.go:35", #[], none⟩
def fk3_o6 : Oper := ⟨some 16, .nilCheck (.tmp 15), 0, "regs.go:35", #[⟨5, .data⟩], none⟩
def fk3_o7 : Oper := ⟨some 17, .fieldAddr 84 (.tmp 16) 1, 0, "regs.go:35", #[⟨6, .data⟩], none⟩
def fk3_o8 : Oper := ⟨some 18, .load 82 (.tmp 17), 82, "regs.go:35", #[⟨7, .data⟩], none⟩
def fk3_o9 : Oper := ⟨some 19, .call { callee := Callee.builtin Builtin.len, args := #[.tmp 18], argTypes := #[82] }, 3, "regs.go:35", #[⟨8, .data⟩, ⟨4, .chain⟩], none⟩
def fk3_o10 : Oper := ⟨some 20, .makeMap 82 (some (.tmp 19)), 82, "regs.go:35", #[⟨9, .data⟩], none⟩
def fk3_o11 : Oper := ⟨some 21, .move (.tmp 0), 26, "regs.go:35", #[], none⟩
def fk3_o12 : Oper := ⟨some 22, .nilCheck (.tmp 21), 0, "regs.go:35", #[⟨11, .data⟩], none⟩
def fk3_o13 : Oper := ⟨some 23, .fieldAddr 84 (.tmp 22) 2, 0, "regs.go:35", #[⟨12, .data⟩], none⟩
def fk3_o14 : Oper := ⟨some 24, .load 54 (.tmp 23), 54, "regs.go:35", #[⟨13, .data⟩], none⟩
def fk3_o15 : Oper := ⟨some 25, .build 84 #[(0, .tmp 14), (1, .tmp 20), (2, .tmp 24)], 84, "regs.go:35", #[⟨4, .data⟩, ⟨10, .data⟩, ⟨14, .data⟩], none⟩
def fk3_o16 : Oper := ⟨some 26, .box 84 (.tmp 25), 26, "regs.go:35", #[⟨15, .data⟩], none⟩
def fk3_o17 : Oper := ⟨some 3, .assign (.tmp 26), 26, "regs.go:35", #[⟨16, .data⟩, ⟨9, .chain⟩, ⟨0, .phase⟩, ⟨1, .phase⟩, ⟨2, .phase⟩, ⟨3, .phase⟩, ⟨4, .phase⟩, ⟨5, .phase⟩, ⟨6, .phase⟩, ⟨7, .phase⟩, ⟨8, .phase⟩, ⟨9, .phase⟩, ⟨10, .phase⟩, ⟨11, .phase⟩, ⟨12, .phase⟩, ⟨13, .phase⟩, ⟨14, .phase⟩, ⟨15, .phase⟩, ⟨16, .phase⟩], none⟩
def fk3_ops : Array Oper := #[fk3_o0, fk3_o1, fk3_o2, fk3_o3, fk3_o4, fk3_o5, fk3_o6, fk3_o7, fk3_o8, fk3_o9, fk3_o10, fk3_o11, fk3_o12, fk3_o13, fk3_o14, fk3_o15, fk3_o16, fk3_o17]
theorem fk3 {r mb kb cb n : Nat} {la : Option Addr} (S : World → Prop) (Fin : Value → World → Prop) (a : Act) (w : World) (Q : Exit → Act → World → Prop) (zz : a.tmps.size = 69)
    (t0 : a.tmps.getD 0 undef = .pointer (some ⟨r, 0, none⟩))
    (h0 : S w.drew) (G0 : ∀ W, S W → (Instr.loadAt 81 (.pointer (some ⟨r, 0 + 0, none⟩))).run Tryd.prog W = .ok (.map (some mb)) W) (G1 : ∀ W, S W → (Instr.loadAt 82 (.pointer (some ⟨r, 0 + 1, none⟩))).run Tryd.prog W = .ok (.map (some kb)) W) (G2 : ∀ W, S W → (Instr.loadAt 54 (.pointer (some ⟨r, 0 + 2, none⟩))).run Tryd.prog W = .ok (.pointer la) W) (GL : ∀ W, S W → (Builtin.len_ #[82] 3 #[.map (some kb)]).run Tryd.prog W = .ok (.int .i64 (n : Int)) W) (GB : ∀ eb W, (Instr.build 84 #[(0, .map (some cb)), (1, .map (some eb)), (2, .pointer la)]).run Tryd.prog W = .ok (.agg #[.map (some cb), .map (some eb), .pointer la]) W) (C1 : Calls Tryd.prog 44 #[.map (some mb)] w.drew fun e w' => e = .returned (.map (some cb)) ∧ S w' ∧ ∃ eb w2 pv w3, (Instr.makeMap 82 (some (.int .i64 (n : Int)))).run Tryd.prog w' = .ok (.map (some eb)) w2 ∧ S w2 ∧ (Instr.box 84 (.agg #[.map (some cb), .map (some eb), .pointer la])).run Tryd.prog w2 = .ok pv w3 ∧ S w3 ∧ Fin pv w3)
    (h : ∀ (eb : Nat) (pv : Value) (a' : Act) (w' : World), Fin pv w' → a' = ((((((((((((((((((a).put (some 10) (.pointer (some ⟨r, 0, none⟩))).put (some 11) (.pointer (some ⟨r, 0, none⟩))).put (some 12) (.pointer (some ⟨r, 0 + 0, none⟩))).put (some 13) (.map (some mb))).put (some 15) (.pointer (some ⟨r, 0, none⟩))).put (some 16) (.pointer (some ⟨r, 0, none⟩))).put (some 17) (.pointer (some ⟨r, 0 + 1, none⟩))).put (some 18) (.map (some kb))).put (some 21) (.pointer (some ⟨r, 0, none⟩))).put (some 22) (.pointer (some ⟨r, 0, none⟩))).put (some 23) (.pointer (some ⟨r, 0 + 2, none⟩))).put (some 24) (.pointer la)).put (some 14) (.map (some cb))).put (some 19) (.int .i64 (n : Int))).put (some 20) (.map (some eb))).put (some 25) (.agg #[.map (some cb), .map (some eb), .pointer la])).put (some 26) (pv)).put (some 3) (pv) → Q .normal a' w') :
    (Code.region 3 fk3_ops true).wp Tryd.prog Q a w := by
  refine y0 (fun w' => S w') (h0) (fun hHeld => ?_)
  refine yv 0 rfl rfl (fun w1 hw => exec_move rfl (zi t0 rfl)) hHeld ?_
  refine yv 1 rfl rfl (fun w1 hw => exec_nilCheck rfl (zg zz rfl)) hHeld ?_
  refine yv 2 rfl rfl (fun w1 hw => exec_fieldAt rfl (zg zz rfl) (fg_84_0 _ _ _)) hHeld ?_
  refine yv 3 rfl rfl (fun w1 hw => exec_load rfl (zg zz rfl) (G0 _ hw)) hHeld ?_
  refine yv 5 rfl rfl (fun w1 hw => exec_move rfl (zi t0 rfl)) hHeld ?_
  refine yv 6 rfl rfl (fun w1 hw => exec_nilCheck rfl (zg zz rfl)) hHeld ?_
  refine yv 7 rfl rfl (fun w1 hw => exec_fieldAt rfl (zg zz rfl) (fg_84_1 _ _ _)) hHeld ?_
  refine yv 8 rfl rfl (fun w1 hw => exec_load rfl (zg zz rfl) (G1 _ hw)) hHeld ?_
  refine yv 11 rfl rfl (fun w1 hw => exec_move rfl (zi t0 rfl)) hHeld ?_
  refine yv 12 rfl rfl (fun w1 hw => exec_nilCheck rfl (zg zz rfl)) hHeld ?_
  refine yv 13 rfl rfl (fun w1 hw => exec_fieldAt rfl (zg zz rfl) (fg_84_2 _ _ _)) hHeld ?_
  refine yv 14 rfl rfl (fun w1 hw => exec_load rfl (zg zz rfl) (G2 _ hw)) hHeld ?_
  refine yc 4 rfl rfl (exec_c1 rfl (zg zz rfl)) (C1) (fun e x4 hx => ?_)
  obtain ⟨rfl, S1, HM⟩ := hx
  obtain ⟨eb, w2, pv, w3, EM, S2, EB, S3, HF⟩ := HM; replace h := h eb pv
  refine ⟨_, rfl, S1, fun hHeld => ?_⟩
  refine yv 9 rfl rfl (fun w1 hw => exec_len rfl (zg zz rfl) (GL _ hw)) hHeld ?_
  refine yr (v := .map (some eb)) 10 rfl rfl (exec_makeMapN rfl (zg zz rfl) EM) (S2) (fun hHeld => ?_)
  refine yv 15 rfl rfl (fun w1 hw => exec_build3 rfl (zg zz rfl) (zg zz rfl) (zg zz rfl) (GB eb _)) hHeld ?_
  refine yr (v := pv) 16 rfl rfl (exec_boxE rfl (zg zz rfl) EB) (S3) (fun hHeld => ?_)
  refine yv 17 rfl rfl (fun w1 hw => exec_assign rfl (zg zz rfl)) hHeld ?_
  exact ye rfl (h _ _ (HF) rfl)
def fk6_o0 : Oper := ⟨some 34, .entry (.tmp 31), 0, "regs.go:36", #[], none⟩
def fk6_o1 : Oper := ⟨some 35, .extract (.tmp 34) 0, 52, "regs.go:36", #[⟨0, .data⟩], none⟩
def fk6_o2 : Oper := ⟨some 36, .extract (.tmp 34) 1, 60, "regs.go:36", #[⟨0, .data⟩, { on := 4, ground := Ground.gcOnly Departure.lateStores }], none⟩
def fk6_o3 : Oper := ⟨some 4, .alloc 52, 0, "regs.go:36", #[], none⟩
def fk6_o4 : Oper := ⟨none, .store 52 (.tmp 4) (.tmp 35), 0, "regs.go:36", #[⟨3, .data⟩, ⟨1, .data⟩, ⟨0, .phase⟩, ⟨1, .phase⟩, { on := 2, ground := Ground.textOnly Departure.lateStores }, ⟨3, .phase⟩], none⟩
def fk6_o5 : Oper := ⟨some 5, .assign (.tmp 36), 60, "regs.go:36", #[⟨2, .data⟩, ⟨4, .chain⟩, ⟨0, .phase⟩, ⟨1, .phase⟩, ⟨2, .phase⟩, ⟨3, .phase⟩, ⟨4, .phase⟩], none⟩
def fk6_ops : Array Oper := #[fk6_o0, fk6_o1, fk6_o2, fk6_o3, fk6_o4, fk6_o5]
theorem fk6 {itv kv mv p : Value} {w1 w2 : World} (a : Act) (w : World) (Q : Exit → Act → World → Prop) (zz : a.tmps.size = 69)
    (t31 : a.tmps.getD 31 undef = itv)
    (EE : (Instr.entry itv).run Tryd.prog w = .ok (.tuple #[kv, mv]) w) (EA : (Instr.alloc 52 true (.tuple #[])).run Tryd.prog w = .ok p w1) (ES : (Instr.storeAt 52 p kv).run Tryd.prog w1 = .ok () w2)
    (h : ∀ (a' : Act) (w' : World), w' = w2 → a' = (((((a).put (some 34) (.tuple #[kv, mv])).put (some 35) (kv)).put (some 36) (mv)).put (some 4) (p)).put (some 5) (mv) → Q .normal a' w') :
    (Code.region 6 fk6_ops false).wp Tryd.prog Q a w := by
  refine z0 rfl ?_
  refine zv (v := .tuple #[kv, mv]) rfl (exec_entry rfl (zi t31 rfl) EE) ?_
  refine zv rfl (exec_extract rfl (zg zz rfl) rfl) ?_
  refine zv rfl (exec_extract rfl (zg zz rfl) rfl) ?_
  refine zv (v := p) rfl (exec_alloc rfl EA) ?_
  refine zs rfl (exec_store rfl (zg zz rfl) (zg zz rfl) ES) ?_
  refine zv rfl (exec_assign rfl (zg zz rfl)) ?_
  exact ze rfl (h _ _ (rfl) rfl)
def fk11_o0 : Oper := ⟨some 58, .entry (.tmp 55), 0, "regs.go:41", #[], none⟩
def fk11_o1 : Oper := ⟨some 59, .extract (.tmp 58) 0, 38, "regs.go:41", #[⟨0, .data⟩], none⟩
def fk11_o2 : Oper := ⟨some 60, .extract (.tmp 58) 1, 97, "regs.go:41", #[⟨0, .data⟩, { on := 4, ground := Ground.gcOnly Departure.lateStores }], none⟩
def fk11_o3 : Oper := ⟨some 6, .alloc 38, 0, "regs.go:41", #[], none⟩
def fk11_o4 : Oper := ⟨none, .store 38 (.tmp 6) (.tmp 59), 0, "regs.go:41", #[⟨3, .data⟩, ⟨1, .data⟩, ⟨0, .phase⟩, ⟨1, .phase⟩, { on := 2, ground := Ground.textOnly Departure.lateStores }, ⟨3, .phase⟩], none⟩
def fk11_o5 : Oper := ⟨some 7, .assign (.tmp 60), 97, "regs.go:41", #[⟨2, .data⟩, ⟨4, .chain⟩, ⟨0, .phase⟩, ⟨1, .phase⟩, ⟨2, .phase⟩, ⟨3, .phase⟩, ⟨4, .phase⟩], none⟩
def fk11_ops : Array Oper := #[fk11_o0, fk11_o1, fk11_o2, fk11_o3, fk11_o4, fk11_o5]
theorem fk11 {itv kv mv p : Value} {w1 w2 : World} (a : Act) (w : World) (Q : Exit → Act → World → Prop) (zz : a.tmps.size = 69)
    (t55 : a.tmps.getD 55 undef = itv)
    (EE : (Instr.entry itv).run Tryd.prog w = .ok (.tuple #[kv, mv]) w) (EA : (Instr.alloc 38 true (.tuple #[])).run Tryd.prog w = .ok p w1) (ES : (Instr.storeAt 38 p kv).run Tryd.prog w1 = .ok () w2)
    (h : ∀ (a' : Act) (w' : World), w' = w2 → a' = (((((a).put (some 58) (.tuple #[kv, mv])).put (some 59) (kv)).put (some 60) (mv)).put (some 6) (p)).put (some 7) (mv) → Q .normal a' w') :
    (Code.region 11 fk11_ops false).wp Tryd.prog Q a w := by
  refine z0 rfl ?_
  refine zv (v := .tuple #[kv, mv]) rfl (exec_entry rfl (zi t55 rfl) EE) ?_
  refine zv rfl (exec_extract rfl (zg zz rfl) rfl) ?_
  refine zv rfl (exec_extract rfl (zg zz rfl) rfl) ?_
  refine zv (v := p) rfl (exec_alloc rfl EA) ?_
  refine zs rfl (exec_store rfl (zg zz rfl) (zg zz rfl) ES) ?_
  refine zv rfl (exec_assign rfl (zg zz rfl)) ?_
  exact ze rfl (h _ _ (rfl) rfl)
def fk8_o0 : Oper := ⟨some 42, .move (.tmp 3), 26, "regs.go:38", #[], none⟩
def fk8_o1 : Oper := ⟨some 43, .nilCheck (.tmp 42), 0, "regs.go:38", #[⟨0, .data⟩], none⟩
def fk8_o2 : Oper := ⟨some 44, .fieldAddr 84 (.tmp 43) 0, 0, "regs.go:38", #[⟨1, .data⟩], none⟩
def fk8_o3 : Oper := ⟨some 45, .load 81 (.tmp 44), 81, "regs.go:38", #[⟨2, .data⟩], none⟩
def fk8_o4 : Oper := ⟨some 46, .load 52 (.tmp 4), 52, "regs.go:38", #[], none⟩
def fk8_o5 : Oper := ⟨some 47, .move (.tmp 5), 60, "regs.go:38", #[], none⟩
def fk8_o6 : Oper := ⟨some 48, .move (.tmp 5), 60, "regs.go:38", #[], none⟩
def fk8_o7 : Oper := ⟨some 49, .call { callee := Callee.builtin Builtin.len, args := #[.tmp 48], argTypes := #[60] }, 3, "regs.go:38", #[⟨6, .data⟩], none⟩
def fk8_o8 : Oper := ⟨some 50, .call { callee := Callee.value (Operand.func 45), args := #[.tmp 47, .tmp 49], argTypes := #[60, 3] }, 60, "regs.go:38", #[⟨5, .data⟩, ⟨7, .data⟩], none⟩
def fk8_o9 : Oper := ⟨none, .mapUpdate 81 (.tmp 45) (.tmp 46) (.tmp 50), 0, "regs.go:38", #[⟨3, .data⟩, ⟨4, .data⟩, ⟨8, .data⟩, ⟨8, .chain⟩, ⟨0, .phase⟩, ⟨1, .phase⟩, ⟨2, .phase⟩, ⟨3, .phase⟩, ⟨4, .phase⟩, ⟨5, .phase⟩, ⟨6, .phase⟩, ⟨7, .phase⟩, ⟨8, .phase⟩], none⟩
def fk8_ops : Array Oper := #[fk8_o0, fk8_o1, fk8_o2, fk8_o3, fk8_o4, fk8_o5, fk8_o6, fk8_o7, fk8_o8, fk8_o9]
theorem fk8 {f pb fb n c : Nat} {la : Option Addr} {p : PlK} (S Fin : World → Prop) (a : Act) (w : World) (Q : Exit → Act → World → Prop) (zz : a.tmps.size = 69)
    (t3 : a.tmps.getD 3 undef = .pointer (some ⟨f, 0, none⟩))
    (t4 : a.tmps.getD 4 undef = .pointer (some ⟨pb, 0, none⟩))
    (t5 : a.tmps.getD 5 undef = .slice la n c)
    (h0 : S w.drew) (G0 : ∀ W, S W → (Instr.loadAt 81 (.pointer (some ⟨f, 0 + 0, none⟩))).run Tryd.prog W = .ok (.map (some fb)) W) (G1 : ∀ W, S W → (Instr.loadAt 52 (.pointer (some ⟨pb, 0, none⟩))).run Tryd.prog W = .ok (p.v) W) (CK : Calls Tryd.prog 45 #[.slice la n c, .int .i64 (n : Int)] w.drew fun e w' => ∃ u w2, e = .returned u ∧ S w' ∧ (Instr.mapUpdate 81 (.map (some fb)) p.v u).run Tryd.prog w' = .ok () w2 ∧ Fin w2)
    (h : ∀ (u : Value) (a' : Act) (w' : World), Fin w' → a' = (((((((((a).put (some 42) (.pointer (some ⟨f, 0, none⟩))).put (some 43) (.pointer (some ⟨f, 0, none⟩))).put (some 44) (.pointer (some ⟨f, 0 + 0, none⟩))).put (some 45) (.map (some fb))).put (some 46) (p.v)).put (some 47) (.slice la n c)).put (some 48) (.slice la n c)).put (some 49) (.int .i64 (n : Int))).put (some 50) (u) → Q .normal a' w') :
    (Code.region 8 fk8_ops true).wp Tryd.prog Q a w := by
  refine x0 9 (fun w' => S w') (h0) (fun hHeld => ?_)
  refine xv 0 rfl rfl (fun w1 hw => exec_move rfl (zi t3 rfl)) hHeld ?_
  refine xv 1 rfl rfl (fun w1 hw => exec_nilCheck rfl (zg zz rfl)) hHeld ?_
  refine xv 2 rfl rfl (fun w1 hw => exec_fieldAt rfl (zg zz rfl) (fg_84_0 _ _ _)) hHeld ?_
  refine xv 3 rfl rfl (fun w1 hw => exec_load rfl (zg zz rfl) (G0 _ hw)) hHeld ?_
  refine xv 4 rfl rfl (fun w1 hw => exec_load rfl (zi t4 rfl) (G1 _ hw)) hHeld ?_
  refine xv 5 rfl rfl (fun w1 hw => exec_move rfl (zi t5 rfl)) hHeld ?_
  refine xv 6 rfl rfl (fun w1 hw => exec_move rfl (zi t5 rfl)) hHeld ?_
  refine xv 7 rfl rfl (fun w1 hw => exec_len rfl (zg zz rfl) (len_en _ _ _ _ _)) hHeld ?_
  refine xc 8 rfl rfl (exec_c2 rfl (zg zz rfl) (zg zz rfl)) (CK) (fun e x8 hx => ?_)
  obtain ⟨u, w2, rfl, S1, EM, HF⟩ := hx
  replace h := h u
  refine ⟨_, rfl, fun _ => S1, fun hHeld => ?_⟩
  replace hHeld := hHeld (by decide)
  refine xs 9 rfl rfl (exec_mapUpdate rfl (zg zz rfl) (zg zz rfl) (zg zz rfl) EM) (fun hne => absurd rfl hne) (fun _ => ?_)
  exact xe rfl (h _ _ (HF) rfl)
def fk12_o0 : Oper := ⟨some 61, .move (.tmp 3), 26, "regs.go:42", #[], none⟩
def fk12_o1 : Oper := ⟨some 62, .nilCheck (.tmp 61), 0, "regs.go:42", #[⟨0, .data⟩], none⟩
def fk12_o2 : Oper := ⟨some 63, .fieldAddr 84 (.tmp 62) 1, 0, "regs.go:42", #[⟨1, .data⟩], none⟩
def fk12_o3 : Oper := ⟨some 64, .load 82 (.tmp 63), 82, "regs.go:42", #[⟨2, .data⟩], none⟩
def fk12_o4 : Oper := ⟨some 65, .load 38 (.tmp 6), 38, "regs.go:42", #[], none⟩
def fk12_o5 : Oper := ⟨some 66, .move (.tmp 7), 97, "regs.go:42", #[], none⟩
def fk12_o6 : Oper := ⟨some 67, .call { callee := Callee.value (Operand.func 46), args := #[.tmp 66], argTypes := #[97] }, 97, "regs.go:42", #[⟨5, .data⟩], none⟩
def fk12_o7 : Oper := ⟨none, .mapUpdate 82 (.tmp 64) (.tmp 65) (.tmp 67), 0, "regs.go:42", #[⟨3, .data⟩, ⟨4, .data⟩, ⟨6, .data⟩, ⟨6, .chain⟩, ⟨0, .phase⟩, ⟨1, .phase⟩, ⟨2, .phase⟩, ⟨3, .phase⟩, ⟨4, .phase⟩, ⟨5, .phase⟩, ⟨6, .phase⟩], none⟩
def fk12_ops : Array Oper := #[fk12_o0, fk12_o1, fk12_o2, fk12_o3, fk12_o4, fk12_o5, fk12_o6, fk12_o7]
theorem fk12 {f pb fb : Nat} {mv : Value} {p : IdK} (S Fin : World → Prop) (a : Act) (w : World) (Q : Exit → Act → World → Prop) (zz : a.tmps.size = 69)
    (t3 : a.tmps.getD 3 undef = .pointer (some ⟨f, 0, none⟩))
    (t6 : a.tmps.getD 6 undef = .pointer (some ⟨pb, 0, none⟩))
    (t7 : a.tmps.getD 7 undef = mv)
    (h0 : S w.drew) (G0 : ∀ W, S W → (Instr.loadAt 82 (.pointer (some ⟨f, 0 + 1, none⟩))).run Tryd.prog W = .ok (.map (some fb)) W) (G1 : ∀ W, S W → (Instr.loadAt 38 (.pointer (some ⟨pb, 0, none⟩))).run Tryd.prog W = .ok (p.v) W) (CK : Calls Tryd.prog 46 #[mv] w.drew fun e w' => ∃ u w2, e = .returned u ∧ S w' ∧ (Instr.mapUpdate 82 (.map (some fb)) p.v u).run Tryd.prog w' = .ok () w2 ∧ Fin w2)
    (h : ∀ (u : Value) (a' : Act) (w' : World), Fin w' → a' = (((((((a).put (some 61) (.pointer (some ⟨f, 0, none⟩))).put (some 62) (.pointer (some ⟨f, 0, none⟩))).put (some 63) (.pointer (some ⟨f, 0 + 1, none⟩))).put (some 64) (.map (some fb))).put (some 65) (p.v)).put (some 66) (mv)).put (some 67) (u) → Q .normal a' w') :
    (Code.region 12 fk12_ops true).wp Tryd.prog Q a w := by
  refine x0 7 (fun w' => S w') (h0) (fun hHeld => ?_)
  refine xv 0 rfl rfl (fun w1 hw => exec_move rfl (zi t3 rfl)) hHeld ?_
  refine xv 1 rfl rfl (fun w1 hw => exec_nilCheck rfl (zg zz rfl)) hHeld ?_
  refine xv 2 rfl rfl (fun w1 hw => exec_fieldAt rfl (zg zz rfl) (fg_84_1 _ _ _)) hHeld ?_
  refine xv 3 rfl rfl (fun w1 hw => exec_load rfl (zg zz rfl) (G0 _ hw)) hHeld ?_
  refine xv 4 rfl rfl (fun w1 hw => exec_load rfl (zi t6 rfl) (G1 _ hw)) hHeld ?_
  refine xv 5 rfl rfl (fun w1 hw => exec_move rfl (zi t7 rfl)) hHeld ?_
  refine xc 6 rfl rfl (exec_c1 rfl (zg zz rfl)) (CK) (fun e x6 hx => ?_)
  obtain ⟨u, w2, rfl, S1, EM, HF⟩ := hx
  replace h := h u
  refine ⟨_, rfl, fun _ => S1, fun hHeld => ?_⟩
  replace hHeld := hHeld (by decide)
  refine xs 7 rfl rfl (exec_mapUpdate rfl (zg zz rfl) (zg zz rfl) (zg zz rfl) EM) (fun hne => absurd rfl hne) (fun _ => ?_)
  exact xe rfl (h _ _ (HF) rfl)
end Go.Proofs.YtldlljobofnmmaaDoor
namespace Go.Proofs.YtldlljobofnmmaaDoor.M
open Go.RowKit Go.ChangeMaps
set_option linter.unusedVariables false
set_option linter.unusedSimpArgs false
section
variable {P : Program} {κ : Type}
def kv (e : MapEntry) : Value × Value := (e.key, e.val)
def Iter (w : World) (b r : Nat) (enc : κ → Value) (E T : List (κ × Value)) : Prop :=
  ∃ es clock since seen c0, w.heap[b]? = some (.map es clock) ∧ es.toList.map (fun e => (e.key, e.val)) = E.map (fun p => (enc p.1, p.2)) ∧ Stamps (es.toList.map (·.born)) clock ∧
    w.heap[r]? = some (.mapIter (some b) since seen c0) ∧ (∀ x ∈ es.toList, x.born < since) ∧ since ≤ c0 ∧ since ≤ clock ∧ (leftOf es seen).toList.map (fun e => (e.key, e.val)) = T.map (fun p => (enc p.1, p.2))
def Now (w : World) (b r : Nat) (x y : Value) : Prop :=
  ∃ (es : Array MapEntry) (clock since : Nat) (seen : Array Nat) (e : MapEntry), w.heap[r]? = some (.mapIter (some b) since (seen.push e.born) clock) ∧ w.heap[b]? = some (.map es clock) ∧ e ∈ es.toList ∧ (es.toList.map (·.born)).Nodup ∧ e.key = x ∧ e.val = y
theorem Iter.same {w w' : World} {b r : Nat} {enc : κ → Value} {E T : List (κ × Value)} (h : Iter w b r enc E T) (hb : w'.heap[b]? = w.heap[b]?) (hr : w'.heap[r]? = w.heap[r]?) : Iter w' b r enc E T := by
  obtain ⟨es, c, s, n, c0, h1, h2, h3, h4, h5⟩ := h
  exact ⟨es, c, s, n, c0, hb.trans h1, h2, h3, hr.trans h4, h5⟩
theorem Now.same {w w' : World} {b r : Nat} {x y : Value} (h : Now w b r x y) (hb : w'.heap[b]? = w.heap[b]?) (hr : w'.heap[r]? = w.heap[r]?) : Now w' b r x y := by
  obtain ⟨es, c, s, n, e, h1, h2, h5⟩ := h
  exact ⟨es, c, s, n, e, hr.trans h1, hb.trans h2, h5⟩
theorem Now.run {w : World} {b r : Nat} {x y : Value} (h : Now w b r x y) : (Instr.entry (.pointer (some ⟨r, 0, none⟩))).run P w = .ok (.tuple #[x, y]) w := by
  obtain ⟨es, c, s, n, e, h1, h2, h3, h4, rfl, rfl⟩ := h
  exact run_entry_at w r b s n es c e h1 h2 h3 h4
theorem range_any {t k e : TypeId} {w : World} {b : Nat} {enc : κ → Value} {V : κ → Prop} {E : List (κ × Value)} (ht : P.underlying t = some (.map k e)) (h : MapAt w b enc V E) :
    ∃ w', (Instr.range t (.map (some b))).run P w = .ok (.pointer (some ⟨w.heap.size, 0, none⟩)) w' ∧ Iter w' b w.heap.size enc E E ∧ w'.heap.size = w.heap.size + 1 ∧ Below w.heap.size w w' := by
  have hlt := h.lt
  obtain ⟨⟨es, c, hb, he, hs⟩, hn, hV⟩ := h
  refine ⟨_, run_range_map w t k e b es c ht hb, ⟨es, c, c, #[], c, (heap_alloc_old w _ hlt).trans hb, he, hs, heap_alloc_new _ _, fun x hx => hs.1 _ (List.mem_map.2 ⟨x, hx, rfl⟩), Nat.le_refl _, Nat.le_refl _, ?_⟩, by simp, (Below.refl _ _).alloc (Nat.le_refl _) _⟩
  rw [show leftOf es #[] = es by simp [leftOf]]
  exact he
theorem next_any {ty : TypeId} {w : World} {b r : Nat} {enc : κ → Value} {E T : List (κ × Value)} (h : Iter w b r enc E T) :
    (T = [] ∧ (Instr.next (.pointer (some ⟨r, 0, none⟩)) false ty).run P w = .ok (.tuple #[.bool false]) w) ∨
    ∃ A p B w', T = A ++ p :: B ∧ (Instr.next (.pointer (some ⟨r, 0, none⟩)) false ty).run P w = .ok (.tuple #[.bool true, enc p.1, p.2]) w' ∧ Iter w' b r enc E (A ++ B) ∧ Now w' b r (enc p.1) p.2 ∧ Tch (fun j => j = r) w w' ∧ w'.heap.size = w.heap.size := by
  obtain ⟨es, c, since, seen, c0, hb, he, hs, hr, hold, hsc, hc, hl⟩ := h
  have hrl : r < w.heap.size := (Array.getElem?_eq_some_iff.1 hr).1
  have hne : b ≠ r := by
    rintro rfl
    rw [hb] at hr
    cases hr
  rcases run_next_at (P := P) w ty r b since c0 seen es c hr hb hold hsc with ⟨h0, hrun⟩ | ⟨e, hm, w1, hw1, hrun⟩
  · left
    refine ⟨?_, hrun⟩
    have : (leftOf es seen).toList = [] := by rw [← Array.length_toList] at h0; exact List.eq_nil_of_length_eq_zero h0
    rw [this] at hl
    simpa using hl.symm
  · right
    obtain ⟨X, Y, hXY⟩ := List.append_of_mem hm
    rw [hXY, List.map_append, List.map_cons] at hl
    obtain ⟨A, T2, rfl, hA, hT2⟩ := List.map_eq_append_iff.1 hl.symm
    obtain ⟨p, B, rfl, hp, hB⟩ := List.map_eq_cons_iff.1 hT2
    have hk1 : enc p.1 = e.key := (Prod.mk.inj hp).1
    have hk2 : p.2 = e.val := (Prod.mk.inj hp).2
    have hmem : e ∈ es.toList := by
      have : e ∈ leftOf es seen := by simpa using hm
      unfold leftOf at this
      rw [Array.mem_filter] at this
      simpa using this.1
    have hsub : ((leftOf es seen).toList.map (·.born)).Nodup := by
      refine hs.2.sublist (List.Sublist.map _ ?_)
      unfold leftOf
      rw [Array.toList_filter]
      exact List.filter_sublist
    have hlf : (leftOf es (seen.push e.born)).toList = X ++ Y := by
      have e1 : leftOf es (seen.push e.born) = (leftOf es seen).filter (fun x => !(x.born == e.born)) := by
        unfold leftOf
        rw [Array.filter_filter]
        congr 1
        funext x
        cases h1 : (x.born == e.born) <;> cases h2 : seen.contains x.born <;> simp_all [Array.contains_push]
      rw [e1, Array.toList_filter, hXY, List.filter_append, List.filter_cons]
      rw [hXY, List.map_append, List.map_cons] at hsub
      have hd := List.nodup_append.1 hsub
      have hd2 := List.nodup_cons.1 hd.2.1
      rw [if_neg (by simp)]
      congr 1
      · refine List.filter_eq_self.2 fun x hx => ?_
        have := hd.2.2 x.born (List.mem_map.2 ⟨x, hx, rfl⟩) e.born (List.mem_cons_self ..)
        simpa using this
      · refine List.filter_eq_self.2 fun x hx => ?_
        have : x.born ≠ e.born := fun q => hd2.1 (by rw [← q]; exact List.mem_map.2 ⟨x, hx, rfl⟩)
        simpa using this
    have hw : ∀ j : Nat, w1.heap[j]? = w.heap[j]? := fun j => by rcases hw1 with rfl | rfl <;> rfl
    have hsz : w1.heap.size = w.heap.size := by rcases hw1 with rfl | rfl <;> rfl
    have hrr : (setBlock w1 r (.mapIter (some b) since (seen.push e.born) c)).heap[r]? = some (.mapIter (some b) since (seen.push e.born) c) := by
      simp [setBlock, hsz, hrl]
    have ho : ∀ j, j ≠ r → (setBlock w1 r (.mapIter (some b) since (seen.push e.born) c)).heap[j]? = w.heap[j]? := fun j hj => by
      rw [← hw j]
      simp [setBlock, Array.getElem?_setIfInBounds, Ne.symm hj]
    refine ⟨A, p, B, _, rfl, by rw [hk1, hk2]; exact hrun, ⟨es, c, since, _, c, (ho b hne).trans hb, he, hs, hrr, hold, hc, hc, ?_⟩, ⟨es, c, since, seen, e, hrr, (ho b hne).trans hb, hmem, hs.2, hk1.symm, hk2.symm⟩, ?_, ?_⟩
    · rw [hlf, List.map_append, List.map_append, hA, hB]
    · refine ⟨?_, ?_, ?_, by simp [setBlock, hsz], fun j hj hn => ho j hn⟩
      all_goals (rcases hw1 with rfl | rfl <;> rfl)
    · simp [setBlock, hsz]
end
end Go.Proofs.YtldlljobofnmmaaDoor.M
namespace Go.Proofs.YtldlljobofnmmaaDoor
theorem iter_left {κ : Type} {w : World} {b r : Nat} {enc : κ → Value} {E T : List (κ × Value)} (h : M.Iter w b r enc E T) : w.rangeLeft b r = T.length := by
  obtain ⟨es, c, since, seen, c0, hb, he, hs, hr, hold, hsc, hc, hl⟩ := h
  simp only [World.rangeLeft, hb, hr]
  have := congrArg List.length hl
  simpa using this
theorem iter_r {κ : Type} {w : World} {b r : Nat} {enc : κ → Value} {E T : List (κ × Value)} (h : M.Iter w b r enc E T) : (∃ a s n c, w.heap[r]? = some (.mapIter a s n c)) ∧ ∃ es c, w.heap[b]? = some (.map es c) := by
  obtain ⟨es, c, since, seen, c0, hb, he, hs, hr, _⟩ := h
  exact ⟨⟨_, _, _, _, hr⟩, _, _, hb⟩
theorem M.MapAt.clone {κ : Type} {w : World} {b : Nat} {enc : κ → Value} {V : κ → Prop} {E : List (κ × Value)} (h : M.MapAt w b enc V E) : ∃ es clock, w.heap[b]? = some (.map es clock) ∧ M.MapAt (w.alloc (.map es clock)) w.heap.size enc V E := by
  obtain ⟨⟨es, c, hb, he, hs⟩, hn, hV⟩ := h
  exact ⟨es, c, hb, ⟨es, c, heap_alloc_new _ _, he, hs⟩, hn, hV⟩
end Go.Proofs.YtldlljobofnmmaaDoor
namespace Go.Proofs.YtldlljobofnmmaaDoor
open Go.Shelf
def cloneP_ren : Go.Shelf.Ren := ⟨fun | 5 => 44 | 7 => 70 | n => n, fun | 23 => 81 | 25 => 52 | 3 => 60 | 4 => 4 | 20 => 20 | n => n, fun | n => n⟩
theorem cloneP : Go.Proofs.SlLaysW.n5 Tryd.prog cloneP_ren := {
  mixed := by kernel_rfl
  f5 := ⟨Tryd.f44.name, by decide, Tryd.func44.trans (congrArg some (by kernel_rfl))⟩
  f7 := Tryd.func70.trans (congrArg some (by kernel_rfl))
  t4 := Tryd.underlying4
  a4 := Tryd.isAgg4
  z4 := Tryd.sizeOf4
  v4 := Tryd.zeroValue4
  t20 := Tryd.underlying20
  a20 := Tryd.isAgg20
  z20 := Tryd.sizeOf20
  v20 := Tryd.zeroValue20
  t23 := Tryd.underlying81
  a23 := Tryd.isAgg81
  z23 := Tryd.sizeOf81
  v23 := Tryd.zeroValue81 }
def cloneS_ren : Go.Shelf.Ren := ⟨fun | 5 => 46 | 7 => 70 | n => n, fun | 23 => 97 | 25 => 9 | 3 => 99 | 4 => 4 | 20 => 20 | n => n, fun | n => n⟩
theorem cloneS : Go.Proofs.SlLaysW.n5 Tryd.prog cloneS_ren := {
  mixed := by kernel_rfl
  f5 := ⟨Tryd.f46.name, by decide, Tryd.func46.trans (congrArg some (by kernel_rfl))⟩
  f7 := Tryd.func70.trans (congrArg some (by kernel_rfl))
  t4 := Tryd.underlying4
  a4 := Tryd.isAgg4
  z4 := Tryd.sizeOf4
  v4 := Tryd.zeroValue4
  t20 := Tryd.underlying20
  a20 := Tryd.isAgg20
  z20 := Tryd.sizeOf20
  v20 := Tryd.zeroValue20
  t23 := Tryd.underlying97
  a23 := Tryd.isAgg97
  z23 := Tryd.sizeOf97
  v23 := Tryd.zeroValue97 }
end Go.Proofs.YtldlljobofnmmaaDoor
namespace Go.Proofs.YtldlljobofnmmaaDoor
open Go.RowKit Go.Shelf
set_option linter.unusedVariables false
set_option linter.unusedSimpArgs false
theorem clone_places {w : World} {b : Nat} {E : List (PlK × Value)} (h : M.MapAt w b PlK.v PlK.ok E) : ∃ w1, Calls Tryd.prog 44 #[.map (some b)] w (fun e w' => e = .returned (.map (some w.heap.size)) ∧ w' = w1) ∧ M.MapAt w1 w.heap.size PlK.v PlK.ok E ∧ Below w.heap.size w w1 ∧ w1.heap.size = w.heap.size + 1 := by
  obtain ⟨es, c, hb, hm⟩ := h.clone
  exact ⟨_, AnyW.maps_Clone cloneP b es c w hb, hm, (Below.refl _ _).alloc (Nat.le_refl _) _, by simp⟩
theorem clone_keys {w : World} {b : Nat} {E : List (ByteArray × Value)} (h : M.MapAt w b tx txOk E) : ∃ w1, Calls Tryd.prog 46 #[.map (some b)] w (fun e w' => e = .returned (.map (some w.heap.size)) ∧ w' = w1) ∧ M.MapAt w1 w.heap.size tx txOk E ∧ Below w.heap.size w w1 ∧ w1.heap.size = w.heap.size + 1 := by
  obtain ⟨es, c, hb, hm⟩ := h.clone
  exact ⟨_, AnyW.maps_Clone cloneS b es c w hb, hm, (Below.refl _ _).alloc (Nat.le_refl _) _, by simp⟩
theorem run_makeMapN (n : Nat) (w : World) : (Instr.makeMap 82 (some (.int .i64 (n : Int)))).run Tryd.prog w = .ok (.map (some w.heap.size)) (w.alloc (.map #[] 0)) := by
  simp [Instr.makeMap, run_underlying Tryd.underlying82, asInt, asIntOf]
theorem build_rg (a b : Nat) (p : Option Addr) (w : World) : (Instr.build 84 #[(0, .map (some a)), (1, .map (some b)), (2, .pointer p)]).run Tryd.prog w = .ok (.agg #[.map (some a), .map (some b), .pointer p]) w := by go_simp
theorem box_rg (a b : Nat) (p : Option Addr) (w : World) : (Instr.box 84 (.agg #[.map (some a), .map (some b), .pointer p])).run Tryd.prog w = .ok (.pointer (some ⟨w.heap.size, 0, none⟩)) (w.alloc (.cells #[.map (some a), .map (some b), .pointer p] 84)) := by go_simp
theorem nodup3R {a b c : Nat} (h1 : a ≠ b) (h2 : a ≠ c) (h3 : b ≠ c) : [a, b, c].Nodup := by simp [h1, h2, h3]
theorem mem_less {α β : Type} {A B : List (α × β)} {p : α × β} {k : α} {v : β} (h : (k, v) ∈ A ++ p :: B) (hk : k ≠ p.1) : (k, v) ∈ A ++ B := by
  rcases List.mem_append.1 h with h | h
  · exact List.mem_append_left _ h
  · rcases List.mem_cons.1 h with h | h
    · exact absurd (congrArg (·.1) h) hk
    · exact List.mem_append_right _ h
theorem nd_less {α β : Type} {A B : List (α × β)} {p : α × β} (h : ((A ++ p :: B).map (·.1)).Nodup) : ((A ++ B).map (·.1)).Nodup := by
  rw [List.map_append, List.map_cons] at h
  refine h.sublist ?_
  rw [List.map_append]
  exact List.Sublist.append (List.Sublist.refl _) (List.sublist_cons_self _ _)
theorem ne_less {α β : Type} {A B : List (α × β)} {p : α × β} (h : ((A ++ p :: B).map (·.1)).Nodup) : ∀ x ∈ A ++ B, x.1 ≠ p.1 := fun x hx e => by
  rw [List.map_append, List.map_cons] at h
  have h1 := List.nodup_append.1 h
  have h2 := List.nodup_cons.1 h1.2.1
  rcases List.mem_append.1 hx with hx | hx
  · exact h1.2.2 x.1 (List.mem_map.2 ⟨x, hx, rfl⟩) p.1 (List.mem_cons_self ..) e
  · exact h2.1 (List.mem_map.2 ⟨x, hx, e⟩)
theorem sub_less {α : Type} {A B : List α} {p : α} : ∀ x ∈ A ++ B, x ∈ A ++ p :: B := fun x hx => by
  rcases List.mem_append.1 hx with hx | hx
  · exact List.mem_append_left _ hx
  · exact List.mem_append_right _ (List.mem_cons_of_mem _ hx)
abbrev PLs := List (PlK × (Value × List EnV))
abbrev KLs := List (IdK × (Nat × List ByteArray))
structure CpP (P P' : PLs) (T : List (PlK × Value)) : Prop where
  c1 : ∀ q ∈ P', ∃ q0 ∈ P, q0.1 = q.1 ∧ q0.2.2 = q.2.2 ∧ q.2.1.ownBlock = q0.2.1.ownBlock ∧ ∃ a n c c', q0.2.1 = .slice a n c ∧ q.2.1 = .slice a n c' ∧ (c' = n ∨ (c' = c ∧ (n < c → ∃ v, (q.1, v) ∈ T)))
  c2 : ∀ q0 ∈ P, ∃ v, (q0.1, (v, q0.2.2)) ∈ P'
  c3 : ∀ x ∈ T, x ∈ entP P
  nd : (T.map (·.1)).Nodup
theorem entP_mem {P : PLs} {p : PlK × Value} (h : p ∈ entP P) : ∃ q ∈ P, q.1 = p.1 ∧ q.2.1 = p.2 := by
  unfold entP M.onV at h
  obtain ⟨q, hq, rfl⟩ := List.mem_map.1 h
  exact ⟨q, hq, rfl, rfl⟩
theorem entK_mem {K : KLs} {p : IdK × Value} (h : p ∈ entK K) : ∃ b l, (p.1, (b, l)) ∈ K ∧ p.2 = .map (some b) := by
  unfold entK M.onV at h
  obtain ⟨q, hq, rfl⟩ := List.mem_map.1 h
  exact ⟨q.2.1, q.2.2, hq, rfl⟩
theorem CpP.start {P : PLs} (hP : (P.map (·.1)).Nodup) (hf : ∀ q ∈ P, ∃ a n c, q.2.1 = .slice a n c) : CpP P P (entP P) := by
  refine ⟨fun q hq => ?_, fun q hq => ⟨q.2.1, hq⟩, fun x hx => hx, by rw [entP, M.onV_keys]; exact hP⟩
  obtain ⟨a, n, c, e⟩ := hf q hq
  exact ⟨q, hq, rfl, rfl, rfl, a, n, c, c, e, e, .inr ⟨rfl, fun _ => ⟨q.2.1, List.mem_map.2 ⟨q, hq, rfl⟩⟩⟩⟩
theorem CpP.same {P P' : PLs} {A B : List (PlK × Value)} {p : PlK × Value} (h : CpP P P' (A ++ p :: B)) (hP : (P.map (·.1)).Nodup) {q0 : PlK × (Value × List EnV)} (hq0 : q0 ∈ P) (e0 : q0.1 = p.1) {a : Option Addr} {n c : Nat} (e1 : q0.2.1 = .slice a n c) (hn : ¬ n < c) : CpP P P' (A ++ B) := by
  refine ⟨fun q hq => ?_, h.c2, fun x hx => h.c3 x (sub_less x hx), nd_less h.nd⟩
  obtain ⟨q1, hq1, k1, k2, k3, a1, n1, c1, c1', k4, k5, k6⟩ := h.c1 q hq
  refine ⟨q1, hq1, k1, k2, k3, a1, n1, c1, c1', k4, k5, k6.imp id (fun k => ⟨k.1, fun hlt => ?_⟩)⟩
  obtain ⟨v, hv⟩ := k.2 hlt
  by_cases e : q.1 = p.1
  · have : q1 = q0 := nodup_injG (·.1) hP q1 hq1 q0 hq0 (by rw [k1, e, e0])
    subst this
    rw [e1] at k4
    injection k4 with _ k7 k8
    omega
  · exact ⟨v, mem_less hv e⟩
theorem CpP.cut {P P' : PLs} {A B : List (PlK × Value)} {p : PlK × Value} (h : CpP P P' (A ++ p :: B)) (hP : (P.map (·.1)).Nodup) (hn : (P'.map (·.1)).Nodup) {q0 : PlK × (Value × List EnV)} (hq0 : q0 ∈ P) (e0 : q0.1 = p.1) {a : Option Addr} {n c : Nat} (e1 : q0.2.1 = .slice a n c) (ob : (Value.slice a n n).ownBlock = q0.2.1.ownBlock) : CpP P (M.put P' p.1 (.slice a n n, q0.2.2)) (A ++ B) := by
  refine ⟨fun q hq => ?_, fun q hq => ?_, fun x hx => h.c3 x (sub_less x hx), nd_less h.nd⟩
  · rcases put_memG hn hq with rfl | ⟨hq, hne⟩
    · exact ⟨q0, hq0, e0, rfl, ob, a, n, c, n, e1, rfl, .inl rfl⟩
    · obtain ⟨q1, hq1, k1, k2, k3, a1, n1, c1, c1', k4, k5, k6⟩ := h.c1 q hq
      refine ⟨q1, hq1, k1, k2, k3, a1, n1, c1, c1', k4, k5, k6.imp id (fun k => ⟨k.1, fun hlt => ?_⟩)⟩
      obtain ⟨v, hv⟩ := k.2 hlt
      exact ⟨v, mem_less hv hne⟩
  · by_cases e : q.1 = p.1
    · have : q = q0 := nodup_injG (·.1) hP q hq q0 hq0 (by rw [e, e0])
      subst this
      rw [e]
      exact ⟨_, put_inG _ _ hn⟩
    · obtain ⟨v, hv⟩ := h.c2 q hq
      exact ⟨v, put_oldG _ hn hv e⟩
theorem CpP.look {P P' : PLs} {T : List (PlK × Value)} (h : CpP P P' T) (hP : (P.map (·.1)).Nodup) (hn : (P'.map (·.1)).Nodup) (k : PlK) : (M.look P' k).map (·.2) = (M.look P k).map (·.2) := by
  cases e : M.look P k with
  | some q =>
    obtain ⟨v, hv⟩ := h.c2 _ (M.look_mem e)
    rw [M.look_of_mem hn hv]
    rfl
  | none =>
    cases e' : M.look P' k with
    | none => rfl
    | some q =>
      obtain ⟨q1, hq1, k1, _⟩ := h.c1 _ (M.look_mem e')
      have := M.look_of_mem hP (k := q1.1) (v := q1.2) hq1
      rw [k1] at this
      rw [show M.look P k = some q1.2 from this] at e
      cases e
theorem CpP.li {P P' : PLs} {T : List (PlK × Value)} (h : CpP P P' T) (hP : (P.map (·.1)).Nodup) (hn : (P'.map (·.1)).Nodup) (k : PlK) : liOf P' k = liOf P k := by
  unfold liOf
  rw [h.look hP hn]
theorem CpP.some {P P' : PLs} {T : List (PlK × Value)} (h : CpP P P' T) (hP : (P.map (·.1)).Nodup) (hn : (P'.map (·.1)).Nodup) (k : PlK) : (M.look P' k).isSome = (M.look P k).isSome := by
  have := congrArg Option.isSome (h.look hP hn k)
  simpa using this
structure CpK (R R' : KLs) (T : List (IdK × Value)) : Prop where
  d1 : ∀ q ∈ R', ∃ b0, (q.1, (b0, q.2.2)) ∈ R
  d2 : ∀ q ∈ R, (∃ v, (q.1, v) ∈ T) ∨ ∃ b', (q.1, (b', q.2.2)) ∈ R'
  d3 : ∀ p ∈ T, p ∈ entK R
  d4 : ∀ p ∈ T, M.look R' p.1 = none
  nd : (T.map (·.1)).Nodup
theorem CpK.start {R : KLs} (h : (R.map (·.1)).Nodup) : CpK R [] (entK R) :=
  ⟨by simp, fun q hq => Or.inl ⟨_, List.mem_map.2 ⟨q, hq, rfl⟩⟩, fun p hp => hp, fun p hp => rfl, by rw [entK, M.onV_keys]; exact h⟩
theorem CpK.step {R R' : KLs} {A B : List (IdK × Value)} {p : IdK × Value} (h : CpK R R' (A ++ p :: B)) (hR : (R.map (·.1)).Nodup) (hn : (R'.map (·.1)).Nodup) {b0 : Nat} {l : List ByteArray} (hp : (p.1, (b0, l)) ∈ R) (b' : Nat) : CpK R (M.put R' p.1 (b', l)) (A ++ B) := by
  refine ⟨fun q hq => ?_, fun q hq => ?_, fun x hx => h.d3 x (sub_less x hx), fun x hx => ?_, nd_less h.nd⟩
  · rcases put_memG hn hq with rfl | ⟨hq, _⟩
    · exact ⟨b0, hp⟩
    · exact h.d1 q hq
  · by_cases e : q.1 = p.1
    · have : q = (p.1, (b0, l)) := nodup_injG (·.1) hR q hq _ hp e
      subst this
      exact Or.inr ⟨b', put_inG _ _ hn⟩
    · rcases h.d2 q hq with ⟨v, hv⟩ | ⟨b2, h2⟩
      · exact Or.inl ⟨v, mem_less hv e⟩
      · exact Or.inr ⟨b2, put_oldG _ hn h2 e⟩
  · rw [M.put_look _ _ _ hn, if_neg (ne_less h.nd x hx)]
    exact h.d4 x (sub_less x hx)
theorem CpK.keys {R R' : KLs} {P P' : PLs} (h : CpK R R' []) (ko : KeysOk R P) (hl : ∀ k, (M.look P' k).isSome = (M.look P k).isSome) : KeysOk R' P' := by
  refine ⟨fun q hq => ?_, fun o k => ?_⟩
  · obtain ⟨b0, h0⟩ := h.d1 q hq
    have := ko.full (q.1, (b0, q.2.2)) h0
    exact this
  · rw [hl, ← ko.mem]
    constructor
    · rintro ⟨b, l, hm, hk⟩
      obtain ⟨b0, h0⟩ := h.d1 _ hm
      exact ⟨b0, l, h0, hk⟩
    · rintro ⟨b, l, hm, hk⟩
      rcases h.d2 _ hm with ⟨v, hv⟩ | ⟨b', hb⟩
      · cases hv
      · exact ⟨b', l, hb, hk⟩
structure FkE (w : World) (base : Nat) (s : Rs) (H : List Rec) (s2 : Rs) (w' : World) : Prop where
  at' : RgAt w' base s2 H
  bel : Below w.heap.size w w'
  new : ∀ j ∈ s2.bl, w.heap.size ≤ j
  li : ∀ q, liOf s2.P q = liOf s.P q
  al : ∀ q ∈ s2.P, ∃ q0 ∈ s.P, q.2.1.ownBlock = q0.2.1.ownBlock
  rm : Rm s s2
theorem fork_end {w w' : World} {base : Nat} {s : Rs} {H : List Rec} (h : RgAt w base s H) {t2 bp2 bk2 : Nat} {P' : PLs} {K' : KLs} (m : RgM w' base ⟨t2, bp2, bk2, P', K', s.last⟩) (bel : Below w.heap.size w w') (cp : CpP s.P P' []) (ck : CpK s.K K' []) (hnew : ∀ j ∈ Rs.bl ⟨t2, bp2, bk2, P', K', s.last⟩, w.heap.size ≤ j) : FkE w base s H ⟨t2, bp2, bk2, P', K', s.last⟩ w' := by
  have hP := h.mem.places
  have hn : (P'.map (·.1)).Nodup := m.places
  have li := cp.li hP hn
  refine ⟨⟨m, ck.keys h.key (cp.some hP hn), h.last, h.hist.keep (tch_of bel (fun _ => False)) (fun _ _ _ _ _ _ _ q => q), h.hok.congr li⟩, bel, hnew, li, fun q hq => ?_, fun q hq q' hq' b n c n' c' e e' => ?_⟩
  · obtain ⟨q0, hq0, _, _, k, _⟩ := cp.c1 q hq
    exact ⟨q0, hq0, k⟩
  · obtain ⟨q0, hq0, k1, k2, k3, a, n0, c0, c0', k4, k5, k6⟩ := cp.c1 q' hq'
    have ob : q0 = q := nodup_injG (·.2.1.ownBlock) h.mem.ead q0 hq0 q hq (by
      show q0.2.1.ownBlock = q.2.1.ownBlock
      rw [← k3, e', e]; rfl)
    subst ob
    rw [e] at k4
    rw [e'] at k5
    injection k4 with _ k7 k8
    injection k5 with _ k9 k10
    have le := (lo_room (h.mem.en _ hq0).1 e).1
    have hc : c0' = n0 := by
      rcases k6 with k | ⟨k, kk⟩
      · exact k
      · have : ¬ n0 < c0 := fun hlt => by
          obtain ⟨v, hv⟩ := kk hlt
          cases hv
        omega
    exact ⟨fun _ => ⟨by omega, by omega⟩, fun hlt => by omega⟩
end Go.Proofs.YtldlljobofnmmaaDoor
