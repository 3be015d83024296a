import Derived.Test.YtifendlpeebofaaGreatDoorP5
import Derived.Test.YtifendlpeebofaaGreatDoorP0
import Derived.Laws.FloatArith
import Derived.Test.YtifendlpeebofaaGreatDoorTie
import Derived.Test.YtifendlpeebofaaGreatDoorCards
import Derived.Lib.LaidU8T
import Derived.Lib.LaidU8
import Derived.LaidMore
import Derived.MakeChecks
import Derived.Lay
import Derived.Lib.SmallJoins
import Derived.Stop.Joined
import Derived.SevenTiedAt
import Derived.SizedLaws
import Derived.Deep.DeepHandedRow
import Derived.JoinedCond
import Derived.Test.YtifendlpeebofaaGreatDoorP2
set_option linter.unusedSimpArgs false
set_option linter.unusedVariables false
set_option maxRecDepth 100000
set_option maxHeartbeats 4000000
namespace Go.Proofs.YtifendlpeebofaaGreatDoor
open Go.RowKit Sq
theorem idN_inj {a b : Int} : idN a = idN b ↔ a = b := by simp [idN]
theorem idN_zero : idN 0 = zId := rfl
theorem idN_ok {n : Int} (h : -9223372036854775808 ≤ n ∧ n ≤ 9223372036854775807) : (idN n).ok := ⟨zId_ok.l, h.1, h.2⟩
def seg (a n : Nat) : List Elt := (List.range n).map fun (i : Nat) => (⟨idN ((a + i + 1 : Nat) : Int), idN ((a + i : Nat) : Int), true⟩ : Elt)
theorem seg_len (a n : Nat) : (seg a n).length = n := by simp [seg]
theorem seg_succ (a n : Nat) : seg a (n + 1) = seg a n ++ [⟨idN ((a + n + 1 : Nat) : Int), idN ((a + n : Nat) : Int), true⟩] := by
  unfold seg
  rw [List.range_succ, List.map_append]
  rfl
theorem seg_app (a m : Nat) : ∀ n, seg a (m + n) = seg a m ++ seg (a + m) n
  | 0 => by simp [seg]
  | n + 1 => by rw [← Nat.add_assoc, seg_succ, seg_app a m n, seg_succ, List.append_assoc, Nat.add_assoc a m n]
theorem seg_one (a : Nat) : seg a 1 = [⟨idN ((a + 1 : Nat) : Int), idN ((a : Nat) : Int), true⟩] := by simp [seg]
theorem seg_mem {a n : Nat} {y : Elt} (h : y ∈ seg a n) : ∃ i, i < n ∧ y.id = idN ((a + i + 1 : Nat) : Int) := by
  obtain ⟨i, hi, rfl⟩ := List.mem_map.1 h
  exact ⟨i, List.mem_range.1 hi, rfl⟩
theorem seg_not {a n : Nat} {p : Int} (h : p ≤ a ∨ (a : Int) + n < p) : ∀ y ∈ seg a n, y.id ≠ idN p := fun y hy e => by
  obtain ⟨i, hi, q⟩ := seg_mem hy
  rw [q, idN_inj] at e
  omega
theorem seg_cut {a n p : Nat} (h0 : a < p) (h1 : p ≤ a + n) : seg a n = seg a (p - a - 1) ++ (⟨idN (p : Int), idN ((p - 1 : Nat) : Int), true⟩ : Elt) :: seg p (a + n - p) := by
  have e : n = (p - a - 1) + (1 + (a + n - p)) := by omega
  rw [show seg a n = seg a ((p - a - 1) + (1 + (a + n - p))) by rw [← e], seg_app, seg_app, seg_one]
  rw [show a + (p - a - 1) = p - 1 by omega, show p - 1 + 1 = p by omega]
  rfl
theorem ahead_mid {A B : List Elt} {e : Elt} (h : ∀ y ∈ A, y.id ≠ e.id) : aheadE (A ++ e :: B) false e.id = (A.length : Int) := by
  unfold aheadE
  rw [if_pos (hasE_iff.2 ⟨e, by simp, rfl⟩), takeWhile_mid (fun y hy => by simp [h y hy]) (by simp)]
  congr 1
  rw [List.countP_eq_length]
  intro y _
  rfl
theorem ahead_seg {k p : Nat} (h0 : 0 < p) (h1 : p ≤ k) : aheadE (seg 0 k) false (idN (p : Int)) = (p : Int) - 1 := by
  rw [seg_cut h0 (by omega)]
  have := ahead_mid (A := seg 0 (p - 0 - 1)) (B := seg p (0 + k - p)) (e := ⟨idN (p : Int), idN ((p - 1 : Nat) : Int), true⟩) (seg_not (.inr (by omega)))
  rw [this, seg_len]
  omega
theorem has_seg {k p : Nat} (h0 : 0 < p) (h1 : p ≤ k) : hasE (seg 0 k) (idN (p : Int)) = true := by
  rw [seg_cut h0 (by omega)]
  exact hasE_iff.2 ⟨_, List.mem_append.2 (.inr (List.mem_cons_self ..)), rfl⟩
theorem hasnt {E : List Elt} {k : IdK} (h : ∀ y ∈ E, y.id ≠ k) : hasE E k = false := by
  cases e : hasE E k with
  | false => rfl
  | true => obtain ⟨y, hy, q⟩ := hasE_iff.1 e; exact absurd q (h y hy)
theorem ins_seg (k : Nat) : insC (seg 0 k) (idN ((k : Int) + 1)) (idN (k : Int)) = 0 ∧ insR (seg 0 k) (idN ((k : Int) + 1)) (idN (k : Int)) = seg 0 (k + 1) := by
  have c : insC (seg 0 k) (idN ((k : Int) + 1)) (idN (k : Int)) = 0 := by
    unfold insC
    rw [if_neg (show ¬ (idN ((k : Int) + 1)).n < 1 by show ¬ (k : Int) + 1 < 1; omega), if_neg (by rw [hasnt (seg_not (.inr (by omega)))]; decide), if_neg]
    rintro ⟨h1, h2⟩
    rcases Nat.eq_zero_or_pos k with rfl | hk
    · exact h1 idN_zero
    · rw [has_seg hk (Nat.le_refl _)] at h2; cases h2
  refine ⟨c, ?_⟩
  unfold insR
  rw [if_pos c, seg_succ, Nat.zero_add]
  unfold putE
  rcases Nat.eq_zero_or_pos k with rfl | hk
  · rw [if_pos (by exact idN_zero)]; rfl
  · rw [if_neg (fun e => by rw [← idN_zero, idN_inj] at e; omega)]
    rw [show k = (k - 1) + 1 by omega, seg_succ, Nat.zero_add]
    have := insE_mid (A := seg 0 (k - 1)) (B := []) (e := ⟨idN ((k - 1 + 1 : Nat) : Int), idN ((k - 1 : Nat) : Int), true⟩) (x := ⟨idN ((k - 1 + 1 : Nat) + 1), idN ((k - 1 + 1 : Nat) : Int), true⟩) (seg_not (.inr (by omega)))
    rw [this]
    simp
def szP (n : Int) : Int := if Int.tmod n ((13 : Nat) : Int) < 0 then -(Int.tmod n ((13 : Nat) : Int)) else Int.tmod n ((13 : Nat) : Int)
theorem szP_bd (n : Int) : 0 ≤ szP n ∧ szP n ≤ 12 := by
  have l1 : -((13 : Nat) : Int) < Int.tmod n ((13 : Nat) : Int) := by have := Int.lt_tmod_of_pos n (show (0 : Int) < ((13 : Nat) : Int) by omega); omega
  have l2 : Int.tmod n ((13 : Nat) : Int) < ((13 : Nat) : Int) := Int.tmod_lt_of_pos n (by omega)
  unfold szP
  split <;> omega
theorem size_any (n : Int) (w : World) : Calls Tryz.prog 33 #[.int .i64 n] w fun e w' => e = .returned (.int .i64 (szP n)) ∧ w' = w := by
  have l1 : -((13 : Nat) : Int) < Int.tmod n ((13 : Nat) : Int) := by have := Int.lt_tmod_of_pos n (show (0 : Int) < ((13 : Nat) : Int) by omega); omega
  have l2 : Int.tmod n ((13 : Nat) : Int) < ((13 : Nat) : Int) := Int.tmod_lt_of_pos n (by omega)
  unfold szP
  obtain ⟨r, hr⟩ : ∃ r, Int.tmod n ((13 : Nat) : Int) = r := ⟨_, rfl⟩
  have HR := hidMk hr
  rw [hr] at l1 l2 ⊢
  clear hr
  by_cases hz : r < 0
  · rw [if_pos hz]
    go_enter Tryz.func33, Tryz.ntmps33
    go_wp2_with (first | (refine wpList_val rfl (ex_rem (m := 13) (by omega) HR.out rfl rfl rfl) ?_) | fail)
    go_ret
    refine ⟨?_, rfl⟩
    first | rfl | (congr 2; go_num) | (simp; go_num) | (show Ending.returned _ = _; congr 2; unfold Go.RowKit.wrap64; omega)
  · rw [if_neg hz]
    go_enter Tryz.func33, Tryz.ntmps33
    go_wp2_with (first | (refine wpList_val rfl (ex_rem (m := 13) (by omega) HR.out rfl rfl rfl) ?_) | fail)
    go_ret
    exact ⟨rfl, rfl⟩
theorem gr_new {w w1 w2 : World} {s : Sx} {m : Mx} (hs : SeqAt w1 s []) (c1 : ∀ j ∈ s.bl, w.heap.size ≤ j) (b1 : Below w.heap.size w w1) (hm : MkAt w2 w1.heap.size m) (hL : m.L = []) (c2 : ∀ j, m.bl j → w1.heap.size ≤ j) (b2 : Below w1.heap.size w1 w2) : Gr w s.sb m.mb (seg 0 0) [] w2 :=
  ⟨⟨s, m, rfl, rfl, hs.below b2, ⟨hm.cell, hm.lo.mono b1.size, hm.ok, hm.map, hm.n⟩, hL, c1, fun j hj => Nat.le_trans b1.size (c2 j hj), fun j hj hq => by
    have := hs.lt j hj
    have := c2 j hq
    omega⟩, b1.trans (b2.mono b1.size)⟩
end Go.Proofs.YtifendlpeebofaaGreatDoor
namespace Go.Proofs.YtifendlpeebofaaGreatDoor
open Go.RowKit Go.Shelf Sq
attribute [local go_sem] Oper.semAt_some
def RR : RowT MkV := ⟨MkV.c, MkV.ok, 105, 184, 99, 88, zMk⟩
theorem RR_is : RR.Is := ⟨zMk_ok, fun _ h => MkV.len h, MkV.one, Tryz.underlying88, by kernel_rfl, ⟨_, Tryz.underlying99, rfl⟩, by decide, by decide⟩
structure Rx where
  rb : Nat
  lv : Value
  L : List MkV
structure RkAt (w : World) (base : Nat) (r : Rx) : Prop where
  cell : w.heap[r.rb]? = some (.cells #[r.lv] 90 (0, 0))
  row : RR.Own w base r.lv r.L
  ok : ∀ x ∈ r.L, x.ok
  b : base ≤ r.rb
  n : r.L.length ≤ 900000000000
def Rx.bl (r : Rx) (j : Nat) : Prop := j = r.rb ∨ r.lv.ownBlock = some j
section
variable {w w' W : World} {base : Nat} {r : Rx}
theorem RkAt.below (h : RkAt w base r) (b : Below w.heap.size w w') : RkAt w' base r :=
  ⟨(b.block _ (Array.getElem?_eq_some_iff.1 h.cell).1).trans h.cell, h.row.below b, h.ok, h.b, h.n⟩
theorem RkAt.lt (h : RkAt w base r) {j : Nat} (hj : r.bl j) : j < w.heap.size := by
  rcases hj with rfl | hj
  · exact (Array.getElem?_eq_some_iff.1 h.cell).1
  · exact h.row.lt hj
theorem RkAt.keep (h : RkAt w base r) (hk : ∀ j, r.bl j → w'.heap[j]? = w.heap[j]?) : RkAt w' base r :=
  ⟨(hk _ (.inl rfl)).trans h.cell, h.row.keep (fun j hj => hk j (.inr hj)), h.ok, h.b, h.n⟩
theorem RkAt.ge (h : RkAt w base r) {j : Nat} (hj : r.bl j) : base ≤ j := by
  rcases hj with rfl | hj
  · exact h.b
  · exact (h.row.cells hj).1
theorem RkAt.sl (h : RkAt w base r) : ∃ a c, r.lv = .slice a r.L.length c ∧ RR.At w a r.L := by
  obtain ⟨a, c, e, hat, _⟩ := h.row.open RR_is h.ok
  exact ⟨a, c, e, hat⟩
theorem ld_rk {lv : Value} {b : Nat} (h : w.heap[b]? = some (.cells #[lv] 90 (0, 0))) (hl : ∃ a n c, lv = .slice a n c) : (Instr.loadAt 88 (.pointer (some ⟨b, 0 + 0, none⟩))).run Tryz.prog w = .ok lv w := by
  obtain ⟨a, n, c, rfl⟩ := hl
  have hc : w.cell? ⟨b, 0, none⟩ = some (.slice a n c) := (cell_of_row w b 0 _ _ _ h).trans rfl
  go_simp
theorem RkAt.ldl (h : RkAt w base r) : (Instr.loadAt 88 (.pointer (some ⟨r.rb, 0 + 0, none⟩))).run Tryz.prog w = .ok r.lv w := by
  obtain ⟨a, c, e, _⟩ := h.sl
  exact ld_rk h.cell ⟨a, _, c, e⟩
theorem rknew_any (w : World) : Calls Tryz.prog 11 #[] w fun e w' => ∃ r, e = .returned (.pointer (some ⟨r.rb, 0, none⟩)) ∧ RkAt w' w.heap.size r ∧ r.L = [] ∧ Below w.heap.size w w' := by
  go_enter Tryz.func11, Tryz.ntmps11
  go_wp2
  go_ret
  exact ⟨⟨w.heap.size, .slice none 0 0, []⟩, rfl, ⟨heap_alloc_new _ _, RowT.own_nil _ _ _, by simp, Nat.le_refl _, by simp⟩, rfl, (Below.refl _ _).alloc (Nat.le_refl _) _⟩
def FdI (L : List MkV) (k : IdK) (z : Int) : Prop := (z = -1 ∧ ∀ x ∈ L, x.id ≠ k) ∨ ∃ (i : Nat) (x : MkV), z = i ∧ L[i]? = some x ∧ x.id = k ∧ ∀ j y, j < i → L[j]? = some y → y.id ≠ k
theorem FdI.has {L : List MkV} {k : IdK} {z : Int} (h : FdI L k z) : decide (z ≥ 0) = hasM L k := by
  rcases h with ⟨rfl, h⟩ | ⟨i, x, rfl, hx, e, _⟩
  · rw [show hasM L k = false from by
      cases q : hasM L k with
      | false => rfl
      | true => obtain ⟨x, hx, e⟩ := hasM_iff.1 q; exact absurd e (h x hx)]
    decide
  · rw [hasM_iff.2 ⟨x, List.mem_of_getElem? hx, e⟩]
    exact decide_eq_true (by omega)
theorem rkfind_any (h : RkAt w base r) {k : IdK} (hk : k.ok) : Calls Tryz.prog 43 #[.pointer (some ⟨r.rb, 0, none⟩), k.v] w fun e w' => ∃ z, e = .returned (.int .i64 z) ∧ FdI r.L k z ∧ Below w.heap.size w w' := by
  have E1 := run_boxM (P := Tryz.prog) 36 k.v w
  have b1 : Below w.heap.size w (w.alloc (.cells k.v.cells 36)) := (Below.refl _ _).alloc (Nat.le_refl _) _
  have i1 : IdAt (w.alloc (.cells k.v.cells 36)) w.heap.size k := heap_alloc_new _ _
  obtain ⟨w1, hw1⟩ : ∃ w1, w.alloc (.cells k.v.cells 36) = w1 := ⟨_, rfl⟩
  rw [hw1] at E1 b1 i1
  have HH := hidMk (fun (W : World) (b : Below w.heap.size w W) => h.below b)
  obtain ⟨la, lc, el, hat⟩ := h.sl
  have HAT := hidMk (fun (W : World) (b : Below w.heap.size w W) => hat.below b)
  have EL := hidMk el
  have OK := hidMk h.ok
  obtain ⟨n, hn⟩ : ∃ n, r.L.length = n := ⟨_, rfl⟩
  have HN := hidMk (show r.L.length = n ∧ n ≤ 900000000000 from ⟨hn, by rw [← hn]; exact h.n⟩)
  have I0 := hidMk (And.intro b1 i1)
  clear h hat el hw1 b1 i1 hn
  show Calls Tryz.prog 43 #[.pointer (some ⟨r.rb, 0, none⟩), .agg k.c.toArray] w _
  go_enter Tryz.func43, Tryz.ntmps43
  go_upto_region 0 with fail
  refine rfd0 (k := k) (b3 := w.heap.size) (w1 := w1) _ w _ rfl rfl E1 ?_
  intro a' w3 hw ha
  obtain rfl : w1 = w3 := hw.symm
  subst ha
  simp only [Act.put, qsA, qsB, qsC]
  clear E1
  go_wp2
  go_loopw [5] (fun v5 wr => ∃ i : Nat, v5 = .int .i64 (i : Int) ∧ i ≤ n ∧ Hid ((∀ j y, j < i → r.L[j]? = some y → y.id ≠ k) ∧ Below w.heap.size w wr ∧ IdAt wr w.heap.size k)) (fun v5 _ => n - (intOf v5).toNat)
  case atStart => exact ⟨0, rfl, Nat.zero_le _, fun j y hj => by omega, I0.out.1, I0.out.2⟩
  case round =>
    clear I0
    obtain ⟨i, rfl, hi, HI⟩ := hrel
    have LL := (HH.out wr HI.out.2.1).ldl
    rw [EL.out, HN.out.1] at LL
    obtain ⟨t, ht⟩ : ∃ t, decide ((i : Int) < (n : Int)) = t := ⟨_, rfl⟩
    go_upto_region 2 with fail
    refine rfd2 (rb := r.rb) (n := n) (c := lc) (i := i) (la := la) (r := t) _ wr _ rfl rfl rfl ht LL ?_
    intro a' w3 hw ha
    obtain rfl : wr = w3 := hw.symm
    subst ha
    simp only [Act.put, qsA, qsB, qsC]
    cases t with
    | false =>
      have hin : i = n := by have := of_decide_eq_false ht; omega
      subst hin
      clear LL
      go_wp2
      go_ret
      refine ⟨-1, rfl, .inl ⟨rfl, fun x hx => ?_⟩, HI.out.2.1⟩
      obtain ⟨j, hj⟩ := List.mem_iff_getElem?.1 hx
      exact HI.out.1 j x (by have := (List.getElem?_eq_some_iff.1 hj).1; have := HN.out.1; omega) hj
    | true =>
      have hlt : i < n := by have := of_decide_eq_true ht; omega
      have hn64 : n ≤ 9223372036854775807 := by have := HN.out; omega
      obtain ⟨x, hx⟩ : ∃ x, r.L[i]? = some x := ⟨_, List.getElem?_eq_getElem (by have := HN.out.1; omega)⟩
      have okx := OK.out x (List.mem_of_getElem? hx)
      obtain ⟨g, o, rfl, hgl, hr⟩ := (HAT.out wr HI.out.2.1).get (i := i) (by have := HN.out.1; omega)
      have hr' : wr.rangeAt g (o + 105 * i) x.c := by
        have e : r.L[i]'(by have := HN.out.1; omega) = x := (List.getElem?_eq_some_iff.1 hx).2
        rw [e] at hr; exact hr
      obtain ⟨z, hz⟩ : ∃ z, decide (x.id = k) = z := ⟨_, rfl⟩
      have HX := hidMk hx
      have MS : n - (((i + 1 : Nat) : Int)).toNat < n - ((i : Nat) : Int).toNat := by simp only [Int.toNat_natCast]; omega
      have HMS := hidMk MS
      clear hr hx MS LL
      go_upto_region 4 with fail
      refine rfd4 (rb := r.rb) (b3 := w.heap.size) (g := g) (o := o) (n := n) (c := lc) (i := i) (q := x.id) (k := k) (r := z) (fun W => Below wr.heap.size wr W) _ wr _ rfl rfl rfl rfl ((Below.refl _ _).drew) hlt hn64 okx.i hk hz (fun W b => by have := (HH.out W (HI.out.2.1.trans (b.mono HI.out.2.1.size))).ldl; rw [EL.out, HN.out.1] at this; exact this) (fun W b => mk_id okx (rangeAt_keep hr' (b.block g hgl))) (fun W b => load_id hk (HI.out.2.2.below b)) ?_
      intro a' w4 bw ha
      subst ha
      simp only [Act.put, qsA, qsB, qsC]
      have B4 := hidMk (HI.out.2.1.trans (bw.mono HI.out.2.1.size))
      cases z with
      | true =>
        have OLD := hidMk HI.out.1
        clear hr' bw HI
        go_wp2
        go_ret
        exact ⟨_, rfl, .inr ⟨i, x, rfl, HX.out, of_decide_eq_true hz, OLD.out⟩, B4.out⟩
      | false =>
        have NI : Hid ((∀ j y, j < i + 1 → r.L[j]? = some y → y.id ≠ k) ∧ Below w.heap.size w w4 ∧ IdAt w4 w.heap.size k) := ⟨fun j y hj hy => by
          by_cases e : j = i
          · subst e
            rw [HX.out] at hy
            cases hy
            exact of_decide_eq_false hz
          · exact HI.out.1 j y (by omega) hy, B4.out, HI.out.2.2.below bw⟩
        clear hr' bw HI
        go_wp2
        rw [show ((i : Int) + 1) = ((i + 1 : Nat) : Int) by omega]
        exact ⟨⟨i + 1, rfl, hlt, NI⟩, HMS.out⟩
end
def RkN (r : Rx) (base : Nat) (L' : List MkV) (w w' : World) : Prop := ∃ r', RkAt w' base r' ∧ r'.rb = r.rb ∧ r'.L = L' ∧ (r'.lv.ownBlock = r.lv.ownBlock ∨ ∀ j, r'.lv.ownBlock = some j → w.heap.size ≤ j) ∧ Tch (fun j => r.bl j) w w'
theorem wkeyR (s : ByteArray) (w : World) : Calls Tryz.prog 37 #[.string s] w fun e w' => e = .returned (.bool (keyB s)) ∧ Below w.heap.size w w' := (rkey_any s w).mono fun e w' q => ⟨q.1, by rw [q.2]; exact Below.refl _ _⟩
theorem RkN.same {r : Rx} {base : Nat} {w W : World} (h : RkAt w base r) (b : Below w.heap.size w W) : RkN r base r.L w W := ⟨r, h.below b, rfl, rfl, .inl rfl, tch_below b _⟩
theorem RkN.from {r : Rx} {base : Nat} {L' : List MkV} {w W W' : World} (h : RkN r base L' W W') (t : Tch (fun j => r.bl j) w W) (hs : w.heap.size ≤ W.heap.size) : RkN r base L' w W' := by
  obtain ⟨r', a, b, c, d, e⟩ := h
  exact ⟨r', a, b, c, d.imp id (fun q j hj => Nat.le_trans hs (q j hj)), t.trans e⟩
def RAddS (m : Rx) (x : MkV) (b1 b2 b3 b4 : Nat) (W : World) : Prop := W.heap[m.rb]? = some (.cells #[m.lv] 90 (0, 0)) ∧ IdAt W b1 x.id ∧ VaAt W b2 x.v ∧ IdAt W b3 x.fr ∧ IdAt W b4 x.to
section
variable {w W : World} {base : Nat} {m : Rx}
theorem RAddS.below {x : MkV} {b1 b2 b3 b4 : Nat} {W' : World} (h : RAddS m x b1 b2 b3 b4 W) (b : Below W.heap.size W W') : RAddS m x b1 b2 b3 b4 W' :=
  ⟨(b.block _ (Array.getElem?_eq_some_iff.1 h.1).1).trans h.1, h.2.1.below b, h.2.2.1.below b, h.2.2.2.1.below b, h.2.2.2.2.below b⟩
theorem st_rk {lv : Value} {b : Nat} {a : Option Addr} {n c : Nat} (h : W.heap[b]? = some (.cells #[lv] 90 (0, 0))) (hl : ∃ a n c, lv = .slice a n c) : ∃ W', (Instr.storeAt 88 (.pointer (some ⟨b, 0 + 0, none⟩)) (.slice a n c)).run Tryz.prog W = .ok () W' ∧ W'.heap[b]? = some (.cells #[.slice a n c] 90 (0, 0)) ∧ Tch (fun j => j = b) W W' := by
  obtain ⟨a0, n0, c0, rfl⟩ := hl
  have c2 : W.cell? ⟨b, 0, none⟩ = some (.slice a0 n0 c0) := (cell_of_row W b 0 _ _ _ h).trans rfl
  have f2 := frozen_of_row W b 0 _ _ h
  exact ⟨W.setCell ⟨b, 0, none⟩ (.slice a n c), by go_simp, Go.heap_setCell_same _ _ 0 _ _ _ h, ⟨rfl, rfl, rfl, by simp [World.setCell], fun j _ hj => Go.heap_setCell_other _ _ _ _ hj⟩⟩
theorem radd_list (h : RkAt W base m) (hb : base ≤ W.heap.size) {x : MkV} (hx : x.ok) (hn : m.L.length + 1 ≤ 900000000000) {b1 b2 b3 b4 : Nat} (hS : RAddS m x b1 b2 b3 b4 W) :
    ∃ sv w1 v2 w2 w3, (Instr.buildSlice 88 1 #[(0, x.a)]).run Tryz.prog W = .ok sv w1 ∧ RAddS m x b1 b2 b3 b4 w1 ∧ (Builtin.append_ #[88, 88] 88 #[m.lv, sv]).run Tryz.prog w1 = .ok v2 w2 ∧ RAddS m x b1 b2 b3 b4 w2 ∧ (Instr.storeAt 88 (.pointer (some ⟨m.rb, 0 + 0, none⟩)) v2).run Tryz.prog w2 = .ok () w3 ∧ RkN m base (m.L ++ [x]) W w3 := by
  obtain ⟨sv, w1, v2, w2, e1, e2, o, bl1, z1, g, q⟩ := RowT.run_push RR_is W base m.lv m.L x h.row hx (by unfold maxLen; omega) (by show _ * 184 ≤ _; omega) hb
  have okx : ∀ y ∈ m.L ++ [x], y.ok := fun y hy => by
    rcases List.mem_append.1 hy with hy | hy
    · exact h.ok y hy
    · rw [List.mem_singleton.1 hy]; exact hx
  have S1 := hS.below bl1
  have own : ∀ j, m.lv.ownBlock = some j → ∃ c, w1.heap[j]? = some (.cells c 99 (0, 0)) := fun j hj => ((h.below bl1).row.cells hj).2
  have keep : ∀ {j : Nat} {c : Array Value} {t : TypeId} {f : Nat × Nat}, w1.heap[j]? = some (.cells c t f) → t ≠ 99 → w2.heap[j]? = some (.cells c t f) := fun hj ht =>
    (g.block _ (Array.getElem?_eq_some_iff.1 hj).1 (fun e => by
      obtain ⟨c2, hc2⟩ := own _ e.symm
      exact ht (two_typesM hj hc2))).trans hj
  have S2 : RAddS m x b1 b2 b3 b4 w2 := ⟨keep S1.1 (by decide), keep S1.2.1 (by decide), keep S1.2.2.1 (by decide), keep S1.2.2.2.1 (by decide), keep S1.2.2.2.2 (by decide)⟩
  obtain ⟨a2, c2, ev, _⟩ := o.open RR_is okx
  obtain ⟨a0, c0, e0, _⟩ := h.sl
  obtain ⟨w3, e3, n3, t3⟩ := st_rk (a := a2) (n := (m.L ++ [x]).length) (c := c2) S2.1 ⟨a0, _, c0, e0⟩
  have n2 : v2.ownBlock ≠ some m.rb := fun e => by
    obtain ⟨_, c, hc⟩ := o.cells e
    have := two_typesM hc S2.1
    revert this; decide
  refine ⟨sv, w1, v2, w2, w3, e1, S1, e2, S2, by rw [ev]; exact e3, ⟨m.rb, v2, m.L ++ [x]⟩, ⟨by rw [ev]; exact n3, o.keep (fun j hj => t3.block j (o.lt hj) (fun e => n2 (by rw [← e]; exact hj))), okx, h.b, by simp only [List.length_append, List.length_singleton]; exact hn⟩, rfl, rfl, q.imp id (fun q j hj => by
    simp only at hj
    rw [q] at hj; injection hj with hj; have := bl1.size; omega), ?_⟩
  have t1 : Tch (fun j => m.bl j) W w1 := tch_below bl1 _
  have t2 : Tch (fun j => m.bl j) w1 w2 := ⟨g.os, g.tape, g.output, g.size, fun j hj hO => g.block j hj (fun e => hO (.inr e.symm))⟩
  exact (t1.trans t2).trans (t3.mono (fun j _ e => .inl e))
theorem radd_any (h : RkAt w base m) (hb : base ≤ w.heap.size) {x : MkV} (hx : x.ok) (hn : m.L.length + 1 ≤ 900000000000) :
    Calls Tryz.prog 13 #[.pointer (some ⟨m.rb, 0, none⟩), x.id.v, .string x.nm, x.v.v, x.fr.v, x.to.v, .int .i64 x.sd] w fun e w' => e = .returned (.int .i64 (addC m.L x)) ∧ RkN m base (addR m.L x) w w' := by
  obtain ⟨wx, ewx, i1, i2, i3, i4, bx, zx⟩ := four_boxes w x.id x.v x.fr x.to
  have HX := hidMk (And.intro i1 (And.intro i2 (And.intro i3 i4)))
  have HH := hidMk h
  have HK := hidMk hx
  have HB := hidMk hb
  have HNN := hidMk hn
  have BX := hidMk bx
  have ZX := hidMk zx
  have hlt : m.rb < w.heap.size := (Array.getElem?_eq_some_iff.1 h.cell).1
  have HLT := hidMk hlt
  have HC : Hid (addC m.L x = if x.id.n < 1 then 2 else if x.sd < 0 then 2 else if x.sd > 3 then 2 else if hasM m.L x.id = true then 5 else if keyB x.nm = false then 41 else if x.v.right = false then 30 else if x.v.k ≤ 7 then 0 else 30) := rfl
  have HR : Hid (addR m.L x = if addC m.L x = 0 then m.L ++ [x] else m.L) := rfl
  have HW := hidMk ewx
  have SAME : Hid (∀ (W : World) (c : Int), Below w.heap.size w W → addC m.L x = c → c ≠ 0 → (Ending.returned (.int .i64 c) : Ending) = .returned (.int .i64 (addC m.L x)) ∧ RkN m base (addR m.L x) w W) := fun W c b e hc => by
    refine ⟨by rw [e], ?_⟩
    rw [HR.out, if_neg (by rw [e]; exact hc)]
    exact RkN.same h b
  clear i1 i2 i3 i4 bx zx h hx hb hn hlt ewx
  show Calls Tryz.prog 13 #[.pointer (some ⟨m.rb, 0, none⟩), .agg x.id.c.toArray, .string x.nm, .agg x.v.c.toArray, .agg x.fr.c.toArray, .agg x.to.c.toArray, .int .i64 x.sd] w _
  generalize addR m.L x = rr at *
  generalize addC m.L x = cc at *
  go_enter Tryz.func13, Tryz.ntmps13
  go_upto_region 3 with fail
  rw [← HW.out]
  cases hn1 : decide (x.id.n < 1) with
  | true =>
    have HN := hidMk hn1
    clear hn1
    refine rad3a (k := x.id) (b1 := w.heap.size) _ wx _ rfl rfl HN.out (fun W e => by rw [e, Nat.zero_add]; exact ld_n HK.out.i HX.out.1) ?_
    intro a' w2 hw ha
    obtain rfl : wx = w2 := hw.symm
    subst ha
    simp only [Act.put, qsA, qsB, qsC]
    clear HX
    go_wp2
    go_ret
    exact SAME.out _ _ BX.out (by rw [HC.out, if_pos (of_decide_eq_true HN.out)]) (by decide)
  | false =>
    have HN := hidMk hn1
    clear hn1
    cases hs0 : decide (x.sd < 0) with
    | true =>
      have H0 := hidMk hs0
      clear hs0
      refine rad3b (k := x.id) (sd := x.sd) (b1 := w.heap.size) _ wx _ rfl rfl rfl HN.out H0.out (fun W e => by rw [e, Nat.zero_add]; exact ld_n HK.out.i HX.out.1) ?_
      intro a' w2 hw ha
      obtain rfl : wx = w2 := hw.symm
      subst ha
      simp only [Act.put, qsA, qsB, qsC]
      clear HX
      go_wp2
      go_ret
      exact SAME.out _ _ BX.out (by rw [HC.out, if_neg (of_decide_eq_false HN.out), if_pos (of_decide_eq_true H0.out)]) (by decide)
    | false =>
      have H0 := hidMk hs0
      clear hs0
      obtain ⟨r3, hr3⟩ : ∃ r, decide (x.sd > 3) = r := ⟨_, rfl⟩
      have H3 := hidMk hr3
      clear hr3
      refine rad3c (k := x.id) (sd := x.sd) (b1 := w.heap.size) (r := r3) _ wx _ rfl rfl rfl HN.out H0.out H3.out (fun W e => by rw [e, Nat.zero_add]; exact ld_n HK.out.i HX.out.1) ?_
      intro a' w2 hw ha
      obtain rfl : wx = w2 := hw.symm
      subst ha
      simp only [Act.put, qsA, qsB, qsC]
      cases r3 with
      | true =>
        clear HX
        go_wp2
        go_ret
        exact SAME.out _ _ BX.out (by rw [HC.out, if_neg (of_decide_eq_false HN.out), if_neg (of_decide_eq_false H0.out), if_pos (of_decide_eq_true H3.out)]) (by decide)
      | false =>
        have C0 : Hid (cc = if hasM m.L x.id = true then 5 else if keyB x.nm = false then 41 else if x.v.right = false then 30 else if x.v.k ≤ 7 then 0 else 30) := by
          show cc = _
          rw [HC.out, if_neg (of_decide_eq_false HN.out), if_neg (of_decide_eq_false H0.out), if_neg (of_decide_eq_false H3.out)]
        have HSD : Hid (0 ≤ x.sd ∧ x.sd ≤ 3) := by
          have h1 := of_decide_eq_false H0.out
          have h2 := of_decide_eq_false H3.out
          show 0 ≤ x.sd ∧ x.sd ≤ 3
          omega
        clear HC H3 H0
        go_upto_region 5 with fail
        obtain ⟨hz0, hhz⟩ : ∃ h, hasM m.L x.id = h := ⟨_, rfl⟩
        have RF := hidMk ((rkfind_any (HH.out.below BX.out) HK.out.i).mono (fun e w' q => q))
        refine rad5 (k := x.id) (b1 := w.heap.size) (rb := m.rb) (r := hasM m.L x.id) (fun W => Below wx.heap.size wx W) _ wx _ rfl rfl rfl (fun W e => by rw [e]; exact load_id HK.out.i HX.out.1) (RF.out.mono fun e W q => by obtain ⟨z, q1, q2, q3⟩ := q; exact ⟨z, q1, q2.has, q3⟩) ?_
        intro zz a' w3 hf ha
        subst ha
        simp only [Act.put, qsA, qsB, qsC]
        have B3 : Hid (Below w.heap.size w w3) := BX.out.trans (hf.mono BX.out.size)
        have X3 : Hid (IdAt w3 w.heap.size x.id ∧ VaAt w3 (w.heap.size + 1) x.v ∧ IdAt w3 (w.heap.size + 2) x.fr ∧ IdAt w3 (w.heap.size + 3) x.to) := ⟨HX.out.1.below hf, HX.out.2.1.below hf, HX.out.2.2.1.below hf, HX.out.2.2.2.below hf⟩
        clear hf HX
        cases hq : hasM m.L x.id with
        | true =>
          have HQ := hidMk hq
          clear hq
          go_wp2
          go_ret
          exact SAME.out _ _ B3.out (by rw [C0.out, if_pos HQ.out]) (by decide)
        | false =>
          have HQ := hidMk hq
          clear hq
          go_upto_region 7 with fail
          obtain ⟨kb, hkb⟩ : ∃ r, keyB x.nm = r := ⟨_, rfl⟩
          have CK : Hid (Calls Tryz.prog 37 #[.string x.nm] w3 fun e w' => e = .returned (.bool kb) ∧ Below w3.heap.size w3 w') := by rw [← hkb]; exact wkeyR x.nm w3
          have HKB := hidMk hkb
          clear hkb
          refine rad7 (nm := x.nm) (r := kb) (fun W => Below w3.heap.size w3 W) _ w3 _ rfl rfl CK.out ?_
          intro a' w4 hf ha
          subst ha
          simp only [Act.put, qsA, qsB, qsC]
          have B4 : Hid (Below w.heap.size w w4) := B3.out.trans (hf.mono B3.out.size)
          have X4 : Hid (IdAt w4 w.heap.size x.id ∧ VaAt w4 (w.heap.size + 1) x.v ∧ IdAt w4 (w.heap.size + 2) x.fr ∧ IdAt w4 (w.heap.size + 3) x.to) := ⟨X3.out.1.below hf, X3.out.2.1.below hf, X3.out.2.2.1.below hf, X3.out.2.2.2.below hf⟩
          clear hf CK X3 B3
          cases kb with
          | false =>
            go_wp2
            go_ret
            exact SAME.out _ _ B4.out (by rw [C0.out, if_neg (by rw [HQ.out]; decide), if_pos HKB.out]) (by decide)
          | true =>
            have C1 : Hid (cc = if x.v.right = false then 30 else if x.v.k ≤ 7 then 0 else 30) := by
              show cc = _
              rw [C0.out, if_neg (by rw [HQ.out]; decide), if_neg (by rw [HKB.out]; decide)]
            clear C0 HKB
            go_upto_region 9 with fail
            have CR := hidMk (rvright_any x.v HK.out.v w4)
            cases hr : x.v.right with
            | false =>
              have ez : vaC x.v = 30 := by unfold vaC; rw [hr]; rfl
              rw [ez] at CR
              have HRR := hidMk hr
              clear hr ez
              refine rad9a (x := x.v) (b2 := w.heap.size + 1) (z := 30) (fun W => Below w4.heap.size w4 W) _ w4 _ rfl rfl (by decide) (fun W e => by rw [e]; exact load_va X4.out.2.1) CR.out ?_
              intro a' w5 hf ha
              subst ha
              simp only [Act.put, qsA, qsB, qsC]
              have B5 : Hid (Below w.heap.size w w5) := B4.out.trans (hf.mono B4.out.size)
              clear hf CR X4
              go_wp2
              go_ret
              exact SAME.out _ _ B5.out (by rw [C1.out, if_pos HRR.out]) (by decide)
            | true =>
              have ez : vaC x.v = 0 := by unfold vaC; rw [hr]; rfl
              rw [ez] at CR
              have HRR := hidMk hr
              clear hr ez
              obtain ⟨sc, hsc⟩ : ∃ r, decide (x.v.k ≤ 7) = r := ⟨_, rfl⟩
              have HSC := hidMk hsc
              clear hsc
              refine rad9b (x := x.v) (b2 := w.heap.size + 1) (z := 0) (r := sc) (fun W => Below w4.heap.size w4 W) _ w4 _ rfl rfl (by decide) (fun W e => by rw [e]; exact load_va X4.out.2.1) (CR.out.mono ?_) ?_
              · rintro e W ⟨rfl, b⟩
                refine ⟨rfl, load_kd (X4.out.2.1.below b), (rvscalar_any x.v.k W).mono ?_⟩
                rintro e W' ⟨rfl, rfl⟩
                exact ⟨by rw [HSC.out], b⟩
              intro a' w5 hf ha
              subst ha
              simp only [Act.put, qsA, qsB, qsC]
              have B5 : Hid (Below w.heap.size w w5) := B4.out.trans (hf.mono B4.out.size)
              have X5 : Hid (IdAt w5 w.heap.size x.id ∧ VaAt w5 (w.heap.size + 1) x.v ∧ IdAt w5 (w.heap.size + 2) x.fr ∧ IdAt w5 (w.heap.size + 3) x.to) := ⟨X4.out.1.below hf, X4.out.2.1.below hf, X4.out.2.2.1.below hf, X4.out.2.2.2.below hf⟩
              clear hf CR X4 B4
              cases sc with
              | false =>
                go_wp2
                go_ret
                exact SAME.out _ _ B5.out (by rw [C1.out, if_neg (by rw [HRR.out]; decide), if_neg (of_decide_eq_false HSC.out)]) (by decide)
              | true =>
                have C2 : Hid (cc = 0) := by show cc = 0; rw [C1.out, if_neg (by rw [HRR.out]; decide), if_pos (of_decide_eq_true HSC.out)]
                clear C1 HSC HRR SAME
                have bd : Below w5.heap.size w5 w5.drew := (Below.refl _ _).drew
                have B6 : Hid (Below w.heap.size w w5.drew) := B5.out.drew
                have SA : Hid (RAddS m x w.heap.size (w.heap.size + 1) (w.heap.size + 2) (w.heap.size + 3) w5.drew) := ⟨(HH.out.below B6.out).cell, X5.out.1.below bd, X5.out.2.1.below bd, X5.out.2.2.1.below bd, X5.out.2.2.2.below bd⟩
                obtain ⟨sv, y1, v2, y2, y3, e1, s1, e2, s2, e3, N3⟩ := radd_list (HH.out.below B6.out) (Nat.le_trans HB.out B6.out.size) HK.out HNN.out SA.out
                have E := hidMk (And.intro e1 (And.intro s1 (And.intro e2 (And.intro s2 e3))))
                have LDL : Hid (∀ W, RAddS m x w.heap.size (w.heap.size + 1) (w.heap.size + 2) (w.heap.size + 3) W → (Instr.loadAt 88 (.pointer (some ⟨m.rb, 0 + 0, none⟩))).run Tryz.prog W = .ok m.lv W) := fun W hS => by
                  obtain ⟨a, c, e, _⟩ := HH.out.sl
                  exact ld_rk hS.1 ⟨a, _, c, e⟩
                have PUT : Hid (RkN m base rr w y3) := by
                  show RkN m base rr w y3
                  rw [HR.out, if_pos C2.out]
                  exact N3.from (tch_below B6.out _) B6.out.size
                clear e1 s1 e2 s2 e3 N3 bd X5 B5
                go_upto_region 11 with fail
                refine rad11 (x := x) (rb := m.rb) (b1 := w.heap.size) (b2 := w.heap.size + 1) (b3 := w.heap.size + 2) (b4 := w.heap.size + 3) (lv := m.lv) (sv := sv) (v2 := v2) (w1 := y1) (w2 := y2) (w3 := y3) (RAddS m x w.heap.size (w.heap.size + 1) (w.heap.size + 2) (w.heap.size + 3)) _ w5 _ rfl rfl rfl rfl rfl rfl rfl rfl SA.out LDL.out (fun W hS => load_id HK.out.i hS.2.1) (fun W hS => load_va hS.2.2.1) (fun W hS => load_id HK.out.fr hS.2.2.2.1) (fun W hS => load_id HK.out.to hS.2.2.2.2) (fun W => build_rk W HK.out) E.out.1 E.out.2.1 E.out.2.2.1 E.out.2.2.2.1 E.out.2.2.2.2 ?_
                intro a' w6 hw ha
                obtain rfl : y3 = w6 := hw.symm
                subst ha
                simp only [Act.put, qsA, qsB, qsC]
                clear E LDL SA
                go_wp2
                go_ret
                exact ⟨by rw [C2.out]; rfl, PUT.out⟩
end
section
variable {W : World} {b o : Nat} {x : OpM}
theorem om_split1 (x : OpM) : x.c = [.int .i64 x.kind] ++ (x.id.c ++ (x.fr.c ++ (x.ti.c ++ ([.string x.nm] ++ (x.v.c ++ [.int .i64 x.sd]))))) := rfl
theorem om_split2 (x : OpM) : x.c = ([.int .i64 x.kind] ++ x.id.c) ++ (x.fr.c ++ (x.ti.c ++ ([.string x.nm] ++ (x.v.c ++ [.int .i64 x.sd])))) := by simp [OpM.c]
theorem om_split3 (x : OpM) : x.c = ([.int .i64 x.kind] ++ x.id.c ++ x.fr.c) ++ (x.ti.c ++ ([.string x.nm] ++ (x.v.c ++ [.int .i64 x.sd]))) := by simp [OpM.c]
theorem om_split4 (x : OpM) : x.c = ([.int .i64 x.kind] ++ x.id.c ++ x.fr.c ++ x.ti.c) ++ (.string x.nm :: (x.v.c ++ [.int .i64 x.sd])) := by simp [OpM.c]
theorem om_split5 (x : OpM) : x.c = ([.int .i64 x.kind] ++ x.id.c ++ x.fr.c ++ x.ti.c ++ [.string x.nm]) ++ (x.v.c ++ [.int .i64 x.sd]) := by simp [OpM.c]
theorem om_split6 (x : OpM) : x.c = ([.int .i64 x.kind] ++ x.id.c ++ x.fr.c ++ x.ti.c ++ [.string x.nm] ++ x.v.c) ++ (.int .i64 x.sd :: []) := by simp [OpM.c]
theorem om_id (hx : x.ok) (h : W.rangeAt b o x.c) : (Instr.loadAt 36 (.pointer (some ⟨b, o + 1, none⟩))).run Tryz.prog W = .ok x.id.v W :=
  run_loadAt_mid (P := Tryz.prog) W b (o + 1) 36 x.id.c _ (rng_sub (om_split1 x ▸ h) rfl) Tryz.underlying36 rfl (by rw [IdK.len hx.id]; exact szId)
theorem om_fr (hx : x.ok) (h : W.rangeAt b o x.c) : (Instr.loadAt 36 (.pointer (some ⟨b, o + 34, none⟩))).run Tryz.prog W = .ok x.fr.v W :=
  run_loadAt_mid (P := Tryz.prog) W b (o + 34) 36 x.fr.c _ (rng_sub (om_split2 x ▸ h) (by simp [IdK.len hx.id])) Tryz.underlying36 rfl (by rw [IdK.len hx.fr]; exact szId)
theorem om_ti (hx : x.ok) (h : W.rangeAt b o x.c) : (Instr.loadAt 36 (.pointer (some ⟨b, o + 67, none⟩))).run Tryz.prog W = .ok x.ti.v W :=
  run_loadAt_mid (P := Tryz.prog) W b (o + 67) 36 x.ti.c _ (rng_sub (om_split3 x ▸ h) (by simp [IdK.len hx.id, IdK.len hx.fr])) Tryz.underlying36 rfl (by rw [IdK.len hx.ti]; exact szId)
theorem om_nm (hx : x.ok) (h : W.rangeAt b o x.c) : (Instr.loadAt 9 (.pointer (some ⟨b, o + 100, none⟩))).run Tryz.prog W = .ok (.string x.nm) W := by
  have hc : W.cell? ⟨b, o + 100, none⟩ = some (.string x.nm) := rng_cell (om_split4 x ▸ h) (by simp [IdK.len hx.id, IdK.len hx.fr, IdK.len hx.ti])
  go_simp
theorem om_v (hx : x.ok) (h : W.rangeAt b o x.c) : (Instr.loadAt 40 (.pointer (some ⟨b, o + 101, none⟩))).run Tryz.prog W = .ok x.v.v W :=
  run_loadAt_mid (P := Tryz.prog) W b (o + 101) 40 x.v.c _ (rng_sub (om_split5 x ▸ h) (by simp [IdK.len hx.id, IdK.len hx.fr, IdK.len hx.ti])) Tryz.underlying40 rfl (by rw [VaV.len]; exact szVa)
theorem om_sd (hx : x.ok) (h : W.rangeAt b o x.c) : (Instr.loadAt 3 (.pointer (some ⟨b, o + 105, none⟩))).run Tryz.prog W = .ok (.int .i64 x.sd) W := by
  have hc : W.cell? ⟨b, o + 105, none⟩ = some (.int .i64 x.sd) := rng_cell (om_split6 x ▸ h) (by simp [IdK.len hx.id, IdK.len hx.fr, IdK.len hx.ti, VaV.len])
  go_simp
end
def addL (L : List MkV) (O : List OpM) : List MkV := O.foldl (fun L o => addR L o.mk') L
theorem addL_snoc (L : List MkV) (O : List OpM) (o : OpM) : addL L (O ++ [o]) = addR (addL L O) o.mk' := by simp [addL]
theorem addR_len (L : List MkV) (x : MkV) : (addR L x).length ≤ L.length + 1 := by
  unfold addR
  split
  · simp
  · omega
theorem addL_len (L : List MkV) : ∀ O : List OpM, (addL L O).length ≤ L.length + O.length
  | [] => Nat.le_refl _
  | o :: O => by
    have := addL_len (addR L o.mk') O
    have := addR_len L o.mk'
    show (addL (addR L o.mk') O).length ≤ _
    simp only [List.length_cons]
    omega
theorem addC_right {L : List MkV} {x : MkV} (h : addC L x = 0) : x.v.right = true := by
  unfold addC at h
  cases e : x.v.right with
  | true => rfl
  | false =>
    rw [e] at h
    repeat' split at h
    all_goals first
      | (cases h; done)
      | omega
      | exact absurd rfl (by assumption)
theorem addR_right {L : List MkV} {x : MkV} (h : ∀ y ∈ L, y.v.right = true) : ∀ y ∈ addR L x, y.v.right = true := by
  unfold addR
  split
  · next e =>
    intro y hy
    rcases List.mem_append.1 hy with hy | hy
    · exact h y hy
    · rw [List.mem_singleton.1 hy]; exact addC_right e
  · exact h
theorem addL_right : ∀ (O : List OpM) {L : List MkV}, (∀ y ∈ L, y.v.right = true) → ∀ y ∈ addL L O, y.v.right = true
  | [], L, h => h
  | o :: O, L, h => addL_right O (L := addR L o.mk') (addR_right h)
def NT (W W' : World) : Prop := ∀ (j : Nat) (c : Array Value) (t : TypeId) (z : Nat × Nat), W.heap[j]? = some (.cells c t z) → t ≠ 87 → t ≠ 95 → t ≠ 90 → t ≠ 99 → W'.heap[j]? = W.heap[j]?
structure Gq (w : World) (sb mb rb : Nat) (E : List Elt) (L Lr : List MkV) (W : World) : Prop where
  q : ∃ (s : Sx) (m : Mx) (r : Rx), s.sb = sb ∧ m.mb = mb ∧ r.rb = rb ∧ SeqAt W s E ∧ MkAt W w.heap.size m ∧ RkAt W w.heap.size r ∧ m.L = L ∧ r.L = Lr ∧ (∀ j ∈ s.bl, w.heap.size ≤ j) ∧ (∀ j, m.bl j → w.heap.size ≤ j) ∧ (∀ j ∈ s.bl, ¬ m.bl j) ∧ (∀ j ∈ s.bl, ¬ r.bl j) ∧ (∀ j, m.bl j → ¬ r.bl j)
  bel : Below w.heap.size w W
section
variable {w W W' : World} {sb mb rb : Nat} {E : List Elt} {L Lr : List MkV}
theorem Gq.gr (h : Gq w sb mb rb E L Lr W) : Gr w sb mb E L W := by
  obtain ⟨⟨s, m, r, e1, e2, e3, hs, hm, hr, e4, e5, c1, c2, d1, d2, d3⟩, b⟩ := h
  exact ⟨⟨s, m, e1, e2, hs, hm, e4, c1, c2, d1⟩, b⟩
theorem Gq.below (h : Gq w sb mb rb E L Lr W) (b : Below W.heap.size W W') : Gq w sb mb rb E L Lr W' := by
  obtain ⟨⟨s, m, r, e1, e2, e3, hs, hm, hr, e4, e5, c1, c2, d1, d2, d3⟩, b'⟩ := h
  exact ⟨⟨s, m, r, e1, e2, e3, hs.below b, hm.below b, hr.below b, e4, e5, c1, c2, d1, d2, d3⟩, b'.trans (b.mono b'.size)⟩
theorem Gr.withr (h : Gr w sb mb E L W) {r : Rx} (hr : RkAt W' W.heap.size r) (b : Below W.heap.size W W') : Gq w sb mb r.rb E L r.L W' := by
  obtain ⟨⟨s, m, e1, e2, hs, hm, e3, c1, c2, d⟩, b'⟩ := h
  exact ⟨⟨s, m, r, e1, e2, rfl, hs.below b, hm.below b, ⟨hr.cell, hr.row.mono b'.size, hr.ok, Nat.le_trans b'.size hr.b, hr.n⟩, e3, rfl, c1, c2, d, fun j hj hq => by have := hs.lt j hj; have := hr.ge hq; omega, fun j hj hq => by have := Mx.lt hm hj; have := hr.ge hq; omega⟩, b'.trans (b.mono b'.size)⟩
theorem Gq.add (h : Gq w sb mb rb E L Lr W) (hT : K.V.Tabs W) {x : MkV} (hx : x.ok) (hn : L.length + 1 ≤ 900000000000) : Calls Tryz.prog 12 #[.pointer (some ⟨mb, 0, none⟩), x.id.v, .string x.nm, x.v.v, x.fr.v, x.to.v, .int .i64 x.sd] W fun e w' => e = .returned (.int .i64 (addC L x)) ∧ Gq w sb mb rb E (addR L x) Lr w' ∧ NT W w' := by
  obtain ⟨⟨s, m, r, rfl, rfl, rfl, hs, hm, hr, rfl, rfl, c1, c2, d, d2, d3⟩, b'⟩ := h
  refine (add_any hm b'.size hT hx hn).mono ?_
  rintro e w' ⟨rfl, m', hm', e1, e2, e3, ow, tch⟩
  have tch' : Tch m.bl W w' := tch
  have bb : Below w.heap.size W w' := ⟨tch'.os, tch'.tape, tch'.output, tch'.size, fun j hj => tch'.block j (Nat.lt_of_lt_of_le hj b'.size) (fun q => by have := c2 j q; omega)⟩
  have inb : ∀ j, m'.bl j → m.bl j ∨ W.heap.size ≤ j := fun j hj => by
    rcases hj with q | q | q
    · exact .inl (.inl (q.trans e1))
    · exact .inl (.inr (.inl (q.trans e2)))
    · rcases ow with e | e
      · exact .inl (.inr (.inr (e ▸ q)))
      · exact .inr (e j q)
  refine ⟨rfl, ⟨⟨s, m', r, rfl, e1, rfl, hs.keep (fun j hj => tch'.block j (hs.lt j hj) (d j hj)), hm', hr.keep (fun j hj => tch'.block j (hr.lt hj) (fun q => d3 j q hj)), e3, rfl, c1, fun j hj => ?_, fun j hj hq => ?_, d2, fun j hj hq => ?_⟩, b'.trans bb⟩, fun j c t z hj t1 t2 t3 t4 => tch'.block j (Array.getElem?_eq_some_iff.1 hj).1 (fun q => ?_)⟩
  · rcases inb j hj with q | q
    · exact c2 j q
    · exact Nat.le_trans b'.size q
  · rcases inb j hq with q | q
    · exact d j hj q
    · have := hs.lt j hj; omega
  · rcases inb j hj with q | q
    · exact d3 j q hq
    · have := hr.lt hq; omega
  · rcases q with rfl | rfl | q
    · exact t1 (two_typesM hj hm.cell)
    · obtain ⟨⟨es, cc, hq, _⟩, _⟩ := hm.map
      rw [hj] at hq; cases hq
    · obtain ⟨_, c, hc⟩ := hm.lo.cells q
      exact t2 (two_typesM hj hc)
theorem Gq.radd (h : Gq w sb mb rb E L Lr W) {x : MkV} (hx : x.ok) (hn : Lr.length + 1 ≤ 900000000000) : Calls Tryz.prog 13 #[.pointer (some ⟨rb, 0, none⟩), x.id.v, .string x.nm, x.v.v, x.fr.v, x.to.v, .int .i64 x.sd] W fun e w' => e = .returned (.int .i64 (addC Lr x)) ∧ Gq w sb mb rb E L (addR Lr x) w' ∧ NT W w' := by
  obtain ⟨⟨s, m, r, rfl, rfl, rfl, hs, hm, hr, rfl, rfl, c1, c2, d, d2, d3⟩, b'⟩ := h
  refine (radd_any hr b'.size hx hn).mono ?_
  rintro e w' ⟨rfl, r', hr', e1, e3, ow, tch⟩
  have c3 : ∀ j, r.bl j → w.heap.size ≤ j := fun j hj => hr.ge hj
  have bb : Below w.heap.size W w' := ⟨tch.os, tch.tape, tch.output, tch.size, fun j hj => tch.block j (Nat.lt_of_lt_of_le hj b'.size) (fun q => by have := c3 j q; omega)⟩
  have inb : ∀ j, r'.bl j → r.bl j ∨ W.heap.size ≤ j := fun j hj => by
    rcases hj with q | q
    · exact .inl (.inl (q.trans e1))
    · rcases ow with e | e
      · exact .inl (.inr (e ▸ q))
      · exact .inr (e j q)
  refine ⟨rfl, ⟨⟨s, m, r', rfl, rfl, e1, hs.keep (fun j hj => tch.block j (hs.lt j hj) (d2 j hj)), hm.keep (fun j hj => tch.block j (Mx.lt hm hj) (d3 j hj)), hr', rfl, e3, c1, c2, d, fun j hj hq => ?_, fun j hj hq => ?_⟩, b'.trans bb⟩, fun j c t z hj t1 t2 t3 t4 => tch.block j (Array.getElem?_eq_some_iff.1 hj).1 (fun q => ?_)⟩
  · rcases inb j hq with q | q
    · exact d2 j hj q
    · have := hs.lt j hj; omega
  · rcases inb j hq with q | q
    · exact d3 j hj q
    · have := Mx.lt hm hj; omega
  · rcases q with rfl | q
    · exact t3 (two_typesM hj hr.cell)
    · obtain ⟨_, c, hc⟩ := hr.row.cells q
      exact t4 (two_typesM hj hc)
end
attribute [local go_sem] Oper.semAt_some
theorem laidO_any (k : Nat) (hk : k ≤ 90) (w : World) (hT : K.V.Tabs w) {la : Option Addr} {lc : Nat} {O : List OpM} (hat : RO.At w la O) (hok : ∀ x ∈ O, x.ok) (hO : O.length ≤ 800000000000) : Calls Tryz.prog 32 #[.int .i64 (k : Int), .slice la O.length lc] w fun e w' => ∃ sb mb, e = .returned (.tuple #[.pointer (some ⟨sb, 0, none⟩), .pointer (some ⟨mb, 0, none⟩), .bool true]) ∧ Gr w sb mb (seg 0 k) (addL [] O) w' := by
  have HT := hidMk (fun (W : World) (b : Below w.heap.size w W) => hT.below b)
  have HAT := hidMk (fun (W : World) (b : Below w.heap.size w W) => hat.below b)
  have HOK := hidMk hok
  obtain ⟨n, hn⟩ : ∃ n, O.length = n := ⟨_, rfl⟩
  have HN := hidMk (show O.length = n ∧ n ≤ 800000000000 from ⟨hn, by omega⟩)
  rw [hn]
  clear hT hat hok hO hn
  have HN := hidMk (new_any w)
  have HM := hidMk mnew_any
  have HR := hidMk rknew_any
  go_enter Tryz.func32, Tryz.ntmps32
  go_upto_region 4 with (first
    | (go_at_call 8; refine HN.out.mono ?_; rintro e w1 ⟨s, rfl, hs, c1, b1⟩)
    | (go_at_call 10; refine (HM.out _).mono ?_; rintro e w2 ⟨m, rfl, hm, hL, c2, b2⟩)
    | fail)
  have G0 := gr_new hs c1 b1 hm hL c2 b2
  have i0 := id_new w2 zId
  have bx : Below w2.heap.size w2 (w2.alloc (.cells zId.c.toArray 36)) := (Below.refl _ _).alloc (Nat.le_refl _) _
  have ez := id_zero w2
  have es := store_id zId_ok zId_ok i0
  have i3 := i0.set zId
  have b3 := bx.trans (set_below zId.c.toArray bx.size (Nat.le_refl w2.heap.size))
  have G3 := G0.below b3
  have hl0 : w.heap.size ≤ w2.heap.size := G0.bel.size
  obtain ⟨W3, hW3⟩ : ∃ W, (w2.alloc (.cells zId.c.toArray 36)).setRow w2.heap.size zId.c.toArray = W := ⟨_, rfl⟩
  rw [hW3] at es i3 G3
  clear hs c1 b1 hm hL c2 b2 HN HM G0 i0 bx b3 hW3
  refine lai4 (lb := w2.heap.size) _ w2 _ rfl ez es ?_
  intro a' W hw ha
  obtain rfl : W3 = W := hw.symm
  subst ha
  simp only [Act.put, qsA, qsB, qsC]
  clear ez es
  generalize s.sb = sb at *
  generalize m.mb = mb at *
  generalize w2.heap.size = lb at *
  have LB0 := hidMk hl0
  clear hl0
  go_wp2
  go_loopw [10] (fun v10 wr => ∃ j : Nat, v10 = .int .i64 (j : Int) ∧ 1 ≤ j ∧ j ≤ k + 1 ∧ Hid (Gr w sb mb (seg 0 (j - 1)) [] wr ∧ IdAt wr lb (idN ((j - 1 : Nat) : Int)))) (fun v10 _ => (k + 1) - (match v10 with | .int _ i => i.toNat | _ => 0))
  case atStart => exact ⟨1, rfl, by omega, by omega, G3, i3⟩
  case round =>
    clear G3 i3
    obtain ⟨j, rfl, hj1, hjk, HI⟩ := hrel
    obtain ⟨i, rfl⟩ : ∃ i, j = i + 1 := ⟨j - 1, by omega⟩
    rw [Nat.add_sub_cancel] at HI
    by_cases hj : i + 1 ≤ k
    · obtain ⟨G, iq⟩ := HI.out
      have oki : (idN (i : Int)).ok := idN_ok (by omega)
      have okj : (idN ((i : Int) + 1)).ok := idN_ok (by omega)
      have hjj : ((i + 1 : Nat) : Int) ≤ (k : Int) := by omega
      have i0 := id_new wr zId
      have bx : Below wr.heap.size wr (wr.alloc (.cells zId.c.toArray 36)) := (Below.refl _ _).alloc (Nat.le_refl _) _
      have ez := id_zero wr
      have es := store_id zId_ok okj i0
      have i3 := i0.set (idN ((i : Int) + 1))
      have b3 := bx.trans (set_below (idN ((i : Int) + 1)).c.toArray bx.size (Nat.le_refl wr.heap.size))
      have G3 := G.below b3
      have q3 := iq.below b3
      obtain ⟨W4, hW4⟩ : ∃ W, (wr.alloc (.cells zId.c.toArray 36)).setRow wr.heap.size (idN ((i : Int) + 1)).c.toArray = W := ⟨_, rfl⟩
      rw [hW4] at es i3 G3 q3
      clear G iq HI i0 bx b3 hW4
      rw [show ((i + 1 : Nat) : Int) = (i : Int) + 1 by omega] at *
      go_upto_region 8 with fail
      refine lai8 (ib := wr.heap.size) (i := (i : Int) + 1) _ wr _ rfl rfl ez es ?_
      intro a' W hw ha
      obtain rfl : W4 = W := hw.symm
      subst ha
      simp only [Act.put, qsA, qsB, qsC]
      clear ez es
      go_upto_region 9 with fail
      refine lai9 (sb := sb) (lb := lb) (ib := wr.heap.size) (k := idN ((i : Int) + 1)) (q := idN (i : Int)) (z := 0) (r := false) (fun X => Gr w sb mb (seg 0 (i + 1)) [] X ∧ IdAt X wr.heap.size (idN ((i : Int) + 1)) ∧ IdAt X lb (idN (i : Int))) _ W4 _ rfl rfl rfl rfl rfl (fun X e => by rw [e]; exact load_id oki q3) (fun X e => by rw [e]; exact load_id okj i3) ((G3.insI okj oki (by rw [seg_len]; omega) okj oki i3 q3).mono ?_) ?_
      · rintro e X ⟨rfl, g, x1, x2⟩
        rw [(ins_seg i).2] at g
        exact ⟨by rw [(ins_seg i).1]; rfl, g, x1, x2⟩
      intro a' W5 hf ha
      subst ha
      simp only [Act.put, qsA, qsB, qsC]
      obtain ⟨G5, i5, q5⟩ := hf
      have es := store_id oki okj q5
      have q6 := q5.set (idN ((i : Int) + 1))
      have G6 := G5.put oki q5 LB0.out ((setRow_tch W5 lb (idN ((i : Int) + 1)).c.toArray).mono (fun j _ e => by simpa using e.symm))
      obtain ⟨W6, hW6⟩ : ∃ W, W5.setRow lb (idN ((i : Int) + 1)).c.toArray = W := ⟨_, rfl⟩
      rw [hW6] at es q6 G6
      have NX : Hid (Gr w sb mb (seg 0 (i + 1)) [] W6 ∧ IdAt W6 lb (idN ((i : Int) + 1))) := ⟨G6, q6⟩
      clear G3 i3 q3 G5 q5 q6 G6 hW6
      go_upto_region 11 with fail
      refine lai11 (lb := lb) (ib := wr.heap.size) (k := idN ((i : Int) + 1)) _ W5 _ rfl rfl rfl (fun X e => by rw [e]; exact load_id okj i5) es ?_
      intro a' W hw ha
      obtain rfl : W6 = W := hw.symm
      subst ha
      simp only [Act.put, qsA, qsB, qsC]
      clear es i5
      go_wp2
      rw [show ((i : Int) + 1 + 1) = ((i + 2 : Nat) : Int) by omega]
      refine ⟨⟨i + 2, rfl, by omega, by omega, ?_⟩, ?_⟩
      · have := NX.out
        exact this
      · show (k + 1) - ((i + 2 : Nat) : Int).toNat < (k + 1) - ((i : Int) + 1).toNat
        omega
    · obtain rfl : i = k := by omega
      have hjj : ¬ ((i + 1 : Nat) : Int) ≤ (i : Int) := by omega
      have GG := hidMk HI.out.1
      clear HI
      go_wp2_with (first
        | (go_at_call 11; refine (HR.out _).mono ?_; rintro e w9 ⟨r, rfl, hr, hrL, b9⟩)
        | fail)
      have G9 := GG.out.withr hr b9
      rw [hrL] at G9
      have HG9 := hidMk G9
      clear GG hr hrL b9 G9 HR
      generalize r.rb = rb at *
      go_loopw [13] (fun v13 wr => ∃ j : Nat, v13 = .int .i64 (j : Int) ∧ j ≤ n ∧ Hid (Gq w sb mb rb (seg 0 i) (addL [] (O.take j)) (addL [] (O.take j)) wr)) (fun v13 _ => n - (intOf v13).toNat)
      case atStart => exact ⟨0, rfl, Nat.zero_le _, HG9⟩
      case round =>
        clear HG9
        obtain ⟨j, rfl, hj2, HJ⟩ := hrel
        by_cases h2 : j < n
        · have h2' : (j : Int) < (n : Int) := by omega
          have hn64 : n ≤ 9223372036854775807 := by have := HN.out; omega
          obtain ⟨x, hx⟩ : ∃ x, O[j]? = some x := ⟨_, List.getElem?_eq_getElem (by have := HN.out; omega)⟩
          have okx := HOK.out x (List.mem_of_getElem? hx)
          have TK := hidMk (show addL [] (O.take (j + 1)) = addR (addL [] (O.take j)) x.mk' by rw [List.take_add_one, hx]; exact addL_snoc _ _ _)
          have LB := hidMk (show (addL [] (O.take j)).length + 1 ≤ 900000000000 by
            have := addL_len [] (O.take j)
            rw [List.length_take] at this
            have := HN.out
            have z : ([] : List MkV).length = 0 := rfl
            omega)
          obtain ⟨g, o, rfl, _, hr⟩ := (HAT.out wr HJ.out.bel).get (i := j) (by have := HN.out; omega)
          have hr' : wr.rangeAt g (o + 106 * j) x.c := by
            have e : O[j]'(by have := HN.out; omega) = x := (List.getElem?_eq_some_iff.1 hx).2
            rw [e] at hr; exact hr
          have LX := RowT.ld RO_is okx hr'
          have EA := RowT.bx_zero RO_is wr
          have ES := RowT.bx_new RO_is wr okx
          obtain ⟨hbx, hbl⟩ := RowT.bx_is RO wr x
          have HH2 := hidMk h2
          have MS := hidMk (show n - (((j + 1 : Nat) : Int)).toNat < n - ((j : Nat) : Int).toNat by simp only [Int.toNat_natCast]; omega)
          clear hr hr' hx
          go_upto_region 16 with fail
          refine lai16 (g := g) (o := o) (n := n) (c := lc) (i := j) (ob := wr.heap.size) (x := x) _ wr _ rfl rfl rfl h2 hn64 LX EA ES ?_
          intro a' w3 hw ha
          subst ha
          rw [← hw] at hbx hbl
          obtain ⟨w4, hw4⟩ : ∃ w4, w3 = w4 := ⟨_, rfl⟩
          rw [hw4] at hbx hbl ⊢
          simp only [Act.put, qsA, qsB, qsC]
          clear LX EA ES hw hw4
          have G4 := (HJ.out.below hbl).below ((Below.refl _ _).drew)
          have X4 : RO.Bx w4.drew wr.heap.size x := hbx
          have T4 := HT.out w4.drew G4.bel
          have mok := OpM.mkok okx
          have nt : ∀ W W', NT W W' → RO.Bx W wr.heap.size x → RO.Bx W' wr.heap.size x := fun W W' h1 h3 => (h1 _ _ _ _ h3 (by decide) (by decide) (by decide) (by decide)).trans h3
          have CA := hidMk ((G4.add T4 mok LB.out).mono (R' := fun e w1 => e = .returned (.int .i64 (addC (addL [] (O.take j)) x.mk')) ∧ RO.Bx w1 wr.heap.size x ∧ Calls Tryz.prog 13 #[.pointer (some ⟨rb, 0, none⟩), x.mk'.id.v, .string x.mk'.nm, x.mk'.v.v, x.mk'.fr.v, x.mk'.to.v, .int .i64 x.mk'.sd] w1 fun e w2 => e = .returned (.int .i64 (addC (addL [] (O.take j)) x.mk')) ∧ RO.Bx w2 wr.heap.size x ∧ Gq w sb mb rb (seg 0 i) (addL [] (O.take (j + 1))) (addL [] (O.take (j + 1))) w2) (fun e w1 q => by
            refine ⟨q.1, nt _ _ q.2.2 X4, (q.2.1.radd mok LB.out).mono fun e2 w2 q2 => ⟨q2.1, nt _ _ q2.2.2 (nt _ _ q.2.2 X4), ?_⟩⟩
            rw [TK.out]
            exact q2.2.1))
          have HX4 := hidMk X4
          clear HJ hbx hbl G4 X4 T4 mok nt
          go_upto_region 17 with fail
          refine lai17 (mb := mb) (rb := rb) (ob := wr.heap.size) (x := x.mk') (c1 := addC (addL [] (O.take j)) x.mk') (c2 := addC (addL [] (O.take j)) x.mk') (r := false) (fun W => RO.Bx W wr.heap.size x) (fun W => Gq w sb mb rb (seg 0 i) (addL [] (O.take (j + 1))) (addL [] (O.take (j + 1))) W) _ w4 _ rfl rfl rfl rfl HX4.out (decide_eq_false (fun q => q rfl)) (fun W q => om_id okx (RowT.Bx.rng q)) (fun W q => om_nm okx (RowT.Bx.rng q)) (fun W q => om_v okx (RowT.Bx.rng q)) (fun W q => om_fr okx (RowT.Bx.rng q)) (fun W q => om_ti okx (RowT.Bx.rng q)) (fun W q => om_sd okx (RowT.Bx.rng q)) CA.out ?_
          intro a' w5 hf ha
          have NI := hidMk hf
          subst ha
          simp only [Act.put, qsA, qsB, qsC]
          clear CA HX4 hf
          go_wp2
          rw [show ((j : Int) + 1) = ((j + 1 : Nat) : Int) by omega]
          exact ⟨⟨j + 1, rfl, HH2.out, NI⟩, MS.out⟩
        · have h2' : ¬ ((j : Int) < (n : Int)) := by omega
          obtain rfl : j = n := by omega
          have GG := hidMk HJ.out.gr
          clear HJ
          go_wp2
          refine bodyPost_ret (results_tmp3 rfl _ _ _) rfl ?_
          refine ⟨sb, mb, rfl, ?_⟩
          have := GG.out
          rw [List.take_of_length_le (by have := HN.out; omega)] at this
          exact this
end Go.Proofs.YtifendlpeebofaaGreatDoor
namespace Go.Proofs.YtifendlpeebofaaGreatDoor
open Go.RowKit
theorem fg_40_1 (b o : Nat) (w : World) : (Instr.fieldAt 40 (.pointer (some ⟨b, o, none⟩)) 1).run Tryz.prog w = .ok (.pointer (some ⟨b, o + 1, none⟩)) w := by go_simp
theorem fg_40_2 (b o : Nat) (w : World) : (Instr.fieldAt 40 (.pointer (some ⟨b, o, none⟩)) 2).run Tryz.prog w = .ok (.pointer (some ⟨b, o + 2, none⟩)) w := by go_simp
theorem fg_40_3 (b o : Nat) (w : World) : (Instr.fieldAt 40 (.pointer (some ⟨b, o, none⟩)) 3).run Tryz.prog w = .ok (.pointer (some ⟨b, o + 3, none⟩)) w := by go_simp
section
variable {w : World} {a : Act} {o : Oper} {x y : Operand}
theorem exec_fb {b : Nat} {ts : Array TypeId} (ho : o.op = .call { callee := .value (.func 68), args := #[x], argTypes := ts }) (hx : a.eval x = .float .f64 b) : (execOp a.eval o).run Tryz.prog w = .ok (.value (.int .u64 (b : Int))) w := by
  have e0 : a.eval (.func 68) = .func (.func 68) #[] #[] := rfl
  have hf := K.bits_run b w
  unfold execOp; simp [ho, resolve, invoke, hx, e0, Deferred.ofValue, Result.andThen, hf]
theorem ex_eq64 {p : Int} (ho : o.op = .binOp .eql 2 x y 2) (hx : a.eval x = .int .i64 p) (hy : a.eval y = .int .i64 p) : (execOp a.eval o).run Tryz.prog w = .ok (.value (.bool true)) w := by
  unfold execOp
  simp only [ho, hx, hy]
  go_simp
theorem ex_equ64 {p : Int} (ho : o.op = .binOp .eql 123 x y 123) (hx : a.eval x = .int .u64 p) (hy : a.eval y = .int .u64 p) : (execOp a.eval o).run Tryz.prog w = .ok (.value (.bool true)) w := by
  unfold execOp
  simp only [ho, hx, hy]
  go_simp
end
section
open Ieee
end
end Go.Proofs.YtifendlpeebofaaGreatDoor
namespace Go.Proofs.YtifendlpeebofaaGreatDoor
open Go.RowKit Go.Shelf Sq
attribute [local go_sem] Oper.semAt_some
section
variable {W : World} {b : Nat} {x : VaV}
theorem ld_vn (h : VaAt W b x) : (Instr.loadAt 2 (.pointer (some ⟨b, 0 + 1, none⟩))).run Tryz.prog W = .ok (.int .i64 x.n) W := by
  have hc : W.cell? ⟨b, 1, none⟩ = some (.int .i64 x.n) := (cell_of_row W b 1 _ _ _ h).trans rfl
  go_simp
theorem ld_vf (h : VaAt W b x) : (Instr.loadAt 38 (.pointer (some ⟨b, 0 + 2, none⟩))).run Tryz.prog W = .ok (.float .f64 x.f) W := by
  have hc : W.cell? ⟨b, 2, none⟩ = some (.float .f64 x.f) := (cell_of_row W b 2 _ _ _ h).trans rfl
  go_simp
theorem ld_vs (h : VaAt W b x) : (Instr.loadAt 9 (.pointer (some ⟨b, 0 + 3, none⟩))).run Tryz.prog W = .ok (.string x.s) W := by
  have hc : W.cell? ⟨b, 3, none⟩ = some (.string x.s) := (cell_of_row W b 3 _ _ _ h).trans rfl
  go_simp
end
theorem sp_at {W : World} {b o : Nat} {x : SpV} (h : W.rangeAt b o x.c) : (Instr.loadAt 3 (.pointer (some ⟨b, o + 0, none⟩))).run Tryz.prog W = .ok (.int .i64 x.fr) W ∧ (Instr.loadAt 3 (.pointer (some ⟨b, o + 1, none⟩))).run Tryz.prog W = .ok (.int .i64 x.to) W ∧ (Instr.loadAt 9 (.pointer (some ⟨b, o + 2, none⟩))).run Tryz.prog W = .ok (.string x.nm) W := by
  have h0 : W.cell? ⟨b, o + 0, none⟩ = some (.int .i64 x.fr) := h 0 _ rfl
  have h1 : W.cell? ⟨b, o + 1, none⟩ = some (.int .i64 x.to) := h 1 _ rfl
  have h2 : W.cell? ⟨b, o + 2, none⟩ = some (.string x.nm) := h 2 _ rfl
  rw [Nat.add_zero] at h0
  refine ⟨?_, ?_, ?_⟩
  · clear h1 h2; go_simp
  · clear h0 h2; go_simp
  · clear h0 h1; go_simp
section
variable {w : World} {base : Nat} {m : Mx}
end
attribute [local go_sem] Oper.semAt_some
section
variable {w : World} {base : Nat} {m : Mx}
end
theorem Gr.lt {w W : World} {sb mb : Nat} {E : List Elt} {L : List MkV} (h : Gr w sb mb E L W) : L.length ≤ 900000000000 := by
  obtain ⟨⟨s, m, _, _, _, hm, e3, _⟩, _⟩ := h
  rw [← e3]; exact hm.n
section
variable {w W W' : World} {sb mb : Nat} {E : List Elt} {L : List MkV}
structure SpW (E : List Elt) (L : List MkV) (v : Value) (b : Nat) (S : List SpV) (W : World) : Prop where
  lo : RSp.Lo W b v S
  is : SpansIs (hE E L) S
  ok : ∀ p ∈ S, p.ok
  len : S.length ≤ 2000000000000
end
attribute [local go_sem] Oper.semAt_some
theorem szN (n : Int) : ∃ s : Nat, szP n = s ∧ s ≤ 12 := by
  have := szP_bd n
  exact ⟨(szP n).toNat, by omega, by omega⟩
end Go.Proofs.YtifendlpeebofaaGreatDoor
namespace Go.Proofs.YtifendlpeebofaaGreatDoor
open Go.ChangeShapes Go.WideShapes Go.ChangeAt Go.RowKit Go.Shelf
def u8_ren : Go.Shelf.Ren := ⟨fun n => n, fun | 119 => 177 | 138 => 179 | 139 => 180 | n => n, fun | 3 => 1 | 4 => 2 | n => n⟩
theorem u8t : U8Types Tryz.prog u8_ren := ⟨Tryz.underlying5, Tryz.underlying177, Tryz.underlying179, Tryz.underlying180⟩
theorem u8x : U8Extra Tryz.prog u8_ren := ⟨by kernel_rfl, by kernel_rfl, by kernel_rfl, by kernel_rfl, by kernel_rfl, by kernel_rfl, by kernel_rfl⟩
theorem dF : (Rows.laid_unicode_utf8_first : DataW Unit) = Lib.firstData := by kernel_rfl
theorem dA : (Rows.laid_unicode_utf8_acceptRanges : DataW Unit) = Lib.acceptData := by kernel_rfl
theorem tabs_of {W : World} {laid : List (String × DataW Unit)} (h : laidMet Tryz.prog laid W) (h3 : ("unicode/utf8.first", (Rows.laid_unicode_utf8_first : DataW Unit)) ∈ laid) (h4 : ("unicode/utf8.acceptRanges", (Rows.laid_unicode_utf8_acceptRanges : DataW Unit)) ∈ laid) : K.V.Tabs W := by
  rw [dF] at h3
  rw [dA] at h4
  exact utf8Tabs_of_readsT u8t u8x (Lib.laidMet.reads h h3) (Lib.laidMet.reads h h4)
theorem reach_opsM {H : Type} {ts : List TypeId} {ds : List (DataW H)} (hsz : (DataW.weightsEach Tryz.prog ts ds).all (· ≤ reachBytes) = true) (j : Nat) (ht : ts[j]? = some 22) {d : DataW H} (hd : ds[j]? = some d) {len : Nat}
    (h : d = .nil ∧ len = 0 ∨ ∃ el sp, d = .slice el sp ∧ el.length = len) : len ≤ 800000000000 := by
  rcases h with ⟨_, rfl⟩ | ⟨el, sp, rfl, rfl⟩
  · omega
  · have := sized_slice hsz (j := j) (t := 22) (e := 42) ht hd Tryz.underlying22
    rw [bytes_opM] at this
    simp only [reachBytes] at this
    omega
end Go.Proofs.YtifendlpeebofaaGreatDoor
namespace Go.Proofs.YtifendlpeebofaaGreatDoor
open Go.RowKit Go.Shelf Sq
/-! ### of each name the last mark that covers a rank -/
def isN (nm : ByteArray) (x : MkV) : Bool := decide (x.nm = nm)
theorem find_cons_nm (nm : ByteArray) (p : MkV → Bool) (x : MkV) (l : List MkV) : ((x :: l).find? fun y => isN nm y && p y) = if x.nm = nm ∧ p x = true then some x else l.find? fun y => isN nm y && p y := by
  rw [List.find?_cons]
  unfold isN
  by_cases h : x.nm = nm ∧ p x = true
  · rw [if_pos h]; simp [h.1, h.2]
  · rw [if_neg h]
    have : (decide (x.nm = nm) && p x) = false := by
      by_cases e : x.nm = nm
      · have : p x = false := by
          cases q : p x with
          | false => rfl
          | true => exact absurd ⟨e, q⟩ h
        simp [this]
      · simp [e]
    rw [this]
theorem step_find (E : List Elt) (r : Int) : ∀ (l acc : List MkV), (acc.map (·.nm)).Nodup → ((l.foldl (covStep E r) acc).map (·.nm)).Nodup ∧ ∀ nm, (l.foldl (covStep E r) acc).find? (isN nm) = (acc.find? (isN nm)).or (l.find? fun y => isN nm y && covR E r y)
  | [], acc, h => ⟨h, fun nm => by simp⟩
  | x :: l, acc, h => by
    rw [List.foldl_cons]
    by_cases hh : (acc.any fun y => decide (y.nm = x.nm)) = true
    · have e : covStep E r acc x = acc := by unfold covStep; rw [if_pos hh]
      rw [e]
      obtain ⟨h1, h2⟩ := step_find E r l acc h
      refine ⟨h1, fun nm => ?_⟩
      rw [h2, find_cons_nm]
      by_cases q : x.nm = nm ∧ covR E r x = true
      · rw [if_pos q]
        cases f : acc.find? (isN nm) with
        | some y => rfl
        | none =>
          obtain ⟨y, hy, hy2⟩ := List.any_eq_true.1 hh
          have := List.find?_eq_none.1 f y hy
          unfold isN at this
          rw [← q.1] at this
          exact absurd hy2 this
      · rw [if_neg q]
    · by_cases hc : (reachP E x).1 ≤ r ∧ r < (reachP E x).2
      · have e : covStep E r acc x = acc ++ [x] := by unfold covStep; rw [if_neg hh, if_pos hc]
        have hn : x.nm ∉ acc.map (·.nm) := fun q => by
          obtain ⟨y, hy, e2⟩ := List.mem_map.1 q
          exact hh (List.any_eq_true.2 ⟨y, hy, decide_eq_true e2⟩)
        rw [e]
        obtain ⟨h1, h2⟩ := step_find E r l (acc ++ [x]) (by
          rw [List.map_append, List.nodup_append]
          refine ⟨h, by simp, fun a ha b hb e2 => ?_⟩
          simp at hb
          rw [← hb, ← e2] at hn
          exact hn ha)
        refine ⟨h1, fun nm => ?_⟩
        have cr : covR E r x = true := decide_eq_true hc
        rw [h2, find_cons_nm, List.find?_append, Option.or_assoc]
        congr 1
        by_cases q : x.nm = nm
        · rw [if_pos ⟨q, cr⟩]
          have : isN nm x = true := decide_eq_true q
          simp [List.find?_cons, this]
        · rw [if_neg (fun z => q z.1)]
          have : isN nm x = false := decide_eq_false q
          simp [List.find?_cons, this]
      · have e : covStep E r acc x = acc := by unfold covStep; rw [if_neg hh, if_neg hc]
        rw [e]
        obtain ⟨h1, h2⟩ := step_find E r l acc h
        refine ⟨h1, fun nm => ?_⟩
        rw [h2, find_cons_nm, if_neg (fun q => hc (of_decide_eq_true q.2))]
theorem cov_nodup (E : List Elt) (L : List MkV) (r : Int) : ((covL E L r).map (·.nm)).Nodup := (step_find E r L.reverse [] (by simp)).1
theorem cov_find (E : List Elt) (L : List MkV) (r : Int) (nm : ByteArray) : (covL E L r).find? (isN nm) = (L.filter fun x => decide (x.nm = nm) && covR E r x).getLast? := by
  unfold covL
  rw [(step_find E r L.reverse [] (by simp)).2]
  rw [show ([] : List MkV).find? (isN nm) = none from rfl, Option.none_or, ← List.head?_filter, List.filter_reverse, List.head?_reverse]
  rfl
theorem cov_mem {E : List Elt} {L : List MkV} {r : Int} {x : MkV} : x ∈ covL E L r ↔ (L.filter fun y => decide (y.nm = x.nm) && covR E r y).getLast? = some x := by
  rw [← cov_find]
  constructor
  · intro h
    cases f : (covL E L r).find? (isN x.nm) with
    | none => exact absurd (show isN x.nm x = true from decide_eq_true rfl) (List.find?_eq_none.1 f x h)
    | some y =>
      have hy := List.mem_of_find?_eq_some f
      have e0 : isN x.nm y = true := List.find?_some f
      have e : y.nm = x.nm := of_decide_eq_true e0
      have nd := cov_nodup E L r
      obtain ⟨i, hi⟩ := List.mem_iff_getElem?.1 h
      obtain ⟨j, hj⟩ := List.mem_iff_getElem?.1 hy
      have hil := (List.getElem?_eq_some_iff.1 hi).1
      have hjl := (List.getElem?_eq_some_iff.1 hj).1
      have : i = j := (List.getElem?_inj (by rw [List.length_map]; exact hil) nd).1 (by rw [List.getElem?_map, List.getElem?_map, hi, hj]; simp [e])
      rw [this, hj] at hi
      exact hi
  · exact fun h => List.mem_of_find?_eq_some h
theorem spL_mem {f t : Int} {C : List MkV} {p : SpV} : p ∈ spL f t C ↔ ∃ x ∈ C, x.v.k ≠ 0 ∧ p = ⟨f, t, x.nm, x.v⟩ := by
  unfold spL
  rw [List.mem_map]
  constructor
  · rintro ⟨x, hx, rfl⟩
    obtain ⟨h1, h2⟩ := List.mem_filter.1 hx
    exact ⟨x, h1, of_decide_eq_true h2, rfl⟩
  · rintro ⟨x, h1, h2, rfl⟩
    exact ⟨x, List.mem_filter.2 ⟨h1, decide_eq_true h2⟩, rfl⟩
theorem ov_mem {E : List Elt} {L : List MkV} {r f t : Int} {p : SpV} : p ∈ spL f t (covL E L r) ↔ p.fr = f ∧ p.to = t ∧ hR E L p.nm r = some p.v := by
  rw [spL_mem]
  constructor
  · rintro ⟨x, hx, hk, rfl⟩
    refine ⟨rfl, rfl, ?_⟩
    have := cov_mem.1 hx
    unfold hR
    rw [this]
    show (if x.v.k = 0 then none else some x.v) = _
    rw [if_neg hk]
  · rintro ⟨rfl, rfl, h⟩
    unfold hR at h
    cases q : (L.filter fun x => decide (x.nm = p.nm) && covR E r x).getLast? with
    | none => rw [q] at h; cases h
    | some x =>
      rw [q] at h
      have h' : (if x.v.k = 0 then none else some x.v) = some p.v := h
      have hm := List.mem_of_getLast? q
      have hn : x.nm = p.nm := by
        have := (List.mem_filter.1 hm).2
        simp only [Bool.and_eq_true, decide_eq_true_eq] at this
        exact this.1
      split at h'
      · cases h'
      · rename_i hk
        refine ⟨x, cov_mem.2 (by rw [hn]; exact q), hk, ?_⟩
        rw [hn, Option.some.inj h']
theorem ov_nodup (E : List Elt) (L : List MkV) (r f t : Int) : ((spL f t (covL E L r)).map (·.nm)).Nodup := by
  have e : (spL f t (covL E L r)).map (·.nm) = ((covL E L r).filter fun x => decide (x.v.k ≠ 0)).map (·.nm) := by
    unfold spL
    rw [List.map_map]
    rfl
  rw [e]
  exact (cov_nodup E L r).sublist (List.Sublist.map _ List.filter_sublist)
/-! ### runs over one place -/
theorem run_some {E : List Elt} {L : List MkV} {nm : ByteArray} {j : Int} {v : VaV} (h : hE E L nm j = some v) : ∃ p, Run (hE E L) p ∧ p.nm = nm ∧ p.fr ≤ j ∧ j < p.to := by
  have hC : cvN E L nm ≠ [] := fun q => by
    unfold hE at h
    rw [q] at h
    simp [valC, lastI, valI] at h
  obtain ⟨c, hc⟩ := List.exists_mem_of_ne_nil _ hC
  have k := cuts_of (cvN E L nm)
  have h2 := cuts_two hc (cvN_lt c hc)
  have r := runsN_to k nm ((cutsL (cvN E L nm)).length - 1) (by omega)
  have hz : j < (cutsL (cvN E L nm)).getD ((cutsL (cvN E L nm)).length - 1) 0 := by
    by_cases q : j < (cutsL (cvN E L nm)).getD ((cutsL (cvN E L nm)).length - 1) 0
    · exact q
    · have := k.last (m := (cutsL (cvN E L nm)).length - 1) (by omega) (getD_get (by omega)) (show (cutsL (cvN E L nm)).getD ((cutsL (cvN E L nm)).length - 1) 0 ≤ j by omega)
      unfold hE at h
      rw [this] at h
      cases h
  obtain ⟨p, hp, h3, h4⟩ := r.all j v hz h
  have := (((runs_mem (h := hE E L) hC cvN_lt (fun j => rfl)).1 p).1 hp)
  exact ⟨p, this.1, this.2, h3, h4⟩
def overB (j : Int) (p : SpV) : Bool := decide (p.fr ≤ j ∧ j < p.to)
theorem srt_nodup {h : ByteArray → Int → Option VaV} {S : List SpV} (a : SpansIs h S) : S.Nodup :=
  a.srt.imp fun {x y} q e => by
    subst e
    rw [cSp_self] at q
    omega
theorem over_names {E : List Elt} {L : List MkV} {S : List SpV} (a : SpansIs (hE E L) S) (j : Int) : ((S.filter (overB j)).map (·.nm)).Nodup ∧ ∀ nm, nm ∈ (S.filter (overB j)).map (·.nm) ↔ ∃ v, hE E L nm j = some v := by
  have key : ∀ p ∈ S.filter (overB j), Run (hE E L) p ∧ p.fr ≤ j ∧ j < p.to := fun p hp => by
    obtain ⟨h1, h2⟩ := List.mem_filter.1 hp
    exact ⟨(a.mem p).1 h1, of_decide_eq_true h2⟩
  constructor
  · rw [List.Nodup, List.pairwise_map]
    have nd : (S.filter (overB j)).Nodup := (srt_nodup a).sublist List.filter_sublist
    refine (List.pairwise_iff_forall_sublist.2 fun {p q} hs => ?_)
    have hp := key p (hs.subset (by simp))
    have hq := key q (hs.subset (by simp))
    have hne : p ≠ q := (List.pairwise_iff_forall_sublist.1 nd) hs
    exact fun e => hne (hp.1.eq hq.1 e hp.2.1 hp.2.2 hq.2.1 hq.2.2)
  · intro nm
    constructor
    · intro h
      obtain ⟨p, hp, rfl⟩ := List.mem_map.1 h
      have := key p hp
      exact ⟨p.v, this.1.2.1 j this.2.1 this.2.2⟩
    · rintro ⟨v, hv⟩
      obtain ⟨p, h1, rfl, h3, h4⟩ := run_some hv
      exact List.mem_map.2 ⟨p, List.mem_filter.2 ⟨(a.mem p).2 h1, decide_eq_true ⟨h3, h4⟩⟩, rfl⟩
theorem agree_len {E : List Elt} (ok : SeqOk E) {L : List MkV} {S O : List SpV} (a : SpansIs (hE E L) S) {r : Nat} (hr : r < E.length) (hs : E[r].sh = true) {f t : Int} (hO : O.Perm (spL f t (covL E L (r : Int)))) : (S.filter (overB (cntE E r : Int))).length = O.length := by
  obtain ⟨n1, m1⟩ := over_names a (cntE E r : Int)
  have n2 := ov_nodup E L (r : Int) f t
  have m2 : ∀ nm, nm ∈ (spL f t (covL E L (r : Int))).map (·.nm) ↔ ∃ v, hE E L nm (cntE E r : Int) = some v := fun nm => by
    rw [hE_rank ok L nm hr hs, List.mem_map]
    constructor
    · rintro ⟨p, hp, rfl⟩
      exact ⟨p.v, (ov_mem.1 hp).2.2⟩
    · rintro ⟨v, hv⟩
      exact ⟨⟨f, t, nm, v⟩, ov_mem.2 ⟨rfl, rfl, hv⟩, rfl⟩
  have pm : ((S.filter (overB (cntE E r : Int))).map (·.nm)).Perm ((spL f t (covL E L (r : Int))).map (·.nm)) := (List.perm_ext_iff_of_nodup n1 n2).2 fun nm => (m1 nm).trans (m2 nm).symm
  have := pm.length_eq
  rw [List.length_map, List.length_map] at this
  rw [this, hO.length_eq]
theorem agree_there {E : List Elt} (ok : SeqOk E) {L : List MkV} {S O : List SpV} (a : SpansIs (hE E L) S) {r : Nat} (hr : r < E.length) (hs : E[r].sh = true) {f t : Int} (hO : O.Perm (spL f t (covL E L (r : Int)))) {p : SpV} (hp : p ∈ S) (h1 : p.fr ≤ (cntE E r : Int)) (h2 : (cntE E r : Int) < p.to) : (⟨f, t, p.nm, p.v⟩ : SpV) ∈ O := by
  have := ((a.mem p).1 hp).2.1 _ h1 h2
  rw [hE_rank ok L p.nm hr hs] at this
  exact hO.mem_iff.2 (ov_mem.2 ⟨rfl, rfl, this⟩)
theorem run_in {E : List Elt} (ok : SeqOk E) {L : List MkV} {p : SpV} (h : Run (hE E L) p) : 0 ≤ p.fr ∧ p.fr < p.to ∧ p.to ≤ ((visE E true).length : Int) ∧ p.v.k ≠ 0 := by
  have a := h.2.1 p.fr (Int.le_refl _) h.1
  have b := h.2.1 (p.to - 1) (by have := h.1; omega) (by omega)
  refine ⟨?_, h.1, ?_, ?_⟩
  · by_cases q : p.fr < 0
    · rw [hE_out ok L p.nm (.inl q)] at a; cases a
    · omega
  · by_cases q : ((visE E true).length : Int) ≤ p.to - 1
    · rw [hE_out ok L p.nm (.inr q)] at b; cases b
    · omega
  · unfold hE valC valI at a
    split at a
    · split at a
      · split at a
        · cases a
        · rename_i hk
          rw [← Option.some.inj a]; exact hk
      · cases a
    · cases a
theorem run_apart {E : List Elt} {L : List MkV} {S : List SpV} (a : SpansIs (hE E L) S) {p q : SpV} (hp : p ∈ S) (hq : q ∈ S) (hne : p ≠ q) (e : p.nm = q.nm) : ¬ (p.to > q.fr ∧ p.fr < q.to) ∧ ((p.to = q.fr ∨ q.to = p.fr) → p.v ≠ q.v) := by
  have rp := (a.mem p).1 hp
  have rq := (a.mem q).1 hq
  constructor
  · rintro ⟨h1, h2⟩
    by_cases c : p.fr ≤ q.fr
    · exact hne (rp.eq rq e c (by omega) (Int.le_refl _) rq.1)
    · exact hne (rp.eq rq e (Int.le_refl _) rp.1 (by omega) (by omega))
  · rintro (h | h) ev
    · have := rq.2.1 q.fr (Int.le_refl _) rq.1
      rw [← e, ← h, ← ev] at this
      exact rp.2.2.2 this
    · have := rp.2.1 p.fr (Int.le_refl _) rp.1
      rw [e, ← h, ev] at this
      exact rq.2.2.2 this
/-! ### all elements shown, one behind the other -/
theorem seg_sh {a n : Nat} {y : Elt} (h : y ∈ seg a n) : y.sh = true := by
  obtain ⟨i, hi, rfl⟩ := List.mem_map.1 h
  rfl
theorem cnt_seg {k r : Nat} (h : r ≤ k) : cntE (seg 0 k) r = r := by
  unfold cntE
  rw [List.countP_eq_length.2 (fun y hy => by show (!true || y.sh) = true; rw [seg_sh (List.mem_of_mem_take hy)]; rfl), List.length_take, seg_len]
  omega
theorem vis_seg (k : Nat) : (visE (seg 0 k) true).length = k := by
  rw [← cntE_len (seg 0 k) (Nat.le_of_eq (seg_len 0 k)), cnt_seg (Nat.le_refl k)]
theorem idx_seg {k r : Nat} (ok : SeqOk (seg 0 k)) (h : r ≤ k) : idxE (seg 0 k) (r : Int) = (r : Int) := by
  rw [idx_cnt ok (by rw [seg_len]; exact h), cnt_seg h]
theorem cov_sub {E : List Elt} {L : List MkV} {r : Int} {x : MkV} (h : x ∈ covL E L r) : x ∈ L :=
  (List.mem_filter.1 (List.mem_of_getLast? (cov_mem.1 h))).1
/-! ### two runs of a name -/
theorem cSp_fr {p q : SpV} (h : cSp p q < 0) : p.fr ≤ q.fr := by
  unfold cSp or3 cI at h
  by_cases e : p.fr ≤ q.fr
  · exact e
  · rw [if_neg (show ¬ p.fr < q.fr by omega), if_pos (show q.fr < p.fr by omega)] at h
    simp at h
theorem two_runs {E : List Elt} {L : List MkV} {S : List SpV} (a : SpansIs (hE E L) S) {k i : Nat} (hk : k < i) {p q : SpV} (hp : S[k]? = some p) (hq : S[i]? = some q) (e : p.nm = q.nm) : ¬ p.to > q.fr ∧ (p.to = q.fr → p.v ≠ q.v) ∧ ¬ q.to = p.fr := by
  obtain ⟨lk, rfl⟩ := List.getElem?_eq_some_iff.1 hp
  obtain ⟨li, rfl⟩ := List.getElem?_eq_some_iff.1 hq
  have hs := (List.pairwise_iff_getElem.1 a.srt) k i lk li hk
  have le := cSp_fr hs
  have m1 := List.getElem_mem lk
  have m2 := List.getElem_mem li
  have r1 := ((a.mem _).1 m1).1
  have r2 := ((a.mem _).1 m2).1
  have hne : S[k] ≠ S[i] := fun q => by
    rw [q, cSp_self] at hs
    omega
  obtain ⟨h1, h2⟩ := run_apart a m1 m2 hne e
  exact ⟨fun q => h1 ⟨q, by omega⟩, fun q => h2 (.inl q), fun q => by omega⟩
/-! ### an element's marks against the runs over it -/
def cntA (S : List SpV) (e : Nat) (i : Nat) : Nat := ((S.take i).filter (overB (e : Int))).length
theorem cntA_snoc {S : List SpV} {e i : Nat} {x : SpV} (hx : S[i]? = some x) : cntA S e (i + 1) = cntA S e i + (if overB (e : Int) x = true then 1 else 0) := by
  unfold cntA
  rw [List.take_add_one, hx, List.filter_append, List.length_append]
  congr 1
  by_cases h : overB (e : Int) x = true
  · rw [if_pos h]; simp [h]
  · rw [if_neg h]; simp [h]
theorem cntA_le (S : List SpV) (e i : Nat) : cntA S e i ≤ i := by
  unfold cntA
  have h1 := List.length_filter_le (overB (e : Int)) (S.take i)
  have h2 := List.length_take_le i S
  omega
def thrA (O : List SpV) (nm : ByteArray) (j : Nat) : Bool := (O.take j).any fun y => decide (y.nm = nm)
theorem thrA_snoc {O : List SpV} {nm : ByteArray} {j : Nat} {y : SpV} (hy : O[j]? = some y) : thrA O nm (j + 1) = (thrA O nm j || decide (y.nm = nm)) := by
  unfold thrA
  rw [List.take_add_one, hy, List.any_append]
  simp
structure OvK (S O : List SpV) (e : Nat) : Prop where
  len : cntA S e S.length = O.length
  hit : ∀ x ∈ S, overB (e : Int) x = true → thrA O x.nm O.length = true
  of : ∀ x ∈ S, overB (e : Int) x = true → ∀ y ∈ O, y.nm = x.nm → y.v = x.v ∧ y.fr = (e : Int) ∧ y.to = (e : Int) + 1
theorem ovk_of {k : Nat} {L : List MkV} {S O : List SpV} (ok : SeqOk (seg 0 k)) (a : SpansIs (hE (seg 0 k) L) S) {e : Nat} (he : e < k) (hO : O.Perm (ovL (seg 0 k) L (idN ((e : Int) + 1)))) : OvK S O e ∧ ∀ y ∈ O, y.fr = (e : Int) ∧ y.to = (e : Int) + 1 ∧ ∃ x ∈ L, y.nm = x.nm ∧ y.v = x.v := by
  have hA : aheadE (seg 0 k) false (idN ((e : Int) + 1)) = (e : Int) := by
    have := ahead_seg (k := k) (p := e + 1) (by omega) (by omega)
    rw [show ((e + 1 : Nat) : Int) = (e : Int) + 1 by omega] at this
    omega
  have hl : e < (seg 0 k).length := by rw [seg_len]; exact he
  have hs : (seg 0 k)[e].sh = true := seg_sh (List.getElem_mem hl)
  have hc : cntE (seg 0 k) e = e := cnt_seg (by omega)
  have hP : ovL (seg 0 k) L (idN ((e : Int) + 1)) = spL (e : Int) ((e : Int) + 1) (covL (seg 0 k) L (e : Int)) := by
    unfold ovL
    rw [hA, idx_seg ok (by omega), show (e : Int) + 1 = ((e + 1 : Nat) : Int) by omega, idx_seg ok (by omega)]
  rw [hP] at hO
  have key : ∀ y ∈ O, y.fr = (e : Int) ∧ y.to = (e : Int) + 1 ∧ hR (seg 0 k) L y.nm (e : Int) = some y.v := fun y hy => ov_mem.1 (hO.mem_iff.1 hy)
  refine ⟨⟨?_, fun x hx hx2 => ?_, fun x hx hx2 y hy hn => ?_⟩, fun y hy => ?_⟩
  · have := agree_len ok a hl hs hO
    rw [hc] at this
    unfold cntA
    rw [List.take_of_length_le (Nat.le_refl _)]
    exact this
  · obtain ⟨q1, q2⟩ : x.fr ≤ (e : Int) ∧ (e : Int) < x.to := of_decide_eq_true hx2
    have := agree_there ok a hl hs hO hx (by rw [hc]; exact q1) (by rw [hc]; exact q2)
    unfold thrA
    rw [List.take_of_length_le (Nat.le_refl _)]
    exact List.any_eq_true.2 ⟨_, this, decide_eq_true rfl⟩
  · obtain ⟨q1, q2⟩ : x.fr ≤ (e : Int) ∧ (e : Int) < x.to := of_decide_eq_true hx2
    have h1 := agree_there ok a hl hs hO hx (by rw [hc]; exact q1) (by rw [hc]; exact q2)
    have h2 := (key _ h1).2.2
    have h3 := key y hy
    rw [hn] at h3
    have h2' : hR (seg 0 k) L x.nm (e : Int) = some x.v := h2
    rw [h2'] at h3
    exact ⟨(Option.some.inj h3.2.2).symm, h3.1, h3.2.1⟩
  · obtain ⟨x, hx, _, e2⟩ := spL_mem.1 (hO.mem_iff.1 hy)
    refine ⟨(key y hy).1, (key y hy).2.1, x, cov_sub hx, ?_⟩
    rw [e2]
    exact ⟨rfl, rfl⟩
end Go.Proofs.YtifendlpeebofaaGreatDoor
namespace Go.Proofs.YtifendlpeebofaaGreatDoor
open Go.RowKit
section
variable {w : World} {a : Act} {o : Oper} {x y : Operand}
theorem ex_eq64n {p q : Int} (ho : o.op = .binOp .eql 2 x y 2) (hx : a.eval x = .int .i64 p) (hy : a.eval y = .int .i64 q) (h : p ≠ q) : (execOp a.eval o).run Tryz.prog w = .ok (.value (.bool false)) w := by
  unfold execOp
  simp only [ho, hx, hy]
  go_simp
theorem ex_equ64n {p q : Int} (ho : o.op = .binOp .eql 123 x y 123) (hx : a.eval x = .int .u64 p) (hy : a.eval y = .int .u64 q) (h : p ≠ q) : (execOp a.eval o).run Tryz.prog w = .ok (.value (.bool false)) w := by
  unfold execOp
  simp only [ho, hx, hy]
  go_simp
theorem ex_eqTr {s t : ByteArray} {r : Bool} (ho : o.op = .binOp .eql 9 x y 9) (hx : a.eval x = .string s) (hy : a.eval y = .string t) (hr : decide (s = t) = r) : (execOp a.eval o).run Tryz.prog w = .ok (.value (.bool r)) w := by
  refine exec_binOp ho hx hy ?_ ?_
  · kernel_rfl
  · have e : (s.toList == t.toList) = r := by
      subst hr
      by_cases h : s = t
      · subst h; simp
      · rw [decide_eq_false h]
        have : ¬ s.toList = t.toList := fun q => h (ba_inj q)
        simpa using this
    first
      | (go_simp; done)
      | (go_simp; exact e)
end
def samK_ops : Array Oper := (⟨_, rfl⟩ : {o // some o = rgB Tryz.f35 1}).1
theorem samK {b2 b3 : Nat} {x y : VaV} (S : World → Prop) (a : Act) (w : World) (Q : Exit → Act → World → Prop) (zz : a.tmps.size = 33)
    (t2 : a.tmps.getD 2 undef = .pointer (some ⟨b2, 0, none⟩))
    (t3 : a.tmps.getD 3 undef = .pointer (some ⟨b3, 0, none⟩))
    (h0 : S w.drew) (hk : ¬ x.k = y.k) (Lb20 : ∀ W, S W → (Instr.loadAt 37 (.pointer (some ⟨b2, 0 + 0, none⟩))).run Tryz.prog W = .ok (.int .u8 x.k) W) (Lb21 : ∀ W, S W → (Instr.loadAt 2 (.pointer (some ⟨b2, 0 + 1, none⟩))).run Tryz.prog W = .ok (.int .i64 x.n) W) (Lb22 : ∀ W, S W → (Instr.loadAt 38 (.pointer (some ⟨b2, 0 + 2, none⟩))).run Tryz.prog W = .ok (.float .f64 x.f) W) (Lb23 : ∀ W, S W → (Instr.loadAt 9 (.pointer (some ⟨b2, 0 + 3, none⟩))).run Tryz.prog W = .ok (.string x.s) W) (Lb30 : ∀ W, S W → (Instr.loadAt 37 (.pointer (some ⟨b3, 0 + 0, none⟩))).run Tryz.prog W = .ok (.int .u8 y.k) W) (Lb31 : ∀ W, S W → (Instr.loadAt 2 (.pointer (some ⟨b3, 0 + 1, none⟩))).run Tryz.prog W = .ok (.int .i64 y.n) W) (Lb32 : ∀ W, S W → (Instr.loadAt 38 (.pointer (some ⟨b3, 0 + 2, none⟩))).run Tryz.prog W = .ok (.float .f64 y.f) W) (Lb33 : ∀ W, S W → (Instr.loadAt 9 (.pointer (some ⟨b3, 0 + 3, none⟩))).run Tryz.prog W = .ok (.string y.s) W)
    (h : ∀ a' w', S w' → a' = ((((((((((((((((((((((((((((a.put (some 5) (.pointer (some ⟨b2, 0 + 0, none⟩))).put (some 6) (.int .u8 x.k)).put (some 7) (.pointer (some ⟨b3, 0 + 0, none⟩))).put (some 8) (.int .u8 y.k)).put (some 9) (.bool false)).put (some 10) (.bool false)).put (some 11) (undef)).put (some 12) (undef)).put (some 13) (undef)).put (some 14) (undef)).put (some 15) (undef)).put (some 16) (.bool false)).put (some 17) (.bool false)).put (some 18) (undef)).put (some 19) (undef)).put (some 20) (undef)).put (some 21) (undef)).put (some 22) (undef)).put (some 23) (undef)).put (some 24) (undef)).put (some 25) (.bool false)).put (some 26) (.bool false)).put (some 27) (undef)).put (some 28) (undef)).put (some 29) (undef)).put (some 30) (undef)).put (some 31) (undef)).put (some 32) (.bool false)).put (some 4) (.bool false) → Q .normal a' w') :
    (Code.region 1 samK_ops true).wp Tryz.prog Q a w := by
  refine y0 (fun w' => S w') (h0) (fun hHeld => ?_)
  refine yv 0 rfl rfl (fun w1 hw => xfa rfl (zi t2 rfl) (fg_40_0 _ _ _)) hHeld ?_
  refine yv 1 rfl rfl (fun w1 hw => xld rfl (zg zz rfl) (Lb20 _ hw)) hHeld ?_
  refine yv 2 rfl rfl (fun w1 hw => xfa rfl (zi t3 rfl) (fg_40_0 _ _ _)) hHeld ?_
  refine yv 3 rfl rfl (fun w1 hw => xld rfl (zg zz rfl) (Lb30 _ hw)) hHeld ?_
  refine yv (v := .bool false) 4 rfl rfl (fun w1 hw => ex_eqlK rfl (zg zz rfl) (zg zz rfl) (decide_eq_false hk)) hHeld ?_
  refine yv 5 rfl rfl (fun w1 hw => xmv rfl (zg zz rfl)) hHeld ?_
  refine yn 6 rfl (zx zz rfl rfl rfl (zg zz rfl)) hHeld ?_
  refine yn 7 rfl (zx zz rfl rfl rfl (zg zz rfl)) hHeld ?_
  refine yn 8 rfl (zx zz rfl rfl rfl (zg zz rfl)) hHeld ?_
  refine yn 9 rfl (zx zz rfl rfl rfl (zg zz rfl)) hHeld ?_
  refine yn 10 rfl (zx zz rfl rfl rfl (zg zz rfl)) hHeld ?_
  refine yv 11 rfl rfl (fun w1 hw => exec_pickF rfl (zg zz rfl) rfl) hHeld ?_
  refine yv 12 rfl rfl (fun w1 hw => xmv rfl (zg zz rfl)) hHeld ?_
  refine yn 13 rfl (zx zz rfl rfl rfl (zg zz rfl)) hHeld ?_
  refine yn 14 rfl (zx zz rfl rfl rfl (zg zz rfl)) hHeld ?_
  refine yn 15 rfl (zx zz rfl rfl rfl (zg zz rfl)) hHeld ?_
  refine yn 16 rfl (zx zz rfl rfl rfl (zg zz rfl)) hHeld ?_
  refine yn 17 rfl (zx zz rfl rfl rfl (zg zz rfl)) hHeld ?_
  refine yn 18 rfl (zx zz rfl rfl rfl (zg zz rfl)) hHeld ?_
  refine yn 19 rfl (zx zz rfl rfl rfl (zg zz rfl)) hHeld ?_
  refine yv 20 rfl rfl (fun w1 hw => exec_pickF rfl (zg zz rfl) rfl) hHeld ?_
  refine yv 21 rfl rfl (fun w1 hw => xmv rfl (zg zz rfl)) hHeld ?_
  refine yn 22 rfl (zx zz rfl rfl rfl (zg zz rfl)) hHeld ?_
  refine yn 23 rfl (zx zz rfl rfl rfl (zg zz rfl)) hHeld ?_
  refine yn 24 rfl (zx zz rfl rfl rfl (zg zz rfl)) hHeld ?_
  refine yn 25 rfl (zx zz rfl rfl rfl (zg zz rfl)) hHeld ?_
  refine yn 26 rfl (zx zz rfl rfl rfl (zg zz rfl)) hHeld ?_
  refine yv 27 rfl rfl (fun w1 hw => exec_pickF rfl (zg zz rfl) rfl) hHeld ?_
  refine yv 28 rfl rfl (fun w1 hw => xas rfl (zg zz rfl)) hHeld ?_
  exact ye rfl (h _ _ (hHeld) rfl)
theorem samN {b2 b3 : Nat} {x y : VaV} (S : World → Prop) (a : Act) (w : World) (Q : Exit → Act → World → Prop) (zz : a.tmps.size = 33)
    (t2 : a.tmps.getD 2 undef = .pointer (some ⟨b2, 0, none⟩))
    (t3 : a.tmps.getD 3 undef = .pointer (some ⟨b3, 0, none⟩))
    (h0 : S w.drew) (hk : x.k = y.k) (hn : x.n ≠ y.n) (Lb20 : ∀ W, S W → (Instr.loadAt 37 (.pointer (some ⟨b2, 0 + 0, none⟩))).run Tryz.prog W = .ok (.int .u8 x.k) W) (Lb21 : ∀ W, S W → (Instr.loadAt 2 (.pointer (some ⟨b2, 0 + 1, none⟩))).run Tryz.prog W = .ok (.int .i64 x.n) W) (Lb22 : ∀ W, S W → (Instr.loadAt 38 (.pointer (some ⟨b2, 0 + 2, none⟩))).run Tryz.prog W = .ok (.float .f64 x.f) W) (Lb23 : ∀ W, S W → (Instr.loadAt 9 (.pointer (some ⟨b2, 0 + 3, none⟩))).run Tryz.prog W = .ok (.string x.s) W) (Lb30 : ∀ W, S W → (Instr.loadAt 37 (.pointer (some ⟨b3, 0 + 0, none⟩))).run Tryz.prog W = .ok (.int .u8 y.k) W) (Lb31 : ∀ W, S W → (Instr.loadAt 2 (.pointer (some ⟨b3, 0 + 1, none⟩))).run Tryz.prog W = .ok (.int .i64 y.n) W) (Lb32 : ∀ W, S W → (Instr.loadAt 38 (.pointer (some ⟨b3, 0 + 2, none⟩))).run Tryz.prog W = .ok (.float .f64 y.f) W) (Lb33 : ∀ W, S W → (Instr.loadAt 9 (.pointer (some ⟨b3, 0 + 3, none⟩))).run Tryz.prog W = .ok (.string y.s) W)
    (h : ∀ a' w', S w' → a' = ((((((((((((((((((((((((((((a.put (some 5) (.pointer (some ⟨b2, 0 + 0, none⟩))).put (some 6) (.int .u8 x.k)).put (some 7) (.pointer (some ⟨b3, 0 + 0, none⟩))).put (some 8) (.int .u8 y.k)).put (some 9) (.bool true)).put (some 10) (.bool true)).put (some 11) (.pointer (some ⟨b2, 0 + 1, none⟩))).put (some 12) (.int .i64 x.n)).put (some 13) (.pointer (some ⟨b3, 0 + 1, none⟩))).put (some 14) (.int .i64 y.n)).put (some 15) (.bool false)).put (some 16) (.bool false)).put (some 17) (.bool false)).put (some 18) (undef)).put (some 19) (undef)).put (some 20) (undef)).put (some 21) (undef)).put (some 22) (undef)).put (some 23) (undef)).put (some 24) (undef)).put (some 25) (.bool false)).put (some 26) (.bool false)).put (some 27) (undef)).put (some 28) (undef)).put (some 29) (undef)).put (some 30) (undef)).put (some 31) (undef)).put (some 32) (.bool false)).put (some 4) (.bool false) → Q .normal a' w') :
    (Code.region 1 samK_ops true).wp Tryz.prog Q a w := by
  refine y0 (fun w' => S w') (h0) (fun hHeld => ?_)
  refine yv 0 rfl rfl (fun w1 hw => xfa rfl (zi t2 rfl) (fg_40_0 _ _ _)) hHeld ?_
  refine yv 1 rfl rfl (fun w1 hw => xld rfl (zg zz rfl) (Lb20 _ hw)) hHeld ?_
  refine yv 2 rfl rfl (fun w1 hw => xfa rfl (zi t3 rfl) (fg_40_0 _ _ _)) hHeld ?_
  refine yv 3 rfl rfl (fun w1 hw => xld rfl (zg zz rfl) (Lb30 _ hw)) hHeld ?_
  refine yv (v := .bool true) 4 rfl rfl (fun w1 hw => ex_eqlK rfl (zg zz rfl) (zg zz rfl) (decide_eq_true hk)) hHeld ?_
  refine yv 5 rfl rfl (fun w1 hw => xmv rfl (zg zz rfl)) hHeld ?_
  refine yv 6 rfl (zw zz rfl rfl rfl (zg zz rfl)) (fun w1 hw => xfa rfl (zi t2 rfl) (fg_40_1 _ _ _)) hHeld ?_
  refine yv 7 rfl (zw zz rfl rfl rfl (zg zz rfl)) (fun w1 hw => xld rfl (zg zz rfl) (Lb21 _ hw)) hHeld ?_
  refine yv 8 rfl (zw zz rfl rfl rfl (zg zz rfl)) (fun w1 hw => xfa rfl (zi t3 rfl) (fg_40_1 _ _ _)) hHeld ?_
  refine yv 9 rfl (zw zz rfl rfl rfl (zg zz rfl)) (fun w1 hw => xld rfl (zg zz rfl) (Lb31 _ hw)) hHeld ?_
  refine yv (v := .bool false) 10 rfl (zw zz rfl rfl rfl (zg zz rfl)) (fun w1 hw => ex_eq64n rfl (zg zz rfl) (zg zz rfl) hn) hHeld ?_
  refine yv 11 rfl rfl (fun w1 hw => exec_pickT rfl (zg zz rfl) (zg zz rfl)) hHeld ?_
  refine yv 12 rfl rfl (fun w1 hw => xmv rfl (zg zz rfl)) hHeld ?_
  refine yn 13 rfl (zx zz rfl rfl rfl (zg zz rfl)) hHeld ?_
  refine yn 14 rfl (zx zz rfl rfl rfl (zg zz rfl)) hHeld ?_
  refine yn 15 rfl (zx zz rfl rfl rfl (zg zz rfl)) hHeld ?_
  refine yn 16 rfl (zx zz rfl rfl rfl (zg zz rfl)) hHeld ?_
  refine yn 17 rfl (zx zz rfl rfl rfl (zg zz rfl)) hHeld ?_
  refine yn 18 rfl (zx zz rfl rfl rfl (zg zz rfl)) hHeld ?_
  refine yn 19 rfl (zx zz rfl rfl rfl (zg zz rfl)) hHeld ?_
  refine yv 20 rfl rfl (fun w1 hw => exec_pickF rfl (zg zz rfl) rfl) hHeld ?_
  refine yv 21 rfl rfl (fun w1 hw => xmv rfl (zg zz rfl)) hHeld ?_
  refine yn 22 rfl (zx zz rfl rfl rfl (zg zz rfl)) hHeld ?_
  refine yn 23 rfl (zx zz rfl rfl rfl (zg zz rfl)) hHeld ?_
  refine yn 24 rfl (zx zz rfl rfl rfl (zg zz rfl)) hHeld ?_
  refine yn 25 rfl (zx zz rfl rfl rfl (zg zz rfl)) hHeld ?_
  refine yn 26 rfl (zx zz rfl rfl rfl (zg zz rfl)) hHeld ?_
  refine yv 27 rfl rfl (fun w1 hw => exec_pickF rfl (zg zz rfl) rfl) hHeld ?_
  refine yv 28 rfl rfl (fun w1 hw => xas rfl (zg zz rfl)) hHeld ?_
  exact ye rfl (h _ _ (hHeld) rfl)
theorem samF {b2 b3 : Nat} {x y : VaV} (S : World → Prop) (a : Act) (w : World) (Q : Exit → Act → World → Prop) (zz : a.tmps.size = 33)
    (t2 : a.tmps.getD 2 undef = .pointer (some ⟨b2, 0, none⟩))
    (t3 : a.tmps.getD 3 undef = .pointer (some ⟨b3, 0, none⟩))
    (h0 : S w.drew) (hk : x.k = y.k) (hn : x.n = y.n) (hf : (x.f : Int) ≠ (y.f : Int)) (Lb20 : ∀ W, S W → (Instr.loadAt 37 (.pointer (some ⟨b2, 0 + 0, none⟩))).run Tryz.prog W = .ok (.int .u8 x.k) W) (Lb21 : ∀ W, S W → (Instr.loadAt 2 (.pointer (some ⟨b2, 0 + 1, none⟩))).run Tryz.prog W = .ok (.int .i64 x.n) W) (Lb22 : ∀ W, S W → (Instr.loadAt 38 (.pointer (some ⟨b2, 0 + 2, none⟩))).run Tryz.prog W = .ok (.float .f64 x.f) W) (Lb23 : ∀ W, S W → (Instr.loadAt 9 (.pointer (some ⟨b2, 0 + 3, none⟩))).run Tryz.prog W = .ok (.string x.s) W) (Lb30 : ∀ W, S W → (Instr.loadAt 37 (.pointer (some ⟨b3, 0 + 0, none⟩))).run Tryz.prog W = .ok (.int .u8 y.k) W) (Lb31 : ∀ W, S W → (Instr.loadAt 2 (.pointer (some ⟨b3, 0 + 1, none⟩))).run Tryz.prog W = .ok (.int .i64 y.n) W) (Lb32 : ∀ W, S W → (Instr.loadAt 38 (.pointer (some ⟨b3, 0 + 2, none⟩))).run Tryz.prog W = .ok (.float .f64 y.f) W) (Lb33 : ∀ W, S W → (Instr.loadAt 9 (.pointer (some ⟨b3, 0 + 3, none⟩))).run Tryz.prog W = .ok (.string y.s) W)
    (h : ∀ a' w', S w' → a' = ((((((((((((((((((((((((((((a.put (some 5) (.pointer (some ⟨b2, 0 + 0, none⟩))).put (some 6) (.int .u8 x.k)).put (some 7) (.pointer (some ⟨b3, 0 + 0, none⟩))).put (some 8) (.int .u8 y.k)).put (some 9) (.bool true)).put (some 10) (.bool true)).put (some 11) (.pointer (some ⟨b2, 0 + 1, none⟩))).put (some 12) (.int .i64 x.n)).put (some 13) (.pointer (some ⟨b3, 0 + 1, none⟩))).put (some 14) (.int .i64 y.n)).put (some 15) (.bool true)).put (some 16) (.bool true)).put (some 17) (.bool true)).put (some 18) (.pointer (some ⟨b2, 0 + 2, none⟩))).put (some 19) (.float .f64 x.f)).put (some 21) (.pointer (some ⟨b3, 0 + 2, none⟩))).put (some 22) (.float .f64 y.f)).put (some 20) (.int .u64 (x.f : Int))).put (some 23) (.int .u64 (y.f : Int))).put (some 24) (.bool false)).put (some 25) (.bool false)).put (some 26) (.bool false)).put (some 27) (undef)).put (some 28) (undef)).put (some 29) (undef)).put (some 30) (undef)).put (some 31) (undef)).put (some 32) (.bool false)).put (some 4) (.bool false) → Q .normal a' w') :
    (Code.region 1 samK_ops true).wp Tryz.prog Q a w := by
  refine y0 (fun w' => S w') (h0) (fun hHeld => ?_)
  refine yv 0 rfl rfl (fun w1 hw => xfa rfl (zi t2 rfl) (fg_40_0 _ _ _)) hHeld ?_
  refine yv 1 rfl rfl (fun w1 hw => xld rfl (zg zz rfl) (Lb20 _ hw)) hHeld ?_
  refine yv 2 rfl rfl (fun w1 hw => xfa rfl (zi t3 rfl) (fg_40_0 _ _ _)) hHeld ?_
  refine yv 3 rfl rfl (fun w1 hw => xld rfl (zg zz rfl) (Lb30 _ hw)) hHeld ?_
  refine yv (v := .bool true) 4 rfl rfl (fun w1 hw => ex_eqlK rfl (zg zz rfl) (zg zz rfl) (decide_eq_true hk)) hHeld ?_
  refine yv 5 rfl rfl (fun w1 hw => xmv rfl (zg zz rfl)) hHeld ?_
  refine yv 6 rfl (zw zz rfl rfl rfl (zg zz rfl)) (fun w1 hw => xfa rfl (zi t2 rfl) (fg_40_1 _ _ _)) hHeld ?_
  refine yv 7 rfl (zw zz rfl rfl rfl (zg zz rfl)) (fun w1 hw => xld rfl (zg zz rfl) (Lb21 _ hw)) hHeld ?_
  refine yv 8 rfl (zw zz rfl rfl rfl (zg zz rfl)) (fun w1 hw => xfa rfl (zi t3 rfl) (fg_40_1 _ _ _)) hHeld ?_
  refine yv 9 rfl (zw zz rfl rfl rfl (zg zz rfl)) (fun w1 hw => xld rfl (zg zz rfl) (Lb31 _ hw)) hHeld ?_
  refine yv (v := .bool true) 10 rfl (zw zz rfl rfl rfl (zg zz rfl)) (fun w1 hw => ex_eq64 (p := x.n) rfl (zg zz rfl) (by rw [hn]; exact (zg zz rfl))) hHeld ?_
  refine yv 11 rfl rfl (fun w1 hw => exec_pickT rfl (zg zz rfl) (zg zz rfl)) hHeld ?_
  refine yv 12 rfl rfl (fun w1 hw => xmv rfl (zg zz rfl)) hHeld ?_
  refine yv 13 rfl (zw zz rfl rfl rfl (zg zz rfl)) (fun w1 hw => xfa rfl (zi t2 rfl) (fg_40_2 _ _ _)) hHeld ?_
  refine yv 14 rfl (zw zz rfl rfl rfl (zg zz rfl)) (fun w1 hw => xld rfl (zg zz rfl) (Lb22 _ hw)) hHeld ?_
  refine yv 16 rfl (zw zz rfl rfl rfl (zg zz rfl)) (fun w1 hw => xfa rfl (zi t3 rfl) (fg_40_2 _ _ _)) hHeld ?_
  refine yv 17 rfl (zw zz rfl rfl rfl (zg zz rfl)) (fun w1 hw => xld rfl (zg zz rfl) (Lb32 _ hw)) hHeld ?_
  refine yr (v := .int .u64 (x.f : Int)) 15 rfl (zw zz rfl rfl rfl (zg zz rfl)) (exec_fb rfl (zg zz rfl)) (h0) (fun hHeld => ?_)
  refine yr (v := .int .u64 (y.f : Int)) 18 rfl (zw zz rfl rfl rfl (zg zz rfl)) (exec_fb rfl (zg zz rfl)) (h0) (fun hHeld => ?_)
  refine yv (v := .bool false) 19 rfl (zw zz rfl rfl rfl (zg zz rfl)) (fun w1 hw => ex_equ64n rfl (zg zz rfl) (zg zz rfl) hf) hHeld ?_
  refine yv 20 rfl rfl (fun w1 hw => exec_pickT rfl (zg zz rfl) (zg zz rfl)) hHeld ?_
  refine yv 21 rfl rfl (fun w1 hw => xmv rfl (zg zz rfl)) hHeld ?_
  refine yn 22 rfl (zx zz rfl rfl rfl (zg zz rfl)) hHeld ?_
  refine yn 23 rfl (zx zz rfl rfl rfl (zg zz rfl)) hHeld ?_
  refine yn 24 rfl (zx zz rfl rfl rfl (zg zz rfl)) hHeld ?_
  refine yn 25 rfl (zx zz rfl rfl rfl (zg zz rfl)) hHeld ?_
  refine yn 26 rfl (zx zz rfl rfl rfl (zg zz rfl)) hHeld ?_
  refine yv 27 rfl rfl (fun w1 hw => exec_pickF rfl (zg zz rfl) rfl) hHeld ?_
  refine yv 28 rfl rfl (fun w1 hw => xas rfl (zg zz rfl)) hHeld ?_
  exact ye rfl (h _ _ (h0) rfl)
theorem samS {b2 b3 : Nat} {x y : VaV} {r : Bool} (S : World → Prop) (a : Act) (w : World) (Q : Exit → Act → World → Prop) (zz : a.tmps.size = 33)
    (t2 : a.tmps.getD 2 undef = .pointer (some ⟨b2, 0, none⟩))
    (t3 : a.tmps.getD 3 undef = .pointer (some ⟨b3, 0, none⟩))
    (h0 : S w.drew) (hk : x.k = y.k) (hn : x.n = y.n) (hf : (x.f : Int) = (y.f : Int)) (hr : decide (x.s = y.s) = r) (Lb20 : ∀ W, S W → (Instr.loadAt 37 (.pointer (some ⟨b2, 0 + 0, none⟩))).run Tryz.prog W = .ok (.int .u8 x.k) W) (Lb21 : ∀ W, S W → (Instr.loadAt 2 (.pointer (some ⟨b2, 0 + 1, none⟩))).run Tryz.prog W = .ok (.int .i64 x.n) W) (Lb22 : ∀ W, S W → (Instr.loadAt 38 (.pointer (some ⟨b2, 0 + 2, none⟩))).run Tryz.prog W = .ok (.float .f64 x.f) W) (Lb23 : ∀ W, S W → (Instr.loadAt 9 (.pointer (some ⟨b2, 0 + 3, none⟩))).run Tryz.prog W = .ok (.string x.s) W) (Lb30 : ∀ W, S W → (Instr.loadAt 37 (.pointer (some ⟨b3, 0 + 0, none⟩))).run Tryz.prog W = .ok (.int .u8 y.k) W) (Lb31 : ∀ W, S W → (Instr.loadAt 2 (.pointer (some ⟨b3, 0 + 1, none⟩))).run Tryz.prog W = .ok (.int .i64 y.n) W) (Lb32 : ∀ W, S W → (Instr.loadAt 38 (.pointer (some ⟨b3, 0 + 2, none⟩))).run Tryz.prog W = .ok (.float .f64 y.f) W) (Lb33 : ∀ W, S W → (Instr.loadAt 9 (.pointer (some ⟨b3, 0 + 3, none⟩))).run Tryz.prog W = .ok (.string y.s) W)
    (h : ∀ a' w', S w' → a' = ((((((((((((((((((((((((((((a.put (some 5) (.pointer (some ⟨b2, 0 + 0, none⟩))).put (some 6) (.int .u8 x.k)).put (some 7) (.pointer (some ⟨b3, 0 + 0, none⟩))).put (some 8) (.int .u8 y.k)).put (some 9) (.bool true)).put (some 10) (.bool true)).put (some 11) (.pointer (some ⟨b2, 0 + 1, none⟩))).put (some 12) (.int .i64 x.n)).put (some 13) (.pointer (some ⟨b3, 0 + 1, none⟩))).put (some 14) (.int .i64 y.n)).put (some 15) (.bool true)).put (some 16) (.bool true)).put (some 17) (.bool true)).put (some 18) (.pointer (some ⟨b2, 0 + 2, none⟩))).put (some 19) (.float .f64 x.f)).put (some 21) (.pointer (some ⟨b3, 0 + 2, none⟩))).put (some 22) (.float .f64 y.f)).put (some 20) (.int .u64 (x.f : Int))).put (some 23) (.int .u64 (y.f : Int))).put (some 24) (.bool true)).put (some 25) (.bool true)).put (some 26) (.bool true)).put (some 27) (.pointer (some ⟨b2, 0 + 3, none⟩))).put (some 28) (.string x.s)).put (some 29) (.pointer (some ⟨b3, 0 + 3, none⟩))).put (some 30) (.string y.s)).put (some 31) (.bool r)).put (some 32) (.bool r)).put (some 4) (.bool r) → Q .normal a' w') :
    (Code.region 1 samK_ops true).wp Tryz.prog Q a w := by
  refine y0 (fun w' => S w') (h0) (fun hHeld => ?_)
  refine yv 0 rfl rfl (fun w1 hw => xfa rfl (zi t2 rfl) (fg_40_0 _ _ _)) hHeld ?_
  refine yv 1 rfl rfl (fun w1 hw => xld rfl (zg zz rfl) (Lb20 _ hw)) hHeld ?_
  refine yv 2 rfl rfl (fun w1 hw => xfa rfl (zi t3 rfl) (fg_40_0 _ _ _)) hHeld ?_
  refine yv 3 rfl rfl (fun w1 hw => xld rfl (zg zz rfl) (Lb30 _ hw)) hHeld ?_
  refine yv (v := .bool true) 4 rfl rfl (fun w1 hw => ex_eqlK rfl (zg zz rfl) (zg zz rfl) (decide_eq_true hk)) hHeld ?_
  refine yv 5 rfl rfl (fun w1 hw => xmv rfl (zg zz rfl)) hHeld ?_
  refine yv 6 rfl (zw zz rfl rfl rfl (zg zz rfl)) (fun w1 hw => xfa rfl (zi t2 rfl) (fg_40_1 _ _ _)) hHeld ?_
  refine yv 7 rfl (zw zz rfl rfl rfl (zg zz rfl)) (fun w1 hw => xld rfl (zg zz rfl) (Lb21 _ hw)) hHeld ?_
  refine yv 8 rfl (zw zz rfl rfl rfl (zg zz rfl)) (fun w1 hw => xfa rfl (zi t3 rfl) (fg_40_1 _ _ _)) hHeld ?_
  refine yv 9 rfl (zw zz rfl rfl rfl (zg zz rfl)) (fun w1 hw => xld rfl (zg zz rfl) (Lb31 _ hw)) hHeld ?_
  refine yv (v := .bool true) 10 rfl (zw zz rfl rfl rfl (zg zz rfl)) (fun w1 hw => ex_eq64 (p := x.n) rfl (zg zz rfl) (by rw [hn]; exact (zg zz rfl))) hHeld ?_
  refine yv 11 rfl rfl (fun w1 hw => exec_pickT rfl (zg zz rfl) (zg zz rfl)) hHeld ?_
  refine yv 12 rfl rfl (fun w1 hw => xmv rfl (zg zz rfl)) hHeld ?_
  refine yv 13 rfl (zw zz rfl rfl rfl (zg zz rfl)) (fun w1 hw => xfa rfl (zi t2 rfl) (fg_40_2 _ _ _)) hHeld ?_
  refine yv 14 rfl (zw zz rfl rfl rfl (zg zz rfl)) (fun w1 hw => xld rfl (zg zz rfl) (Lb22 _ hw)) hHeld ?_
  refine yv 16 rfl (zw zz rfl rfl rfl (zg zz rfl)) (fun w1 hw => xfa rfl (zi t3 rfl) (fg_40_2 _ _ _)) hHeld ?_
  refine yv 17 rfl (zw zz rfl rfl rfl (zg zz rfl)) (fun w1 hw => xld rfl (zg zz rfl) (Lb32 _ hw)) hHeld ?_
  refine yr (v := .int .u64 (x.f : Int)) 15 rfl (zw zz rfl rfl rfl (zg zz rfl)) (exec_fb rfl (zg zz rfl)) (h0) (fun hHeld => ?_)
  refine yr (v := .int .u64 (y.f : Int)) 18 rfl (zw zz rfl rfl rfl (zg zz rfl)) (exec_fb rfl (zg zz rfl)) (h0) (fun hHeld => ?_)
  refine yv (v := .bool true) 19 rfl (zw zz rfl rfl rfl (zg zz rfl)) (fun w1 hw => ex_equ64 (p := (x.f : Int)) rfl (zg zz rfl) (by rw [hf]; exact (zg zz rfl))) hHeld ?_
  refine yv 20 rfl rfl (fun w1 hw => exec_pickT rfl (zg zz rfl) (zg zz rfl)) hHeld ?_
  refine yv 21 rfl rfl (fun w1 hw => xmv rfl (zg zz rfl)) hHeld ?_
  refine yv 22 rfl (zw zz rfl rfl rfl (zg zz rfl)) (fun w1 hw => xfa rfl (zi t2 rfl) (fg_40_3 _ _ _)) hHeld ?_
  refine yv 23 rfl (zw zz rfl rfl rfl (zg zz rfl)) (fun w1 hw => xld rfl (zg zz rfl) (Lb23 _ hw)) hHeld ?_
  refine yv 24 rfl (zw zz rfl rfl rfl (zg zz rfl)) (fun w1 hw => xfa rfl (zi t3 rfl) (fg_40_3 _ _ _)) hHeld ?_
  refine yv 25 rfl (zw zz rfl rfl rfl (zg zz rfl)) (fun w1 hw => xld rfl (zg zz rfl) (Lb33 _ hw)) hHeld ?_
  refine yv (v := .bool r) 26 rfl (zw zz rfl rfl rfl (zg zz rfl)) (fun w1 hw => ex_eqTr rfl (zg zz rfl) (zg zz rfl) hr) hHeld ?_
  refine yv 27 rfl rfl (fun w1 hw => exec_pickT rfl (zg zz rfl) (zg zz rfl)) hHeld ?_
  refine yv 28 rfl rfl (fun w1 hw => xas rfl (zg zz rfl)) hHeld ?_
  exact ye rfl (h _ _ (h0) rfl)
end Go.Proofs.YtifendlpeebofaaGreatDoor
namespace Go.Proofs.YtifendlpeebofaaGreatDoor
open Go.RowKit Go.Shelf Sq
attribute [local go_sem] Oper.semAt_some
theorem same_k (x y : VaV) (hk : ¬ x.k = y.k) (w : World) : Calls Tryz.prog 35 #[x.v, y.v] w fun e w' => e = .returned (.bool false) ∧ Below w.heap.size w w' := by
  obtain ⟨w1, hw1⟩ : ∃ w1, w.alloc (.cells x.c.toArray 40) = w1 := ⟨_, rfl⟩
  obtain ⟨w2, hw2⟩ : ∃ w2, w1.alloc (.cells y.c.toArray 40) = w2 := ⟨_, rfl⟩
  have p1 : VaAt w1 w.heap.size x := by rw [← hw1]; exact heap_alloc_new _ _
  have b1 : Below w.heap.size w w1 := by rw [← hw1]; exact (Below.refl _ _).alloc (Nat.le_refl _) _
  have z1 : w1.heap.size = w.heap.size + 1 := by rw [← hw1]; simp
  have p2 : VaAt w2 (w.heap.size + 1) y := by rw [← hw2, ← z1]; exact heap_alloc_new _ _
  have b2 : Below w1.heap.size w1 w2 := by rw [← hw2]; exact (Below.refl _ _).alloc (Nat.le_refl _) _
  have HB := hidMk (And.intro (p1.below b2) (And.intro p2 (b1.trans (b2.mono b1.size))))
  have HW := hidMk (And.intro hw1 hw2)
  clear p1 b1 z1 p2 b2 hw1 hw2
  show Calls Tryz.prog 35 #[.agg x.c.toArray, .agg y.c.toArray] w _
  go_enter Tryz.func35, Tryz.ntmps35
  go_upto_region 1 with fail
  rw [HW.out.1, HW.out.2]
  refine samK (b2 := w.heap.size) (b3 := w.heap.size + 1) (x := x) (y := y) (fun W => VaAt W w.heap.size x ∧ VaAt W (w.heap.size + 1) y ∧ Below w.heap.size w W) _ w2 _ rfl rfl rfl ⟨HB.out.1, HB.out.2.1, HB.out.2.2.drew⟩ hk (fun W q => load_kd q.1) (fun W q => ld_vn q.1) (fun W q => ld_vf q.1) (fun W q => ld_vs q.1) (fun W q => load_kd q.2.1) (fun W q => ld_vn q.2.1) (fun W q => ld_vf q.2.1) (fun W q => ld_vs q.2.1) ?_
  intro a' w3 hf' ha
  have HF := hidMk hf'
  subst ha
  simp only [Act.put, qsA, qsB, qsC]
  clear hf' HB HW
  go_wp2
  go_ret
  exact ⟨rfl, HF.out.2.2⟩
theorem same_n (x y : VaV) (hk : x.k = y.k) (hn : x.n ≠ y.n) (w : World) : Calls Tryz.prog 35 #[x.v, y.v] w fun e w' => e = .returned (.bool false) ∧ Below w.heap.size w w' := by
  obtain ⟨w1, hw1⟩ : ∃ w1, w.alloc (.cells x.c.toArray 40) = w1 := ⟨_, rfl⟩
  obtain ⟨w2, hw2⟩ : ∃ w2, w1.alloc (.cells y.c.toArray 40) = w2 := ⟨_, rfl⟩
  have p1 : VaAt w1 w.heap.size x := by rw [← hw1]; exact heap_alloc_new _ _
  have b1 : Below w.heap.size w w1 := by rw [← hw1]; exact (Below.refl _ _).alloc (Nat.le_refl _) _
  have z1 : w1.heap.size = w.heap.size + 1 := by rw [← hw1]; simp
  have p2 : VaAt w2 (w.heap.size + 1) y := by rw [← hw2, ← z1]; exact heap_alloc_new _ _
  have b2 : Below w1.heap.size w1 w2 := by rw [← hw2]; exact (Below.refl _ _).alloc (Nat.le_refl _) _
  have HB := hidMk (And.intro (p1.below b2) (And.intro p2 (b1.trans (b2.mono b1.size))))
  have HW := hidMk (And.intro hw1 hw2)
  clear p1 b1 z1 p2 b2 hw1 hw2
  show Calls Tryz.prog 35 #[.agg x.c.toArray, .agg y.c.toArray] w _
  go_enter Tryz.func35, Tryz.ntmps35
  go_upto_region 1 with fail
  rw [HW.out.1, HW.out.2]
  refine samN (b2 := w.heap.size) (b3 := w.heap.size + 1) (x := x) (y := y) (fun W => VaAt W w.heap.size x ∧ VaAt W (w.heap.size + 1) y ∧ Below w.heap.size w W) _ w2 _ rfl rfl rfl ⟨HB.out.1, HB.out.2.1, HB.out.2.2.drew⟩ hk hn (fun W q => load_kd q.1) (fun W q => ld_vn q.1) (fun W q => ld_vf q.1) (fun W q => ld_vs q.1) (fun W q => load_kd q.2.1) (fun W q => ld_vn q.2.1) (fun W q => ld_vf q.2.1) (fun W q => ld_vs q.2.1) ?_
  intro a' w3 hf' ha
  have HF := hidMk hf'
  subst ha
  simp only [Act.put, qsA, qsB, qsC]
  clear hf' HB HW
  go_wp2
  go_ret
  exact ⟨rfl, HF.out.2.2⟩
theorem same_f (x y : VaV) (hk : x.k = y.k) (hn : x.n = y.n) (hf : (x.f : Int) ≠ (y.f : Int)) (w : World) : Calls Tryz.prog 35 #[x.v, y.v] w fun e w' => e = .returned (.bool false) ∧ Below w.heap.size w w' := by
  obtain ⟨w1, hw1⟩ : ∃ w1, w.alloc (.cells x.c.toArray 40) = w1 := ⟨_, rfl⟩
  obtain ⟨w2, hw2⟩ : ∃ w2, w1.alloc (.cells y.c.toArray 40) = w2 := ⟨_, rfl⟩
  have p1 : VaAt w1 w.heap.size x := by rw [← hw1]; exact heap_alloc_new _ _
  have b1 : Below w.heap.size w w1 := by rw [← hw1]; exact (Below.refl _ _).alloc (Nat.le_refl _) _
  have z1 : w1.heap.size = w.heap.size + 1 := by rw [← hw1]; simp
  have p2 : VaAt w2 (w.heap.size + 1) y := by rw [← hw2, ← z1]; exact heap_alloc_new _ _
  have b2 : Below w1.heap.size w1 w2 := by rw [← hw2]; exact (Below.refl _ _).alloc (Nat.le_refl _) _
  have HB := hidMk (And.intro (p1.below b2) (And.intro p2 (b1.trans (b2.mono b1.size))))
  have HW := hidMk (And.intro hw1 hw2)
  clear p1 b1 z1 p2 b2 hw1 hw2
  show Calls Tryz.prog 35 #[.agg x.c.toArray, .agg y.c.toArray] w _
  go_enter Tryz.func35, Tryz.ntmps35
  go_upto_region 1 with fail
  rw [HW.out.1, HW.out.2]
  refine samF (b2 := w.heap.size) (b3 := w.heap.size + 1) (x := x) (y := y) (fun W => VaAt W w.heap.size x ∧ VaAt W (w.heap.size + 1) y ∧ Below w.heap.size w W) _ w2 _ rfl rfl rfl ⟨HB.out.1, HB.out.2.1, HB.out.2.2.drew⟩ hk hn hf (fun W q => load_kd q.1) (fun W q => ld_vn q.1) (fun W q => ld_vf q.1) (fun W q => ld_vs q.1) (fun W q => load_kd q.2.1) (fun W q => ld_vn q.2.1) (fun W q => ld_vf q.2.1) (fun W q => ld_vs q.2.1) ?_
  intro a' w3 hf' ha
  have HF := hidMk hf'
  subst ha
  simp only [Act.put, qsA, qsB, qsC]
  clear hf' HB HW
  go_wp2
  go_ret
  exact ⟨rfl, HF.out.2.2⟩
theorem same_s (x y : VaV) (hk : x.k = y.k) (hn : x.n = y.n) (hf : (x.f : Int) = (y.f : Int)) {r : Bool} (hr : decide (x.s = y.s) = r) (w : World) : Calls Tryz.prog 35 #[x.v, y.v] w fun e w' => e = .returned (.bool r) ∧ Below w.heap.size w w' := by
  obtain ⟨w1, hw1⟩ : ∃ w1, w.alloc (.cells x.c.toArray 40) = w1 := ⟨_, rfl⟩
  obtain ⟨w2, hw2⟩ : ∃ w2, w1.alloc (.cells y.c.toArray 40) = w2 := ⟨_, rfl⟩
  have p1 : VaAt w1 w.heap.size x := by rw [← hw1]; exact heap_alloc_new _ _
  have b1 : Below w.heap.size w w1 := by rw [← hw1]; exact (Below.refl _ _).alloc (Nat.le_refl _) _
  have z1 : w1.heap.size = w.heap.size + 1 := by rw [← hw1]; simp
  have p2 : VaAt w2 (w.heap.size + 1) y := by rw [← hw2, ← z1]; exact heap_alloc_new _ _
  have b2 : Below w1.heap.size w1 w2 := by rw [← hw2]; exact (Below.refl _ _).alloc (Nat.le_refl _) _
  have HB := hidMk (And.intro (p1.below b2) (And.intro p2 (b1.trans (b2.mono b1.size))))
  have HW := hidMk (And.intro hw1 hw2)
  clear p1 b1 z1 p2 b2 hw1 hw2
  show Calls Tryz.prog 35 #[.agg x.c.toArray, .agg y.c.toArray] w _
  go_enter Tryz.func35, Tryz.ntmps35
  go_upto_region 1 with fail
  rw [HW.out.1, HW.out.2]
  refine samS (b2 := w.heap.size) (b3 := w.heap.size + 1) (x := x) (y := y) (fun W => VaAt W w.heap.size x ∧ VaAt W (w.heap.size + 1) y ∧ Below w.heap.size w W) _ w2 _ rfl rfl rfl ⟨HB.out.1, HB.out.2.1, HB.out.2.2.drew⟩ hk hn hf hr (fun W q => load_kd q.1) (fun W q => ld_vn q.1) (fun W q => ld_vf q.1) (fun W q => ld_vs q.1) (fun W q => load_kd q.2.1) (fun W q => ld_vn q.2.1) (fun W q => ld_vf q.2.1) (fun W q => ld_vs q.2.1) ?_
  intro a' w3 hf' ha
  have HF := hidMk hf'
  subst ha
  simp only [Act.put, qsA, qsB, qsC]
  clear hf' HB HW
  go_wp2
  go_ret
  exact ⟨rfl, HF.out.2.2⟩
theorem same_of (x y : VaV) (w : World) : Calls Tryz.prog 35 #[x.v, y.v] w fun e w' => e = .returned (.bool (decide (x = y))) ∧ Below w.heap.size w w' := by
  by_cases hk : x.k = y.k
  · by_cases hn : x.n = y.n
    · by_cases hf : (x.f : Int) = (y.f : Int)
      · have e : decide (x.s = y.s) = decide (x = y) := by
          refine decide_eq_decide.2 ⟨fun h => ?_, fun h => by rw [h]⟩
          obtain ⟨k, n, f, s⟩ := x
          obtain ⟨k', n', f', s'⟩ := y
          simp only at hk hn hf h
          have : f = f' := by omega
          subst this hk hn h
          rfl
        exact same_s x y hk hn hf e w
      · rw [decide_eq_false fun e : x = y => hf (by rw [e])]
        exact same_f x y hk hn hf w
    · rw [decide_eq_false fun e : x = y => hn (by rw [e])]
      exact same_n x y hk hn w
  · rw [decide_eq_false fun e : x = y => hk (by rw [e])]
    exact same_k x y hk w
end Go.Proofs.YtifendlpeebofaaGreatDoor
namespace Go.Proofs.YtifendlpeebofaaGreatDoor
open Go.RowKit
def cmp1_ops : Array Oper := (⟨_, rfl⟩ : {o // some o = rgB Tryz.f34 1}).1
theorem cmp1 {b2 b3 : Nat} {x y : VaV} {r : Bool} (S Fin : World → Prop) (a : Act) (w : World) (Q : Exit → Act → World → Prop) (zz : a.tmps.size = 50)
    (t2 : a.tmps.getD 2 undef = .pointer (some ⟨b2, 0, none⟩))
    (t3 : a.tmps.getD 3 undef = .pointer (some ⟨b3, 0, none⟩))
    (h0 : S w) (La : ∀ W, S W → (Instr.loadAt 40 (.pointer (some ⟨b2, 0, none⟩))).run Tryz.prog W = .ok (x.v) W) (Lb : ∀ W, S W → (Instr.loadAt 40 (.pointer (some ⟨b3, 0, none⟩))).run Tryz.prog W = .ok (y.v) W) (CA : Calls Tryz.prog 67 #[x.v] w fun e w1 => e = .returned (.bool true) ∧ S w1 ∧ Calls Tryz.prog 67 #[y.v] w1 fun e w2 => e = .returned (.bool true) ∧ S w2 ∧ Calls Tryz.prog 35 #[x.v, y.v] w2 fun e w3 => e = .returned (.bool r) ∧ Fin w3)
    (h : ∀ a' w', Fin w' → a' = (((((((((((((a.put (some 6) (x.v)).put (some 7) (.bool true)).put (some 8) (.bool false)).put (some 9) (.bool false)).put (some 10) (y.v)).put (some 11) (.bool true)).put (some 12) (.bool false)).put (some 13) (.bool false)).put (some 14) (.bool false)).put (some 15) (x.v)).put (some 16) (y.v)).put (some 17) (.bool r)).put (some 18) (.bool r)).put (some 5) (.bool r) → Q .normal a' w') :
    (Code.region 1 cmp1_ops false).wp Tryz.prog Q a w := by
  refine z0 rfl ?_
  refine zv rfl (xld rfl (zi t2 rfl) (La _ h0)) ?_
  refine zc rfl (exec_c1 rfl (zg zz rfl)) (CA) (fun e x1 hx => ?_)
  obtain ⟨rfl, S0, CB⟩ := hx
  refine ⟨_, rfl, ?_⟩
  refine zv rfl (exec_not rfl (zg zz rfl)) ?_
  refine zv rfl (xmv rfl (zg zz rfl)) ?_
  refine zv (zw zz rfl rfl rfl (zg zz rfl)) (xld rfl (zi t3 rfl) (Lb _ S0)) ?_
  refine zc (zw zz rfl rfl rfl (zg zz rfl)) (exec_c1 rfl (zg zz rfl)) (CB) (fun e x5 hx => ?_)
  obtain ⟨rfl, S1, CC⟩ := hx
  refine ⟨_, rfl, ?_⟩
  refine zv (zw zz rfl rfl rfl (zg zz rfl)) (exec_not rfl (zg zz rfl)) ?_
  refine zv rfl (exec_pickF rfl (zg zz rfl) (zg zz rfl)) ?_
  refine zv rfl (xmv rfl (zg zz rfl)) ?_
  refine zv (zw zz rfl rfl rfl (zg zz rfl)) (xld rfl (zi t2 rfl) (La _ S1)) ?_
  refine zv (zw zz rfl rfl rfl (zg zz rfl)) (xld rfl (zi t3 rfl) (Lb _ S1)) ?_
  refine zc (zw zz rfl rfl rfl (zg zz rfl)) (exec_c2 rfl (zg zz rfl) (zg zz rfl)) (CC) (fun e x11 hx => ?_)
  obtain ⟨rfl, HF⟩ := hx
  refine ⟨_, rfl, ?_⟩
  refine zv rfl (exec_pickF rfl (zg zz rfl) (zg zz rfl)) ?_
  refine zv rfl (xas rfl (zg zz rfl)) ?_
  exact ze rfl (h _ _ (HF) rfl)
end Go.Proofs.YtifendlpeebofaaGreatDoor
namespace Go.Proofs.YtifendlpeebofaaGreatDoor
open Go.RowKit Go.Shelf Sq
attribute [local go_sem] Oper.semAt_some
theorem refright {x : VaV} (hx : x.ok) (w : World) : Calls Tryz.prog 67 #[x.v] w fun e w' => e = .returned (.bool x.right) ∧ Below w.heap.size w w' :=
  K.V.right27_any x.k x.n x.f x.s w hx.k0 hx.ff (Nat.le_trans hx.ss (by decide))
theorem refcmp {x y : VaV} (hx : x.ok) (hy : y.ok) (rx : x.right = true) (ry : y.right = true) (w : World) : Calls Tryz.prog 34 #[x.v, y.v] w fun e w' => (∃ c : Int, e = .returned (.int .i64 c) ∧ (c = 0 ↔ x = y)) ∧ Below w.heap.size w w' := by
  obtain ⟨w1, hw1⟩ : ∃ w1, w.alloc (.cells x.c.toArray 40) = w1 := ⟨_, rfl⟩
  obtain ⟨w2, hw2⟩ : ∃ w2, w1.alloc (.cells y.c.toArray 40) = w2 := ⟨_, rfl⟩
  have p1 : VaAt w1 w.heap.size x := by rw [← hw1]; exact heap_alloc_new _ _
  have b1 : Below w.heap.size w w1 := by rw [← hw1]; exact (Below.refl _ _).alloc (Nat.le_refl _) _
  have z1 : w1.heap.size = w.heap.size + 1 := by rw [← hw1]; simp
  have p2 : VaAt w2 (w.heap.size + 1) y := by rw [← hw2, ← z1]; exact heap_alloc_new _ _
  have b2 : Below w1.heap.size w1 w2 := by rw [← hw2]; exact (Below.refl _ _).alloc (Nat.le_refl _) _
  have q1 := p1.below b2
  have bb := b1.trans (b2.mono b1.size)
  have CA := (refright hx w2).mono fun e w3 (h : _ ∧ _) => (And.intro h.1 (And.intro (And.intro (q1.below h.2) (And.intro (p2.below h.2) (bb.trans (h.2.mono bb.size)))) ((refright hy w3).mono fun e w4 (g : _ ∧ _) => (And.intro g.1 (And.intro (And.intro ((q1.below h.2).below g.2) (And.intro ((p2.below h.2).below g.2) ((bb.trans (h.2.mono bb.size)).trans (g.2.mono (bb.trans (h.2.mono bb.size)).size)))) ((same_of x y w4).mono fun e w5 (f : _ ∧ _) => (And.intro f.1 (And.intro (((q1.below h.2).below g.2).below f.2) (And.intro (((p2.below h.2).below g.2).below f.2) (((bb.trans (h.2.mono bb.size)).trans (g.2.mono (bb.trans (h.2.mono bb.size)).size)).trans (f.2.mono ((bb.trans (h.2.mono bb.size)).trans (g.2.mono (bb.trans (h.2.mono bb.size)).size)).size)))))))))))
  rw [rx, ry] at CA
  have HC := hidMk CA
  have HB := hidMk (And.intro q1 (And.intro p2 bb))
  have HW := hidMk (And.intro hw1 hw2)
  clear p1 b1 z1 p2 b2 hw1 hw2 q1 bb CA hx hy rx ry
  show Calls Tryz.prog 34 #[.agg x.c.toArray, .agg y.c.toArray] w _
  go_enter Tryz.func34, Tryz.ntmps34
  go_upto_region 1 with fail
  rw [HW.out.1, HW.out.2]
  refine cmp1 (b2 := w.heap.size) (b3 := w.heap.size + 1) (x := x) (y := y) (r := decide (x = y)) (fun W => VaAt W w.heap.size x ∧ VaAt W (w.heap.size + 1) y ∧ Below w.heap.size w W) (fun W => VaAt W w.heap.size x ∧ VaAt W (w.heap.size + 1) y ∧ Below w.heap.size w W) _ w2 _ rfl rfl rfl HB.out (fun W q => load_va q.1) (fun W q => load_va q.2.1) HC.out ?_
  intro a' w3 hf ha
  obtain ⟨A, B, C⟩ := hf
  have HF := hidMk C
  subst ha
  simp only [Act.put, qsA, qsB, qsC]
  clear HB HW HC C
  by_cases e : x = y
  · rw [decide_eq_true e]
    have E := hidMk e
    clear e
    go_wp2
    go_ret
    exact ⟨⟨0, rfl, by simpa using E.out⟩, HF.out⟩
  · rw [decide_eq_false e]
    have E := hidMk e
    clear e
    have c0 : w3.cell? ⟨w.heap.size, 0, none⟩ = some (.int .u8 x.k) := (cell_of_row w3 _ 0 _ _ _ A).trans rfl
    have c1 : w3.cell? ⟨w.heap.size, 1, none⟩ = some (.int .i64 x.n) := (cell_of_row w3 _ 1 _ _ _ A).trans rfl
    have c2 : w3.cell? ⟨w.heap.size, 2, none⟩ = some (.float .f64 x.f) := (cell_of_row w3 _ 2 _ _ _ A).trans rfl
    have c3 : w3.cell? ⟨w.heap.size, 3, none⟩ = some (.string x.s) := (cell_of_row w3 _ 3 _ _ _ A).trans rfl
    have d0 : w3.cell? ⟨w.heap.size + 1, 0, none⟩ = some (.int .u8 y.k) := (cell_of_row w3 _ 0 _ _ _ B).trans rfl
    have d1 : w3.cell? ⟨w.heap.size + 1, 1, none⟩ = some (.int .i64 y.n) := (cell_of_row w3 _ 1 _ _ _ B).trans rfl
    have d2 : w3.cell? ⟨w.heap.size + 1, 2, none⟩ = some (.float .f64 y.f) := (cell_of_row w3 _ 2 _ _ _ B).trans rfl
    have d3 : w3.cell? ⟨w.heap.size + 1, 3, none⟩ = some (.string y.s) := (cell_of_row w3 _ 3 _ _ _ B).trans rfl
    clear A B
    go_wp2
    all_goals try (go_ret; exact ⟨⟨_, rfl, ⟨fun q => absurd q (by decide), fun q => absurd q E.out⟩⟩, HF.out⟩)
    all_goals try (rename_i HK; refine HK _ _ ?_; go_wp2; go_ret; exact ⟨⟨_, rfl, ⟨fun q => absurd q (by decide), fun q => absurd q E.out⟩⟩, HF.out⟩)
end Go.Proofs.YtifendlpeebofaaGreatDoor
