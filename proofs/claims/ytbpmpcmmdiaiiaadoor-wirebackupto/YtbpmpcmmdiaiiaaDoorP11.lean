import Derived.Test.YtbpmpcmmdiaiiaaDoorP10
import Derived.Test.YtbpmpcmmdiaiiaaDoorP7
import Derived.Test.YtbpmpcmmdiaiiaaDoorP9
import Derived.Test.YtbpmpcmmdiaiiaaDoorP2
import Derived.Test.YtbpmpcmmdiaiiaaDoorP3
import Derived.Lib.ValidLaws
namespace Go.Proofs.YtbpmpcmmdiaiiaaDoor.K
open Go.RowKit
set_option linter.unusedVariables false
set_option linter.unusedSimpArgs false

variable {T : TypeId} {r cap : Nat} {a : Option Addr} {L : List UInt8} {s : St}
/-- A read that has met a fault: it stays where it was. -/
def Flt (w w' : World) (T : TypeId) (r : Nat) (a : Option Addr) (cap : Nat) (L : List UInt8) (s : St) : Prop := ∃ s' : St, s'.bad ≠ 0 ∧ s'.k = s.k ∧ On w w' T r a cap L s'
theorem flt_mk {w w' : World} {e p : Int} (h : On w w' T r a cap L ⟨s.k, e, p⟩) (he : e ≠ 0) : Flt w w' T r a cap L s := ⟨⟨s.k, e, p⟩, he, rfl, h⟩
def Fits (L : List UInt8) (k : Nat) (most : Int) (u : Nat) : Prop := (num L k).why = 0 ∧ 0 ≤ most ∧ ((num L k).v : Int) ≤ most ∧ k + (num L k).size + (num L k).v * u ≤ L.length
set_option maxRecDepth 100000 in
set_option maxHeartbeats 2000000 in
theorem counted_no (u : Nat) (hu : u = 1 ∨ u = 32) (most : Int) (hm0 : -9223372036854775808 ≤ most) (hm : most < 9223372036854775808) (w : World) (h : RD w T r a cap L s) (hb : s.bad = 0) (hno : ¬ Fits L s.k most u) :
    Calls Tryd.prog 61 #[.pointer (some ⟨r, 0, none⟩), .int .i64 most, .int .i64 (u : Int)] w fun e w' => e = .returned (.tuple #[.slice none 0 0, .int .i64 0, .bool false]) ∧ Flt w w' T r a cap L s := by
  have HN := Hid.mk' (number_any w h hb)
  have hok := num_ok L s.k h.at_le
  have HAt := Hid.mk' (fun (wx : World) (hx : On w wx T r a cap L s) => cat_any wx hx.1)
  have HL := Hid.mk' (fun (wx : World) (hx : On w wx T r a cap L s) => cleft_any wx hx.1)
  have hf := h.few
  have hr := h.room
  unfold Fits at hno
  generalize num L s.k = N at *
  obtain ⟨v, sz, why, pl⟩ := N
  simp only at HN hok hno ⊢
  by_cases h1 : why = 0
  · subst h1
    have HN' : Hid (Calls Tryd.prog 59 #[.pointer (some ⟨r, 0, none⟩)] w fun e w' => e = .returned (.tuple #[.int .u64 (v : Int), .int .i64 (sz : Int), .bool true]) ∧ On w w' T r a cap L s) := HN.out.mono fun e w' hx => by
      rw [St.fl_ok] at hx
      exact hx
    obtain ⟨k1, k2, k3⟩ := hok.1 rfl
    clear HN h hok
    by_cases h2 : 0 ≤ most ∧ (v : Int) ≤ most
    · have h3 : ¬ s.k + sz + v * u ≤ L.length := fun h3 => hno ⟨rfl, h2.1, h2.2, h3⟩
      have HK := Hid.mk' (keep_on (a := a) (cap := cap) (L := L) (T := T) (r := r) w hb 20 (L.length : Int) (by decide))
      have g1 : ¬ most < 0 := by omega
      have g2 : ¬ most < (v : Int) := by omega
      obtain ⟨d, hd⟩ : ∃ d, d = (L.length - (s.k + sz)) / u := ⟨_, rfl⟩
      have hdu : d < v := by
        rcases hu with rfl | rfl
        · rw [hd]; omega
        · rw [hd]; omega
      have hdL : d ≤ L.length := by rcases hu with rfl | rfl <;> omega
      have tq : Int.tdiv ((L.length : Int) - (s.k : Int) - (sz : Int)) (u : Int) = (d : Int) := by
        rw [Int.tdiv_eq_ediv_of_nonneg (by omega)]
        rcases hu with rfl | rfl <;> omega
      have g3 : (d : Int) < (v : Int) := by omega
      have hq : ((u : Nat) : Int) ≠ 0 := by omega
      have hlim : (L.length : Int) - (s.k : Int) - (sz : Int) < 9223372036854775808 := by omega
      rcases hu with rfl | rfl
      · clear hd hno h3 h2
        have g4 : ((L.length : Int) - (s.k : Int) - (sz : Int)) < (v : Int) := by
          have e : Int.tdiv ((L.length : Int) - (s.k : Int) - (sz : Int)) 1 = (L.length : Int) - (s.k : Int) - (sz : Int) := by rw [Int.tdiv_eq_ediv_of_nonneg (by omega)]; omega
          have := tq
          rw [show ((1 : Nat) : Int) = 1 from rfl, e] at this
          omega
        rw [show ((1 : Nat) : Int) = 1 from rfl]
        go_enter Tryd.func61, Tryd.ntmps61
        go_wp2_with fail
        refine HN'.out.mono ?_
        rintro e w1 ⟨rfl, ho⟩
        have HON := Hid.mk' ho
        have c0 := ho.1.c0
        have c1 := ho.1.c1
        clear ho
        go_wp2_with fail
        refine (HL.out w1 HON.out).mono ?_
        rintro e w2 ⟨rfl, m, hw2⟩
        have HON2 : Hid (On w w2 T r a cap L s) := by show On _ _ _ _ _ _ _ _; rw [hw2]; exact HON.out.drew m
        have c0' := HON2.out.1.c0
        clear hw2 HON c0 c1
        go_wp2_with fail
        refine (HK.out w2 HON2.out).mono ?_
        rintro e w3 ⟨rfl, ho⟩
        have HO2 := Hid.mk' ho
        clear ho
        go_wp2
        go_ret3
        exact ⟨rfl, flt_mk HO2.out (by decide)⟩
      · clear hd hno h3 h2
        rw [show ((32 : Nat) : Int) = 32 from rfl] at tq ⊢
        go_enter Tryd.func61, Tryd.ntmps61
        go_wp2_with fail
        refine HN'.out.mono ?_
        rintro e w1 ⟨rfl, ho⟩
        have HON := Hid.mk' ho
        have c0 := ho.1.c0
        have c1 := ho.1.c1
        clear ho
        go_wp2_with fail
        refine (HL.out w1 HON.out).mono ?_
        rintro e w2 ⟨rfl, m, hw2⟩
        have HON2 : Hid (On w w2 T r a cap L s) := by show On _ _ _ _ _ _ _ _; rw [hw2]; exact HON.out.drew m
        have c0' := HON2.out.1.c0
        clear hw2 HON c0 c1
        go_wp2_with fail
        refine (HK.out w2 HON2.out).mono ?_
        rintro e w3 ⟨rfl, ho⟩
        have HO2 := Hid.mk' ho
        clear ho
        go_wp2
        go_ret3
        exact ⟨rfl, flt_mk HO2.out (by decide)⟩
    · have HK := Hid.mk' (keep_on (a := a) (cap := cap) (L := L) (T := T) (r := r) w hb 6 (s.k : Int) (by decide))
      by_cases g1 : most < 0
      · go_enter Tryd.func61, Tryd.ntmps61
        go_wp2_with fail
        refine HN'.out.mono ?_
        rintro e w1 ⟨rfl, ho⟩
        have HON := Hid.mk' ho
        clear ho
        go_wp2_with fail
        refine (HAt.out w1 HON.out).mono ?_
        rintro e w2 ⟨rfl, hw2⟩
        subst hw2
        go_wp2_with fail
        refine (HK.out w2 HON.out).mono ?_
        rintro e w3 ⟨rfl, ho⟩
        have HO2 := Hid.mk' ho
        clear ho
        go_wp2
        go_ret3
        exact ⟨rfl, flt_mk HO2.out (by decide)⟩
      · have g2 : most < (v : Int) := by omega
        go_enter Tryd.func61, Tryd.ntmps61
        go_wp2_with fail
        refine HN'.out.mono ?_
        rintro e w1 ⟨rfl, ho⟩
        have HON := Hid.mk' ho
        clear ho
        go_wp2_with fail
        refine (HAt.out w1 HON.out).mono ?_
        rintro e w2 ⟨rfl, hw2⟩
        subst hw2
        go_wp2_with fail
        refine (HK.out w2 HON.out).mono ?_
        rintro e w3 ⟨rfl, ho⟩
        have HO2 := Hid.mk' ho
        clear ho
        go_wp2
        go_ret3
        exact ⟨rfl, flt_mk HO2.out (by decide)⟩
  · have HN' : Hid (Calls Tryd.prog 59 #[.pointer (some ⟨r, 0, none⟩)] w fun e w' => e = .returned (.tuple #[.int .u64 (v : Int), .int .i64 (sz : Int), .bool false]) ∧ On w w' T r a cap L ⟨s.k, why, pl⟩) := HN.out.mono fun e w' hx => by
      rw [St.fl_new s _ _ hb h1] at hx
      rw [show decide (why = 0) = false by simp [h1]] at hx
      exact hx
    have H1 := Hid.mk' h1
    clear HN h
    go_enter Tryd.func61, Tryd.ntmps61
    go_wp2_with fail
    refine HN'.out.mono ?_
    rintro e w1 ⟨rfl, ho⟩
    have HO2 := Hid.mk' ho
    clear ho
    go_wp2
    go_ret3
    exact ⟨rfl, flt_mk HO2.out H1.out⟩
set_option maxRecDepth 100000 in
theorem raw_no (most : Int) (hm0 : -9223372036854775808 ≤ most) (hm : most < 9223372036854775808) (w : World) (h : RD w T r a cap L s) (hb : s.bad = 0) (hno : ¬ Fits L s.k most 1) :
    Calls Tryd.prog 45 #[.pointer (some ⟨r, 0, none⟩), .int .i64 most] w fun e w' => e = .returned (.slice none 0 0) ∧ Flt w w' T r a cap L s := by
  have HS := Hid.mk' (stopped_any w h)
  rw [show decide (s.bad ≠ 0) = false by simp [hb]] at HS
  have HC : Hid (Calls Tryd.prog 61 #[.pointer (some ⟨r, 0, none⟩), .int .i64 most, .int .i64 1] w fun e w' => e = .returned (.tuple #[.slice none 0 0, .int .i64 0, .bool false]) ∧ Flt w w' T r a cap L s) := counted_no 1 (.inl rfl) most hm0 hm w h hb hno
  clear h hno
  go_enter Tryd.func45, Tryd.ntmps45
  go_wp2_with fail
  refine HS.out.mono ?_
  rintro e w1 ⟨rfl, hw1⟩
  subst hw1
  go_wp2_with fail
  refine HC.out.mono ?_
  rintro e w2 ⟨rfl, ho⟩
  have HO := Hid.mk' ho
  clear ho
  go_wp2
  go_ret
  exact ⟨rfl, HO.out⟩
set_option maxRecDepth 100000 in
theorem text_no (most : Int) (hm0 : -9223372036854775808 ≤ most) (hm : most < 9223372036854775808) (w : World) (h : RD w T r a cap L s) (hb : s.bad = 0) (hno : ¬ Fits L s.k most 1) :
    Calls Tryd.prog 26 #[.pointer (some ⟨r, 0, none⟩), .int .i64 most] w fun e w' => e = .returned (.string ⟨#[]⟩) ∧ Flt w w' T r a cap L s := by
  have HS := Hid.mk' (stopped_any w h)
  rw [show decide (s.bad ≠ 0) = false by simp [hb]] at HS
  have HC : Hid (Calls Tryd.prog 61 #[.pointer (some ⟨r, 0, none⟩), .int .i64 most, .int .i64 1] w fun e w' => e = .returned (.tuple #[.slice none 0 0, .int .i64 0, .bool false]) ∧ Flt w w' T r a cap L s) := counted_no 1 (.inl rfl) most hm0 hm w h hb hno
  clear h hno
  go_enter Tryd.func26, Tryd.ntmps26
  go_wp2_with fail
  refine HS.out.mono ?_
  rintro e w1 ⟨rfl, hw1⟩
  subst hw1
  go_wp2_with fail
  refine HC.out.mono ?_
  rintro e w2 ⟨rfl, ho⟩
  have HO := Hid.mk' ho
  clear ho
  go_wp2
  go_ret
  exact ⟨rfl, HO.out⟩
end Go.Proofs.YtbpmpcmmdiaiiaaDoor.K

namespace Go.Proofs.YtbpmpcmmdiaiiaaDoor
open Go.RowKit
set_option linter.unusedVariables false
set_option linter.unusedSimpArgs false

/-- What Reader.Hash answers. -/
def rHash (L : List UInt8) (s : K.St) : List UInt8 × K.St := if s.bad = 0 then (if s.k + 32 ≤ L.length then ((L.drop s.k).take 32, ⟨s.k + 32, s.bad, s.wh⟩) else (z32, ⟨s.k, 20, L.length⟩)) else (z32, s)
theorem resRHash (tmps : Array Value) (w : World) (g : Nat) (t : TypeId) (l : List UInt8) (hl : l.length = 32) (fr : Nat × Nat) (j : Nat) (hj : j = 2) (hp : tmps.getD j undef = .pointer (some ⟨g, 0, none⟩)) (hg : w.heap[g]? = some (.cells (bs l) t fr)) :
    (results Tryd.f46 tmps).run Tryd.prog w = .ok (.agg (bs l)) w := by
  subst hj
  exact results_cell_row Tryd.results46 tmps w g t (bs l) fr _ hp hg Tryd.underlying31 rfl (by rw [bs_size, hl]; exact hsH)
variable {T : TypeId} {r cap : Nat} {a : Option Addr} {L : List UInt8} {s : K.St}
theorem RD_b {w w' : World} (h : K.RD w T r a cap L s) (hb : Below w.heap.size w w') : K.RD w' T r a cap L s :=
  ⟨by rw [hb.block r h.lt]; exact h.row, h.room, K.byt_below h.byt hb, h.plain, h.at_le, h.few⟩
set_option maxRecDepth 100000 in
set_option maxHeartbeats 1000000 in
theorem rhash_any (w : World) (h : K.RD w T r a cap L s) :
    Calls Tryd.prog 46 #[.pointer (some ⟨r, 0, none⟩)] w fun e w' => e = .returned (.agg (bs (rHash L s).1)) ∧ K.On w w' T r a cap L (rHash L s).2 := by
  have hzs : (bs z32).size = 32 := by rw [bs_size]; rfl
  have be0 : Below w.heap.size w (w.alloc (.cells (bs z32) 31)) := (Below.refl _ _).alloc (Nat.le_refl _) _
  have h0 : K.RD (w.alloc (.cells (bs z32) 31)) T r a cap L s := RD_b h be0
  have g0 : (w.alloc (.cells (bs z32) 31)).heap[w.heap.size]? = some (.cells (bs z32) 31 (0, 0)) := heap_alloc_new _ _
  have hrl := h.lt
  have ON0 : K.On w (w.alloc (.cells (bs z32) 31)) T r a cap L s := ⟨h0, K.Fr.of_below be0⟩
  generalize hW : w.alloc (.cells (bs z32) 31) = W at *
  have HS : Hid (Calls Tryd.prog 58 #[.pointer (some ⟨r, 0, none⟩)] W fun e w' => e = .returned (.bool (decide (s.bad ≠ 0))) ∧ w' = W) := K.stopped_any W h0
  by_cases hb : s.bad = 0
  · rw [show decide (s.bad ≠ 0) = false by simp [hb]] at HS
    by_cases hk : s.k + 32 ≤ L.length
    · obtain ⟨x, hx⟩ : ∃ x, x = (L.drop s.k).take 32 := ⟨_, rfl⟩
      have hx32 : x.length = 32 := by rw [hx]; simp; omega
      have e0 : rHash L s = (x, ⟨s.k + 32, s.bad, s.wh⟩) := by unfold rHash; rw [if_pos hb, if_pos hk, hx]
      rw [e0]
      have HNx : Hid (Calls Tryd.prog 63 #[.pointer (some ⟨r, 0, none⟩), .int .i64 32] W fun e w' => e = .returned (.tuple #[.slice (K.from23 a cap s.k) 32 (cap - s.k), .bool true]) ∧ ∃ m, w' = W.drewN m) := K.next_ok 32 W h0 hk
      obtain ⟨b, off, rfl, hcell⟩ : ∃ b off, a = some ⟨b, off, none⟩ ∧ ∀ j, j < L.length → W.cell? ⟨b, off + j, none⟩ = some (.int .u8 (K.at8 L j)) := by
        rcases h0.byt with e | h
        · rw [e] at hk; simp at hk
        · exact h
      have hbr : b ≠ r := (h0.plain _ rfl).2
      have hbW : b < W.heap.size := block_lt_of_cell (hcell 0 (by omega))
      have hroom := h0.room
      have e1 : K.from23 (some ⟨b, off, none⟩) cap s.k = some ⟨b, off + s.k, none⟩ := by
        unfold K.from23
        rw [if_neg (by omega)]
        simp [Addr.add_mid]
      rw [e1] at HNx
      have HO : Hid (∀ m, K.On w ((W.drewN m).setCell ⟨r, 1, none⟩ (.int .i64 ((s.k : Int) + 32))) T r (some ⟨b, off, none⟩) cap L ⟨s.k + 32, s.bad, s.wh⟩) := fun m => (ON0.drew m).set1 (s.k + 32) _ (by omega) hk
      have HG : Hid (∀ m, ((W.drewN m).setCell ⟨r, 1, none⟩ (.int .i64 ((s.k : Int) + 32))).heap[w.heap.size]? = some (.cells (bs z32) 31 (0, 0))) := fun m => by
        have : ((W.drewN m).setCell ⟨r, 1, none⟩ (.int .i64 ((s.k : Int) + 32))).heap[w.heap.size]? = (W.drewN m).heap[w.heap.size]? := Below.heap_setCell _ _ _ _ (by show w.heap.size ≠ r; omega)
        rw [this]
        exact g0
      have HH : Hid (∀ m, Calls Tryd.prog 71 #[.slice (some ⟨b, off + s.k, none⟩) 32 (cap - s.k)] ((W.drewN m).setCell ⟨r, 1, none⟩ (.int .i64 ((s.k : Int) + 32))) fun e w' => e = .returned (.agg (bs x)) ∧ Below ((W.drewN m).setCell ⟨r, 1, none⟩ (.int .i64 ((s.k : Int) + 32))).heap.size ((W.drewN m).setCell ⟨r, 1, none⟩ (.int .i64 ((s.k : Int) + 32))) w') := fun m => (by
        have := hashOf_any b (off + s.k) 32 (cap - s.k) x ((W.drewN m).setCell ⟨r, 1, none⟩ (.int .i64 ((s.k : Int) + 32))) hx32 (Nat.le_refl _) (fun j hj => by
          rw [World.cell?_setCell_far _ ⟨r, 1, none⟩ _ _ (by show r ≠ b; omega)]
          show W.cell? _ = _
          rw [show off + s.k + j = off + (s.k + j) by omega, hcell _ (by omega), hx]
          unfold K.at8
          simp [List.getElem?_take, show j < 32 by omega]) (by rw [World.size_setCell]; exact hbW)
        rwa [List.take_of_length_le (by omega)] at this)
      have c1 := h0.c1
      have f1 := h0.fz 1
      have hf := h0.few
      have h9 : Hid (K.RD w T r (some ⟨b, off, none⟩) cap L s) := h
      have hWz : w.heap.size < W.heap.size := (Array.getElem?_eq_some_iff.1 g0).1
      clear h h0 e0 e1 g0 ON0 be0 hcell hx
      generalize cap - s.k = c4 at *
      generalize off + s.k = off4 at *
      go_enter Tryd.func46, Tryd.ntmps46
      go_wp2_with (first | (refine wpList_alloc_row rfl 31 rfl (bs z32) (hzH _) ?_; rw [hW]) | fail)
      refine HS.out.mono ?_
      rintro e w1 ⟨rfl, hw1⟩
      subst hw1
      go_wp2_with fail
      refine HNx.out.mono ?_
      rintro e w2 ⟨rfl, m, rfl⟩
      go_wp2_with fail
      refine (HH.out m).mono ?_
      rintro e w3 ⟨rfl, bl3⟩
      have on3 := on_below h9.out (HO.out m) bl3 (by rw [World.size_setCell]; show w.heap.size ≤ w1.heap.size; omega)
      have g3 : w3.heap[w.heap.size]? = some (.cells (bs z32) 31 (0, 0)) := by rw [bl3.block w.heap.size (by rw [World.size_setCell]; exact hWz)]; exact HG.out m
      have HO4 : Hid (K.On w (w3.setRow w.heap.size (bs x)) T r (some ⟨b, off, none⟩) cap L ⟨s.k + 32, s.bad, s.wh⟩) := on_below h9.out on3 (below_setRow _ _ _ _ (Nat.le_refl _)) (Nat.le_refl _)
      clear on3 bl3
      go_wp2_with (first
        | (refine wpList_store_row rfl 31 _ _ rfl w.heap.size (bs x) rfl rfl 31 (bs z32) g3 (by rw [bs_size, hx32]; exact hsH) (by rw [hzs, bs_size, hx32]) (bs_one _) ?_)
        | fail)
      exact bodyPost_ret (resRHash _ _ w.heap.size 31 x hx32 (0, 0) 2 rfl rfl (setRow_heap _ _ _ _ _ _ g3)) rfl ⟨rfl, HO4.out⟩
    · have e0 : rHash L s = (z32, ⟨s.k, 20, L.length⟩) := by unfold rHash; rw [if_pos hb, if_neg hk]
      rw [e0]
      have HNx : Hid (Calls Tryd.prog 63 #[.pointer (some ⟨r, 0, none⟩), .int .i64 32] W fun e w' => e = .returned (.tuple #[.slice none 0 0, .bool false]) ∧ K.On w w' T r a cap L ⟨s.k, 20, L.length⟩ ∧ w'.heap[w.heap.size]? = some (.cells (bs z32) 31 (0, 0))) := (K.next_no 32 W h0 hb hk (by decide)).mono fun e w' h => ⟨h.1, ⟨h.2.1, ON0.2.trans h.2.2⟩, by rw [h.2.2.block w.heap.size (Array.getElem?_eq_some_iff.1 g0).1 (by omega)]; exact g0⟩
      have h9 : Hid (K.RD w T r a cap L s) := h
      clear h h0 e0 g0 ON0 be0
      go_enter Tryd.func46, Tryd.ntmps46
      go_wp2_with (first | (refine wpList_alloc_row rfl 31 rfl (bs z32) (hzH _) ?_; rw [hW]) | fail)
      refine HS.out.mono ?_
      rintro e w1 ⟨rfl, hw1⟩
      subst hw1
      go_wp2_with fail
      refine HNx.out.mono ?_
      rintro e w2 ⟨rfl, on2, g2⟩
      have HO : Hid (K.On w (w2.setRow w.heap.size (bs z32)) T r a cap L ⟨s.k, 20, L.length⟩) := on_below h9.out on2 (below_setRow _ _ _ _ (Nat.le_refl _)) (Nat.le_refl _)
      clear on2
      go_wp2_with (first
        | (refine wpList_store_row rfl 31 _ _ rfl w.heap.size (bs z32) rfl rfl 31 (bs z32) g2 (by rw [hzs]; exact hsH) rfl (bs_one _) ?_)
        | fail)
      exact bodyPost_ret (resRHash _ _ w.heap.size 31 z32 z32_len (0, 0) 2 rfl rfl (setRow_heap _ _ _ _ _ _ g2)) rfl ⟨rfl, HO.out⟩
  · rw [show decide (s.bad ≠ 0) = true by simp [hb]] at HS
    have e0 : rHash L s = (z32, s) := by unfold rHash; rw [if_neg hb]
    rw [e0]
    have HO : Hid (K.On w (W.setRow w.heap.size (bs z32)) T r a cap L s) := on_below h ON0 (below_setRow _ _ _ _ (Nat.le_refl _)) (Nat.le_refl _)
    clear h h0 e0 ON0 be0
    go_enter Tryd.func46, Tryd.ntmps46
    go_wp2_with (first | (refine wpList_alloc_row rfl 31 rfl (bs z32) (hzH _) ?_; rw [hW]) | fail)
    refine HS.out.mono ?_
    rintro e w1 ⟨rfl, hw1⟩
    subst hw1
    go_wp2_with (first
      | (refine wpList_store_row rfl 31 _ _ rfl w.heap.size (bs z32) rfl rfl 31 (bs z32) g0 (by rw [hzs]; exact hsH) rfl (bs_one _) ?_)
      | fail)
    exact bodyPost_ret (resRHash _ _ w.heap.size 31 z32 z32_len (0, 0) 2 rfl rfl (setRow_heap _ _ _ _ _ _ g0)) rfl ⟨rfl, HO.out⟩
end Go.Proofs.YtbpmpcmmdiaiiaaDoor

namespace Go.Proofs.YtbpmpcmmdiaiiaaDoor
open Go.RowKit
set_option linter.unusedVariables false
set_option linter.unusedSimpArgs false

variable {T : TypeId} {r cap : Nat} {a : Option Addr} {L : List UInt8} {s : K.St}
/-- The hashes that stand at a place. -/
def dch (L : List UInt8) (o n : Nat) : List (List UInt8) := (List.range n).map (fun i => (L.drop (o + i * 32)).take 32)
theorem dch_len (L : List UInt8) (o n : Nat) : (dch L o n).length = n := by simp [dch]
theorem dch_get (L : List UInt8) (o n i : Nat) (hi : i < n) : (dch L o n)[i]? = some ((L.drop (o + i * 32)).take 32) := by simp [dch, hi]
theorem dch_32 (L : List UInt8) (o n : Nat) (h : o + n * 32 ≤ L.length) : All32 (dch L o n) := fun x hx => by
  simp only [dch, List.mem_map, List.mem_range] at hx
  obtain ⟨i, hi, rfl⟩ := hx
  simp
  omega
theorem dch_cat (L : List UInt8) (o : Nat) : ∀ n, o + n * 32 ≤ L.length → cat (dch L o n) = (L.drop o).take (n * 32)
  | 0, _ => by simp [dch, cat]
  | n + 1, h => by
    have ih := dch_cat L o n (by omega)
    have e : dch L o (n + 1) = dch L o n ++ [(L.drop (o + n * 32)).take 32] := by simp [dch, List.range_succ]
    rw [e]
    show (dch L o n ++ [(L.drop (o + n * 32)).take 32]).flatten = _
    rw [List.flatten_append]
    show cat (dch L o n) ++ _ = _
    rw [ih, show (n + 1) * 32 = n * 32 + 32 by omega, List.take_add, List.drop_drop]
    simp
/-- Neighbours that rise make a list that rises. -/
theorem srise_adj {D : List (List UInt8)} (h32 : All32 D) (h : ∀ j x y, D[j]? = some x → D[j + 1]? = some y → cmpL x y < 0) : SRise D := fun i j x y hx hy hij => by
  obtain ⟨d, rfl⟩ : ∃ d, j = i + 1 + d := ⟨j - i - 1, by omega⟩
  induction d generalizing y with
  | zero => exact h i x y hx hy
  | succ d ih =>
    have hlt : i + 1 + d < D.length := by have := (List.getElem?_eq_some_iff.1 hy).1; omega
    obtain ⟨z, hz⟩ : ∃ z, D[i + 1 + d]? = some z := ⟨_, List.getElem?_eq_getElem hlt⟩
    exact lt_trans (h32.get hx) (h32.get hz) (h32.get hy) (ih z hz (by omega)) (h (i + 1 + d) z y hz hy)
set_option maxRecDepth 100000 in
set_option maxHeartbeats 2000000 in
theorem rhashes_gen (most : Nat) (hm : most ≤ 9223372036854775807) (w : World) (h : K.RD w 92 r a cap L s) (hb : s.bad = 0) (n sz : Nat) (pl : Int) (hNum : K.num L s.k = ⟨n, sz, 0, pl⟩) (hDm : n ≤ most) (hfit : s.k + sz + n * 32 ≤ L.length) :
    Calls Tryd.prog 47 #[.pointer (some ⟨r, 0, none⟩), .int .i64 (most : Int)] w fun e w' => (∃ q, e = .returned (.slice (some ⟨q, 0, none⟩) n n) ∧ w.heap.size ≤ q ∧ q < w'.heap.size ∧ Hs w' q 0 (dch L (s.k + sz) n) ∧ SRise (dch L (s.k + sz) n) ∧ K.On w w' 92 r a cap L ⟨s.k + sz + n * 32, s.bad, s.wh⟩) ∨ (e = .returned (.slice none 0 0) ∧ K.Flt w w' 92 r a cap L s) := by
  obtain ⟨D, hDd⟩ : ∃ D, D = dch L (s.k + sz) n := ⟨_, rfl⟩
  have hD : All32 D := by rw [hDd]; exact dch_32 _ _ _ hfit
  have HN : Hid (n = D.length) := by show _ = _; rw [hDd, dch_len]
  have HB : Hid (∀ k x, D[k]? = some x → ((L.drop (s.k + sz + k * 32)).take 32) = x) := fun k x hx => by
    have hk : k < n := by have := (List.getElem?_eq_some_iff.1 hx).1; rw [← HN.out] at this; exact this
    rw [hDd, dch_get _ _ _ _ hk] at hx
    exact Option.some.inj hx
  rw [← hDd]
  clear hDd
  have hfw := h.few
  have HF : Hid (s.k + sz + n * 32 ≤ L.length) := hfit
  have hnb : n ≤ 4398046510976 := by omega
  have HC : Hid (Calls Tryd.prog 61 #[.pointer (some ⟨r, 0, none⟩), .int .i64 (most : Int), .int .i64 32] w fun e w' => e = .returned (.tuple #[.slice (K.from23 a cap (s.k + sz)) (n * 32) (cap - (s.k + sz)), .int .i64 (sz : Int), .bool true]) ∧ K.On w w' 92 r a cap L s) := counted32 most hm w h hb n sz _ hNum hDm hfit
  have HSt : Hid (Calls Tryd.prog 58 #[.pointer (some ⟨r, 0, none⟩)] w fun e w' => e = .returned (.bool false) ∧ w' = w) := (by
    have := K.stopped_any w h
    rw [show decide (s.bad ≠ 0) = false by simp [hb]] at this
    exact this)
  have HR : Hid (K.RD w 92 r a cap L s) := h
  have hsk : s.k ≤ L.length := h.at_le
  clear h hNum
  have hmk := make_hashes n (by omega)
  have tq : Int.tdiv (((n * 32 : Nat) : Int)) 32 = (n : Int) := by rw [Int.tdiv_eq_ediv_of_nonneg (by omega)]; omega
  go_enter Tryd.func47, Tryd.ntmps47
  go_wp2_with fail
  refine HSt.out.mono ?_
  rintro e w0 ⟨rfl, rfl⟩
  go_wp2_with fail
  refine HC.out.mono ?_
  rintro e w1 ⟨rfl, on1⟩
  have HO1 : Hid (K.On w0 w1 92 r a cap L s) := on1
  clear on1 HC HSt
  have HLN : Hid (n * 32 = n * 32) := rfl
  obtain ⟨n32, hn32⟩ : ∃ n32, n32 = n * 32 := ⟨_, rfl⟩
  rw [← hn32] at hfit tq ⊢
  have HN32 : Hid (n32 = n * 32) := hn32
  clear hn32 HLN
  have HS0 : Hid (Hs (w1.alloc (.cells (madeCells (bs z32) (n * 32)) 31)) w1.heap.size 0 (part D n 0)) := (by rw [part_zero]; exact hs_made w1 n 31 : Hs (w1.alloc (.cells (madeCells (bs z32) (n * 32)) 31)) w1.heap.size 0 (part D n 0))
  have HT0 : Hid ((w1.alloc (.cells (madeCells (bs z32) (n * 32)) 31)).there w1.heap.size 0 (32 * n)) := there_made w1 n 31
  have HA0 : Hid (K.On w0 (w1.alloc (.cells (madeCells (bs z32) (n * 32)) 31)) 92 r a cap L s) := on_below HR.out HO1.out ((Below.refl _ _).alloc (Nat.le_refl _) _) HO1.out.2.size
  have hq0 : w0.heap.size ≤ w1.heap.size := HO1.out.2.size
  go_wp2
  go_loopw [29] (fun i wr => ∃ k : Nat, k ≤ n ∧ i = .int .i64 k ∧ Hid (Hs wr w1.heap.size 0 (part D n k)) ∧ Hid (wr.there w1.heap.size 0 (32 * n)) ∧ Hid (K.On w0 wr 92 r a cap L s) ∧ w1.heap.size < wr.heap.size ∧ Hid (∀ j x y, j + 1 < k → D[j]? = some x → D[j + 1]? = some y → cmpL x y < 0)) (fun i _ => n - (intOf i).toNat)
  case atStart => exact ⟨0, by omega, rfl, HS0, HT0, HA0, by simp, fun j x y h => by omega⟩
  case round =>
    obtain ⟨k, hk, rfl, HSr, HTr, HOr, hqr, HAdj⟩ := hrel
    by_cases hkn : k < n
    · have h32 := HN32.out
      have hkD : k < D.length := by rw [← HN.out]; exact hkn
      obtain ⟨x, hx⟩ : ∃ x, D[k]? = some x := ⟨_, List.getElem?_eq_getElem hkD⟩
      have hx32 := hD.get hx
      have HCut : Hid (((L.drop (s.k + sz + k * 32)).take 32) = x) := HB.out k x hx
      obtain ⟨b, off, rfl, hcell⟩ : ∃ b off, a = some ⟨b, off, none⟩ ∧ ∀ j, j < L.length → wr.cell? ⟨b, off + j, none⟩ = some (.int .u8 (K.at8 L j)) := by
        rcases HOr.out.1.byt with e | h
        · have := HF.out; rw [e] at this; simp at this; omega
        · exact h
      have hroom := HOr.out.1.room
      have hfit2 := HF.out
      have e1 : K.from23 (K.from23 (some ⟨b, off, none⟩) cap (s.k + sz)) (cap - (s.k + sz)) (k * 32) = some ⟨b, off + (s.k + sz) + k * 32, none⟩ := by
        unfold K.from23
        rw [if_neg (by omega), if_neg (by omega)]
        simp [Addr.add_mid]
      have sl1 := fun wx => K.sl_from (K.from23 (some ⟨b, off, none⟩) cap (s.k + sz)) n32 (cap - (s.k + sz)) (k * 32) ((k : Int) * 32) (by omega) (by omega) wx
      have sl2 := fun wx => K.sl_from' (K.from23 (some ⟨b, off, none⟩) cap (s.k + sz)) n32 (cap - (s.k + sz)) (k * 32) ((k : Int) * 32) (by omega) (by omega) wx
      rw [e1] at sl1 sl2
      have HH : Hid (Calls Tryd.prog 71 #[.slice (some ⟨b, off + (s.k + sz) + k * 32, none⟩) (n32 - k * 32) (cap - (s.k + sz) - k * 32)] wr fun e w' => e = .returned (.agg (bs x)) ∧ Below wr.heap.size wr w') := (by
        have h1 : ((L.drop (s.k + sz + k * 32)).take (n32 - k * 32)).length = n32 - k * 32 := by rw [List.length_take, List.length_drop]; omega
        have hbl : b < wr.heap.size := block_lt_of_cell (hcell 0 (by omega))
        have := hashOf_any b (off + (s.k + sz) + k * 32) (n32 - k * 32) (cap - (s.k + sz) - k * 32) ((L.drop (s.k + sz + k * 32)).take (n32 - k * 32)) wr h1 (by omega) (fun j hj => by
          rw [h1] at hj
          rw [show off + (s.k + sz) + k * 32 + j = off + (s.k + sz + k * 32 + j) by omega, hcell _ (by omega)]
          unfold K.at8
          simp [List.getElem?_take, hj]) hbl
        rw [List.take_take, show min 32 (n32 - k * 32) = 32 by omega, HCut.out] at this
        exact this)
      have ix1 := fun wx => indexH w1.heap.size 0 n n k wx hkn
      simp only [Nat.zero_add] at ix1
      clear HCut hcell e1 hroom hfit2
      generalize off + (s.k + sz) + k * 32 = off4 at *
      generalize n32 - k * 32 = n4 at *
      generalize cap - (s.k + sz) - k * 32 = cap4 at *
      generalize hq : w1.heap.size = q at *
      have hzr : Hid (w0.heap.size ≤ q) := hq0
      clear h32 hq
      go_wp2_with fail
      refine HH.out.mono ?_
      rintro e w2 ⟨rfl, bl2⟩
      have HT2 : Hid (w2.there q 0 (32 * n)) := there_below HTr.out bl2 hqr
      have HTH : Hid (w2.there q (32 * k) 32) := (by have := there_part (m := 32) (i := 32 * k) HT2.out (by omega); rwa [Nat.zero_add] at this : w2.there q (32 * k) 32)
      have hPL : D.length = n := HN.out.symm
      have HX : Hid (Hs (w2.setCells q (32 * k) (hcs x)) q 0 (part D n (k + 1))) := (by
        have := Hs.set (HSr.out.below bl2 hqr) (all32_part hD _ _) k x hx32 (by rw [part_len _ _ _ (by omega) hPL]; omega) (there_part HT2.out (by omega))
        rw [Nat.zero_add] at this
        rwa [part_set _ _ _ (by omega) hPL x hx] at this : Hs (w2.setCells q (32 * k) (hcs x)) q 0 (part D n (k + 1)))
      have HT3 : Hid ((w2.setCells q (32 * k) (hcs x)).there q 0 (32 * n)) := World.there_setCells HT2.out _ _ _
      have HO3 : Hid (K.On w0 (w2.setCells q (32 * k) (hcs x)) 92 r (some ⟨b, off, none⟩) cap L s) := on_below HR.out (on_below HR.out HOr.out bl2 HOr.out.2.size) (below_setCells (Below.refl _ _) (Nat.le_refl q) _ _) hzr.out
      have hq3 : q < (w2.setCells q (32 * k) (hcs x)).heap.size := by rw [size_setCells]; have := bl2.size; omega
      clear hPL bl2 HT2 HSr HTr HOr hqr HH sl1 sl2
      go_wp2_with (first
        | (refine wpList_store_mid rfl 31 _ _ rfl q (32 * k) (bs x) rfl rfl (by rw [bs_size, hx32]; exact HTH.out) (by rw [bs_size, hx32]; exact hsH) (bs_one _) ?_)
        | fail)
      change Code.wp _ _ _ _ (w2.setCells q (32 * k) (hcs x))
      simp only [Act.put]
      generalize w2.setCells q (32 * k) (hcs x) = w3 at *
      clear HTH
      by_cases hk0 : k = 0
      · have gk : decide (0 < k) = false := by simp; omega
        have HK1 : Hid (∀ j x y, j + 1 < k + 1 → D[j]? = some x → D[j + 1]? = some y → cmpL x y < 0) := fun j x y hj => by omega
        clear hk0
        have hne : Nonempty (ExtT w3) := ExtT.some w3
        refine wp_region_ext (by kernel_rfl) (by kernel_rfl) ?_
        repeat (go_big_quiet_step (fail))
        refine wpQuiet_nil ?_
        rintro w4 ⟨⟨_, bl4⟩, rfl⟩
        have A1 : Hid (Hs w4 q 0 (part D n (k + 1))) := HX.out.below bl4 hq3
        have A2 : Hid (w4.there q 0 (32 * n)) := there_below HT3.out bl4 hq3
        have A3 : Hid (K.On w0 w4 92 r (some ⟨b, off, none⟩) cap L s) := on_below HR.out HO3.out bl4 HO3.out.2.size
        have A4 : q < w4.heap.size := by have := bl4.size; omega
        clear bl4 hne HX HT3 HO3 hq3 gk
        go_wp2
        exact ⟨⟨k + 1, by omega, by go_num, A1, A2, A3, A4, fun j x y hj => HK1.out j x y hj⟩, by simp [intOf]; omega⟩
      · obtain ⟨p, hp⟩ : ∃ p, D[k - 1]? = some p := ⟨_, List.getElem?_eq_getElem (by omega)⟩
        have hp32 := hD.get hp
        have HCm : Hid (∀ wx, Calls Tryd.prog 69 #[.agg (bs p), .agg (bs x)] wx fun e w' => e = .returned (.int .i64 (cmpL p x)) ∧ Below wx.heap.size wx w') := fun wx => cmp_any p x hp32 hx32 wx
        have hpt : ∀ i y, i < k + 1 → D[i]? = some y → (part D n (k + 1))[i]? = some y := fun i y hi hy => by
          unfold part
          rw [List.getElem?_append_left (by rw [List.length_take]; have := (List.getElem?_eq_some_iff.1 hy).1; omega), List.getElem?_take, if_pos hi]
          exact hy
        have S1 : Hid (w3.rangeAt q (32 * (k - 1)) (hcs p)) := (by have := HX.out (k - 1) p (hpt _ _ (by omega) hp); rwa [Nat.zero_add] at this : w3.rangeAt q (32 * (k - 1)) (hcs p))
        have S2 : Hid (w3.rangeAt q (32 * k) (hcs x)) := (by have := HX.out k x (hpt _ _ (by omega) hx); rwa [Nat.zero_add] at this : w3.rangeAt q (32 * k) (hcs x))
        have ix2 : ∀ wx, (Instr.indexAt 32 (.slice (some ⟨q, 0, none⟩) n n) (.int .i64 ((k : Int) - 1))).run Tryd.prog wx = .ok (.pointer (some ⟨q, 32 * (k - 1), none⟩)) wx := fun wx => (by
          have := indexH q 0 n n (k - 1) wx (by omega)
          rwa [Nat.zero_add, show ((k - 1 : Nat) : Int) = (k : Int) - 1 by omega] at this)
        have wk : IntKind.i64.wrap ((k : Int) - 1) = (k : Int) - 1 := by simp only [IntKind.wrap, IntKind.bits, IntKind.signed]; simp; omega
        have wk2 : wrap64 ((k : Int) - 1) = (k : Int) - 1 := (by unfold wrap64; omega)
        have gk : 0 < k := by omega
        by_cases hcl : cmpL p x < 0
        · have HK1 : Hid (∀ j x y, j + 1 < k + 1 → D[j]? = some x → D[j + 1]? = some y → cmpL x y < 0) := fun j u v hj hu hv => by
            by_cases ej : j + 1 = k
            · rw [show j = k - 1 by omega, hp] at hu
              rw [ej, hx] at hv
              cases hu
              cases hv
              exact hcl
            · exact HAdj.out j u v (by omega) hu hv
          generalize cmpL p x = c at *
          have gc : ¬ (0 : Int) ≤ c := by omega
          clear hpt hx hp hcl hk0
          have hne : Nonempty (ExtT w3) := ExtT.some w3
          refine wp_region_ext (by kernel_rfl) (by kernel_rfl) ?_
          repeat (first
            | (go_big_quiet_want; refine quiet_load_mid 31 _ rfl q (32 * (k - 1)) rfl (bs p) _ (by rintro _ ⟨e, rfl⟩; exact e.range S1.out (hcs_pos hp32)) Tryd.underlying31 rfl (sizeH hp32) ?_; simp only [Act.put, List.setIfInBounds_toArray, List.set_cons_zero, List.set_cons_succ]; go_big_quiet_on)
            | (go_big_quiet_want; refine quiet_load_mid 31 _ rfl q (32 * k) rfl (bs x) _ (by rintro _ ⟨e, rfl⟩; exact e.range S2.out (hcs_pos hx32)) Tryd.underlying31 rfl (sizeH hx32) ?_; simp only [Act.put, List.setIfInBounds_toArray, List.set_cons_zero, List.set_cons_succ]; go_big_quiet_on)
            | go_big_quiet_step (first | (go_at_call 69; exact ext_of (HCm.out _)) | fail))
          refine wpQuiet_nil ?_
          rintro w4 ⟨⟨_, bl4⟩, rfl⟩
          have A1 : Hid (Hs w4 q 0 (part D n (k + 1))) := HX.out.below bl4 hq3
          have A2 : Hid (w4.there q 0 (32 * n)) := there_below HT3.out bl4 hq3
          have A3 : Hid (K.On w0 w4 92 r (some ⟨b, off, none⟩) cap L s) := on_below HR.out HO3.out bl4 HO3.out.2.size
          have A4 : q < w4.heap.size := by have := bl4.size; omega
          clear bl4 hne HX HT3 HO3 hq3 wk wk2 S1 S2 HCm ix2
          go_wp2
          exact ⟨⟨k + 1, by omega, by go_num, A1, A2, A3, A4, fun j x y hj => HK1.out j x y hj⟩, by simp [intOf]; omega⟩
        · have hcl : ¬ cmpL p x < 0 := hcl
          generalize cmpL p x = c at *
          have gc : (0 : Int) ≤ c := by omega
          clear hpt hx hp hcl hk0
          have hne : Nonempty (ExtT w3) := ExtT.some w3
          refine wp_region_ext (by kernel_rfl) (by kernel_rfl) ?_
          repeat (first
            | (go_big_quiet_want; refine quiet_load_mid 31 _ rfl q (32 * (k - 1)) rfl (bs p) _ (by rintro _ ⟨e, rfl⟩; exact e.range S1.out (hcs_pos hp32)) Tryd.underlying31 rfl (sizeH hp32) ?_; simp only [Act.put, List.setIfInBounds_toArray, List.set_cons_zero, List.set_cons_succ]; go_big_quiet_on)
            | (go_big_quiet_want; refine quiet_load_mid 31 _ rfl q (32 * k) rfl (bs x) _ (by rintro _ ⟨e, rfl⟩; exact e.range S2.out (hcs_pos hx32)) Tryd.underlying31 rfl (sizeH hx32) ?_; simp only [Act.put, List.setIfInBounds_toArray, List.set_cons_zero, List.set_cons_succ]; go_big_quiet_on)
            | go_big_quiet_step (first | (go_at_call 69; exact ext_of (HCm.out _)) | fail))
          refine wpQuiet_nil ?_
          rintro w4 ⟨⟨_, bl4⟩, rfl⟩
          have A3 : Hid (K.On w0 w4 92 r (some ⟨b, off, none⟩) cap L s) := on_below HR.out HO3.out bl4 HO3.out.2.size
          have c1 := A3.out.1.c1
          have HKp := K.Hid.mk' (K.keep_on (a := some ⟨b, off, none⟩) (cap := cap) (L := L) (T := 92) (r := r) w0 hb 21 ((s.k : Int) + (sz : Int) + (k : Int) * 32) (by decide))
          have hfit3 := HF.out
          have hw1 : IntKind.i64.wrap ((s.k : Int) + (sz : Int)) = (s.k : Int) + (sz : Int) := by rw [IntKind.wrap_i64]; omega
          have hw2 : IntKind.i64.wrap ((k : Int) * 32) = (k : Int) * 32 := by rw [IntKind.wrap_i64]; omega
          have hw3 : IntKind.i64.wrap ((s.k : Int) + (sz : Int) + (k : Int) * 32) = (s.k : Int) + (sz : Int) + (k : Int) * 32 := by rw [IntKind.wrap_i64]; omega
          clear bl4 hne HX HT3 HO3 hq3 wk wk2 S1 S2 HCm ix2 hfit3
          go_wp2
          go_region_held3 (fun w' => w'.cell? ⟨r, 1, none⟩ = some (.int .i64 (s.k : Int))) (first | assumption | go_keep) (first
            | (go_at_call 60; refine (HKp.out _ ?_).mono ?_; (first | exact A3.out | exact A3.out.drew _ | exact (A3.out.drew _).drew 1); rintro e w5 ⟨rfl, ho⟩; have s1 := ho.1.c1; have HO2 := K.Hid.mk' ho; clear ho)
            | fail)
          go_wp2
          go_ret
          exact .inr ⟨rfl, K.flt_mk HO2.out (by decide)⟩
    · obtain rfl : k = n := by omega
      have c1 := HOr.out.1.c1
      have fz := HOr.out.1.fz 1
      have HE : Hid (Hs wr w1.heap.size 0 D) := (by have := HSr.out; rwa [part_all D k HN.out.symm] at this : Hs wr w1.heap.size 0 D)
      have HSR : Hid (SRise D) := srise_adj hD (fun j x y hx hy => HAdj.out j x y (by have := (List.getElem?_eq_some_iff.1 hy).1; rw [← HN.out] at this; omega) hx hy)
      have h32 := HN32.out
      have hfit3 := HF.out
      have HO9 : Hid (K.On w0 (wr.setCell ⟨r, 1, none⟩ (.int .i64 ((s.k : Int) + ((sz : Int) + (n32 : Int))))) 92 r a cap L ⟨s.k + sz + k * 32, s.bad, s.wh⟩) := HOr.out.set1 (s.k + sz + k * 32) _ (by omega) (by omega)
      have hrq : r ≠ w1.heap.size := by have := HR.out.lt; omega
      have HE9 : Hid (Hs (wr.setCell ⟨r, 1, none⟩ (.int .i64 ((s.k : Int) + ((sz : Int) + (n32 : Int))))) w1.heap.size 0 D) := fun i x e j v hv => (World.cell?_setCell_far wr ⟨r, 1, none⟩ _ _ hrq).trans (HE.out i x e j v hv)
      have hz9 : w1.heap.size < (wr.setCell ⟨r, 1, none⟩ (.int .i64 ((s.k : Int) + ((sz : Int) + (n32 : Int))))).heap.size := by rw [World.size_setCell]; exact hqr
      have hn32b : n32 ≤ 140737488351232 := by omega
      have hszb : sz ≤ 140737488351232 := by omega
      clear HE HTr HSr HOr h32 hfit3
      go_wp2
      go_ret
      exact .inl ⟨_, rfl, hq0, hz9, HE9.out, HSR.out, HO9.out⟩
end Go.Proofs.YtbpmpcmmdiaiiaaDoor

namespace Go.Proofs.YtbpmpcmmdiaiiaaDoor.K
open Go.RowKit
set_option linter.unusedVariables false
set_option linter.unusedSimpArgs false

/-- What was read as a number is written so. -/
theorem numL_canon (len k : Nat) : ∀ (l : List UInt8) (i v : Nat), (numL len k l i v).why = 0 → ∃ u, (numL len k l i v).v = v + u * 2 ^ (7 * i) ∧ (numL len k l i v).size = i + (vint u).length ∧ l.take (vint u).length = vint u ∧ (0 < i → 0 < u)
  | [], i, v, h => by simp [numL] at h
  | b :: t, i, v, h => by
    unfold numL at h ⊢
    split at h
    · simp at h
    · rename_i h1
      rw [if_neg h1]
      split at h
      · rename_i h2
        rw [if_pos h2]
        refine ⟨b.toNat, rfl, by rw [vint_lt h2]; rfl, ?_, fun h0 => by omega⟩
        rw [vint_lt h2]
        simp
      · rename_i h2
        rw [if_neg h2]
        obtain ⟨u, q1, q2, q3, q4⟩ := numL_canon len k t (i + 1) (v + (b.toNat - 128) * 2 ^ (7 * i)) h
        have hu := q4 (by omega)
        have hb := b.toNat_lt
        have e : vint ((b.toNat - 128) + 128 * u) = b :: vint u := by
          rw [vint_ge (by omega), show ((b.toNat - 128) + 128 * u) / 128 = u by omega, show ((b.toNat - 128) + 128 * u) % 128 + 128 = b.toNat by omega]
          simp
        refine ⟨(b.toNat - 128) + 128 * u, ?_, ?_, ?_, fun _ => by omega⟩
        · rw [q1]
          have e2 : 2 ^ (7 * (i + 1)) = 128 * 2 ^ (7 * i) := by rw [Nat.mul_add, Nat.pow_add]; omega
          rw [e2, Nat.add_mul, Nat.mul_comm 128 u, Nat.mul_assoc u]
          omega
        · rw [q2, e]
          simp
          omega
        · rw [e]
          simp [q3]
theorem num_canon (L : List UInt8) (k : Nat) (h : (num L k).why = 0) : (num L k).size = (vint (num L k).v).length ∧ (L.drop k).take (num L k).size = vint (num L k).v := by
  obtain ⟨u, q1, q2, q3, _⟩ := numL_canon L.length k (L.drop k) 0 0 h
  have e1 : (num L k).v = u := by unfold num; rw [q1]; simp
  have e2 : (num L k).size = (vint u).length := by unfold num; rw [q2]; simp
  rw [e1, e2]
  exact ⟨rfl, q3⟩
theorem cut_app (L : List UInt8) (k m n : Nat) : cut L k (m + n) = cut L k m ++ cut L (k + m) n := by
  unfold cut
  rw [List.take_add, List.drop_drop]
theorem num_cut (L : List UInt8) (k n : Nat) (h : (num L k).why = 0) : cut L k ((num L k).size + n) = vint (num L k).v ++ cut L (k + (num L k).size) n := by
  rw [cut_app]
  congr 1
  exact (num_canon L k h).2
theorem cut4 (L : List UInt8) (k : Nat) (h : k + 4 ≤ L.length) : cut L k 4 = [L.getD k 0, L.getD (k + 1) 0, L.getD (k + 2) 0, L.getD (k + 3) 0] := by
  unfold cut
  rw [drop_cons L k (by omega), drop_cons L (k + 1) (by omega), drop_cons L (k + 1 + 1) (by omega), drop_cons L (k + 1 + 1 + 1) (by omega)]
  rfl
theorem be_cut4 (L : List UInt8) (k : Nat) (h : k + 4 ≤ L.length) : b4 (be L k 4) = cut L k 4 := by
  rw [cut4 L k h]
  unfold b4
  have h0 := (L.getD k 0).toNat_lt
  have h1 := (L.getD (k + 1) 0).toNat_lt
  have h2 := (L.getD (k + 2) 0).toNat_lt
  have h3 := (L.getD (k + 3) 0).toNat_lt
  have e : be L k 4 = (((L.getD k 0).toNat * 256 + (L.getD (k + 1) 0).toNat) * 256 + (L.getD (k + 2) 0).toNat) * 256 + (L.getD (k + 3) 0).toNat := by
    simp [be]
  rw [e]
  generalize L.getD k 0 = x0 at *
  generalize L.getD (k + 1) 0 = x1 at *
  generalize L.getD (k + 2) 0 = x2 at *
  generalize L.getD (k + 3) 0 = x3 at *
  have key : ∀ (n : Nat) (x : UInt8), n % 256 = x.toNat → UInt8.ofNat n = x := fun n x hx => by
    apply UInt8.toNat_inj.1
    rw [UInt8.toNat_ofNat']
    exact hx
  rw [key _ x0 (by omega), key _ x1 (by omega), key _ x2 (by omega), key _ x3 (by omega)]
theorem be_cut8 (L : List UInt8) (k : Nat) (h : k + 8 ≤ L.length) : b8 (be L k 8) = cut L k 8 := by
  unfold b8
  have h4 := be_lt L (k + 4) 4
  have e4 : (256 : Nat) ^ 4 = 4294967296 := by decide
  rw [e4] at h4
  rw [be_8, show (be L k 4 * 4294967296 + be L (k + 4) 4) / 4294967296 = be L k 4 by omega, show (be L k 4 * 4294967296 + be L (k + 4) 4) % 4294967296 = be L (k + 4) 4 by omega, be_cut4 L k (by omega), be_cut4 L (k + 4) (by omega)]
  exact (cut_app L k 4 4).symm
theorem zig_unzig (v : Nat) : zig (unzig v) = v := by
  unfold zig unzig
  split <;> split <;> omega
theorem unzig_lo (v : Nat) (h : v < 18446744073709551616) : -9223372036854775808 ≤ unzig v ∧ unzig v < 9223372036854775808 := by
  unfold unzig
  split <;> omega
/-- A text that is good to its end is valid. -/
theorem good_valid : ∀ (f : Nat) (l : List UInt8), l.length ≤ f → goodF f l = l.length → Lib.validD l = true
  | 0, l, hf, _ => by
    obtain rfl : l = [] := List.eq_nil_of_length_eq_zero (by omega)
    rfl
  | f + 1, l, hf, hg => by
    by_cases h0 : l.length = 0
    · obtain rfl : l = [] := List.eq_nil_of_length_eq_zero h0
      rfl
    · unfold goodF at hg
      rw [if_neg h0] at hg
      by_cases h1 : wd l = 0
      · rw [if_pos h1] at hg; omega
      · rw [if_neg h1] at hg
        have hwd := wd_dec l
        have hne : l ≠ [] := fun e => h0 (by rw [e]; rfl)
        rw [Lib.validD_step l hne]
        split at hwd
        · omega
        · rename_i hd
          rw [if_neg hd, ← hwd]
          have hle := wdl_le l (by omega)
          exact good_valid f (l.drop (wd l)) (by rw [List.length_drop]; omega) (by rw [List.length_drop]; omega)

variable {T : TypeId} {r cap : Nat} {a : Option Addr} {L : List UInt8} {s : St}
set_option maxRecDepth 100000 in
theorem hashes_no (most : Int) (hm0 : -9223372036854775808 ≤ most) (hm : most < 9223372036854775808) (w : World) (h : RD w T r a cap L s) (hb : s.bad = 0) (hno : ¬ Fits L s.k most 32) :
    Calls Tryd.prog 47 #[.pointer (some ⟨r, 0, none⟩), .int .i64 most] w fun e w' => e = .returned (.slice none 0 0) ∧ Flt w w' T r a cap L s := by
  have HS := Hid.mk' (stopped_any w h)
  rw [show decide (s.bad ≠ 0) = false by simp [hb]] at HS
  have HC : Hid (Calls Tryd.prog 61 #[.pointer (some ⟨r, 0, none⟩), .int .i64 most, .int .i64 32] w fun e w' => e = .returned (.tuple #[.slice none 0 0, .int .i64 0, .bool false]) ∧ Flt w w' T r a cap L s) := counted_no 32 (.inr rfl) most hm0 hm w h hb hno
  clear h hno
  go_enter Tryd.func47, Tryd.ntmps47
  go_wp2_with fail
  refine HS.out.mono ?_
  rintro e w1 ⟨rfl, hw1⟩
  subst hw1
  go_wp2_with fail
  refine HC.out.mono ?_
  rintro e w2 ⟨rfl, ho⟩
  have HO := Hid.mk' ho
  clear ho
  go_wp2
  go_ret
  exact ⟨rfl, HO.out⟩
set_option maxRecDepth 100000 in
theorem raw_stop (most : Int) (w : World) (h : RD w T r a cap L s) (hb : s.bad ≠ 0) :
    Calls Tryd.prog 45 #[.pointer (some ⟨r, 0, none⟩), .int .i64 most] w fun e w' => e = .returned (.slice none 0 0) ∧ Flt w w' T r a cap L s := by
  have HS := Hid.mk' (stopped_any w h)
  rw [show decide (s.bad ≠ 0) = true by simp [hb]] at HS
  have HO : Hid (Flt w w T r a cap L s) := ⟨s, hb, rfl, h.on⟩
  clear h hb
  go_enter Tryd.func45, Tryd.ntmps45
  go_wp2_with fail
  refine HS.out.mono ?_
  rintro e w1 ⟨rfl, hw1⟩
  subst hw1
  go_wp2
  go_ret
  exact ⟨rfl, HO.out⟩
set_option maxRecDepth 100000 in
theorem text_stop (most : Int) (w : World) (h : RD w T r a cap L s) (hb : s.bad ≠ 0) :
    Calls Tryd.prog 26 #[.pointer (some ⟨r, 0, none⟩), .int .i64 most] w fun e w' => e = .returned (.string ⟨#[]⟩) ∧ Flt w w' T r a cap L s := by
  have HS := Hid.mk' (stopped_any w h)
  rw [show decide (s.bad ≠ 0) = true by simp [hb]] at HS
  have HO : Hid (Flt w w T r a cap L s) := ⟨s, hb, rfl, h.on⟩
  clear h hb
  go_enter Tryd.func26, Tryd.ntmps26
  go_wp2_with fail
  refine HS.out.mono ?_
  rintro e w1 ⟨rfl, hw1⟩
  subst hw1
  go_wp2
  go_ret
  exact ⟨rfl, HO.out⟩
set_option maxRecDepth 100000 in
theorem hashes_stop (most : Int) (w : World) (h : RD w T r a cap L s) (hb : s.bad ≠ 0) :
    Calls Tryd.prog 47 #[.pointer (some ⟨r, 0, none⟩), .int .i64 most] w fun e w' => e = .returned (.slice none 0 0) ∧ Flt w w' T r a cap L s := by
  have HS := Hid.mk' (stopped_any w h)
  rw [show decide (s.bad ≠ 0) = true by simp [hb]] at HS
  have HO : Hid (Flt w w T r a cap L s) := ⟨s, hb, rfl, h.on⟩
  clear h hb
  go_enter Tryd.func47, Tryd.ntmps47
  go_wp2_with fail
  refine HS.out.mono ?_
  rintro e w1 ⟨rfl, hw1⟩
  subst hw1
  go_wp2
  go_ret
  exact ⟨rfl, HO.out⟩
end Go.Proofs.YtbpmpcmmdiaiiaaDoor.K

namespace Go.Proofs.YtbpmpcmmdiaiiaaDoor
open Go.RowKit
set_option linter.unusedVariables false
set_option linter.unusedSimpArgs false

/-- What Reader.Fix32 answers. -/
def rFix (L : List UInt8) (s : K.St) : Nat × K.St := if s.bad = 0 then (if s.k + 4 ≤ L.length then (K.be L s.k 4, ⟨s.k + 4, s.bad, s.wh⟩) else (0, ⟨s.k, 20, L.length⟩)) else (0, s)
variable {T : TypeId} {r cap : Nat} {a : Option Addr} {L : List UInt8} {s : K.St}
set_option maxRecDepth 100000 in
set_option maxHeartbeats 1000000 in
theorem rfix_any (w : World) (h : K.RD w T r a cap L s) :
    Calls Tryd.prog 44 #[.pointer (some ⟨r, 0, none⟩)] w fun e w' => e = .returned (.int .u32 ((rFix L s).1 : Int)) ∧ K.On w w' T r a cap L (rFix L s).2 := by
  have HS : Hid (Calls Tryd.prog 58 #[.pointer (some ⟨r, 0, none⟩)] w fun e w' => e = .returned (.bool (decide (s.bad ≠ 0))) ∧ w' = w) := K.stopped_any w h
  by_cases hb : s.bad = 0
  · rw [show decide (s.bad ≠ 0) = false by simp [hb]] at HS
    by_cases hk : s.k + 4 ≤ L.length
    · have e0 : rFix L s = (K.be L s.k 4, ⟨s.k + 4, s.bad, s.wh⟩) := by unfold rFix; rw [if_pos hb, if_pos hk]
      rw [e0]
      have HNx : Hid (Calls Tryd.prog 63 #[.pointer (some ⟨r, 0, none⟩), .int .i64 4] w fun e w' => e = .returned (.tuple #[.slice (K.from23 a cap s.k) 4 (cap - s.k), .bool true]) ∧ ∃ m, w' = w.drewN m) := K.next_ok 4 w h hk
      obtain ⟨b, off, rfl, hcell⟩ : ∃ b off, a = some ⟨b, off, none⟩ ∧ ∀ j, j < L.length → w.cell? ⟨b, off + j, none⟩ = some (.int .u8 (K.at8 L j)) := by
        rcases h.byt with e | h
        · rw [e] at hk; simp at hk
        · exact h
      have hbr : b ≠ r := (h.plain _ rfl).2
      have hroom := h.room
      have e1 : K.from23 (some ⟨b, off, none⟩) cap s.k = some ⟨b, off + s.k, none⟩ := by
        unfold K.from23
        rw [if_neg (by omega)]
        simp [Addr.add_mid]
      rw [e1] at HNx
      have HO : Hid (∀ m m', K.On w (((w.drewN m).setCell ⟨r, 1, none⟩ (.int .i64 ((s.k : Int) + 4))).drewN m') T r (some ⟨b, off, none⟩) cap L ⟨s.k + 4, s.bad, s.wh⟩) := fun m m' => ((h.on.drew m).set1 (s.k + 4) _ (by omega) hk).drew m'
      have HH : Hid (∀ m, Calls Tryd.prog 65 #[.slice (some ⟨b, off + s.k, none⟩) 4 (cap - s.k)] ((w.drewN m).setCell ⟨r, 1, none⟩ (.int .i64 ((s.k : Int) + 4))) fun e w' => e = .returned (.int .u32 (K.be L s.k 4 : Int)) ∧ ∃ m', w' = ((w.drewN m).setCell ⟨r, 1, none⟩ (.int .i64 ((s.k : Int) + 4))).drewN m') := fun m =>
        K.fix_any b (off + s.k) 4 (cap - s.k) L s.k _ (Nat.le_refl _) (fun j hj => by
          rw [World.cell?_setCell_far _ ⟨r, 1, none⟩ _ _ (by show r ≠ b; omega)]
          show w.cell? _ = _
          rw [show off + s.k + j = off + (s.k + j) by omega, hcell _ (by omega)])
      have c1 := h.c1
      have f1 := h.fz 1
      have hf := h.few
      clear h e0 e1 hcell
      generalize cap - s.k = c4 at *
      generalize off + s.k = off4 at *
      generalize K.be L s.k 4 = u at *
      go_enter Tryd.func44, Tryd.ntmps44
      go_wp2_with fail
      refine HS.out.mono ?_
      rintro e w1 ⟨rfl, hw1⟩
      subst hw1
      go_wp2_with fail
      refine HNx.out.mono ?_
      rintro e w2 ⟨rfl, m, rfl⟩
      go_wp2_with fail
      refine (HH.out m).mono ?_
      rintro e w3 ⟨rfl, m', rfl⟩
      go_wp2
      go_ret
      exact ⟨rfl, HO.out m m'⟩
    · have e0 : rFix L s = (0, ⟨s.k, 20, L.length⟩) := by unfold rFix; rw [if_pos hb, if_neg hk]
      rw [e0]
      have HNx : Hid (Calls Tryd.prog 63 #[.pointer (some ⟨r, 0, none⟩), .int .i64 4] w fun e w' => e = .returned (.tuple #[.slice none 0 0, .bool false]) ∧ K.On w w' T r a cap L ⟨s.k, 20, L.length⟩) := K.next_no 4 w h hb hk (by decide)
      clear h e0
      go_enter Tryd.func44, Tryd.ntmps44
      go_wp2_with fail
      refine HS.out.mono ?_
      rintro e w1 ⟨rfl, hw1⟩
      subst hw1
      go_wp2_with fail
      refine HNx.out.mono ?_
      rintro e w2 ⟨rfl, on2⟩
      have HO : Hid (K.On w1 w2 T r a cap L ⟨s.k, 20, L.length⟩) := on2
      clear on2
      go_wp2
      go_ret
      exact ⟨rfl, HO.out⟩
  · rw [show decide (s.bad ≠ 0) = true by simp [hb]] at HS
    have e0 : rFix L s = (0, s) := by unfold rFix; rw [if_neg hb]
    rw [e0]
    have HO : Hid (K.On w w T r a cap L s) := h.on
    clear h e0
    go_enter Tryd.func44, Tryd.ntmps44
    go_wp2_with fail
    refine HS.out.mono ?_
    rintro e w1 ⟨rfl, hw1⟩
    subst hw1
    go_wp2
    go_ret
    exact ⟨rfl, HO.out⟩
end Go.Proofs.YtbpmpcmmdiaiiaaDoor

