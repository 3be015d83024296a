import Derived.Test.YtcipgnocmilkpaaDoorSealW
import Derived.Test.YtcipgnocmilkpaaDoorOpen
import Derived.Deep.DeepAppendWide
namespace Go.Proofs.YtcipgnocmilkpaaDoor
open Go.RowKit
set_option linter.unusedVariables false
set_option linter.unusedSimpArgs false

set_option maxHeartbeats 1000000 in
theorem which_any (n : Int) (all : Nat) (w : World) (h0 : -9223372036854775808 ≤ n) (h1 : n ≤ 9223372036854775807) (ha : 0 < all) (hb : all ≤ 140737488355328) :
    Calls Tryd.prog 10 #[.int .i64 n, .int .i64 (all : Int)] w fun e w' => ∃ r : Nat, e = .returned (.int .i64 (r : Int)) ∧ r < all ∧ w' = w := by
  have hne : ¬ ((all : Int) = 0) := by omega
  have t1 : n.tmod (all : Int) < all := Int.tmod_lt_of_pos _ (by omega)
  have t2 : -(all : Int) < n.tmod (all : Int) := Int.lt_tmod_of_pos _ (by omega)
  by_cases hneg : n.tmod (all : Int) < 0
  · go_enter Tryd.func10, Tryd.ntmps10
    go_wp2
    go_ret
    exact ⟨(n.tmod (all : Int) + (all : Int)).toNat, ret_int (by show _ = _; simp; omega), by omega, rfl⟩
  · go_enter Tryd.func10, Tryd.ntmps10
    go_wp2
    go_ret
    exact ⟨(n.tmod (all : Int)).toNat, ret_int (by show _ = _; simp; omega), by omega, rfl⟩
theorem frame_at0 (k : UInt8) (b t : List UInt8) : at8 (frame k b ++ t) 0 = (k.toNat : Int) := rfl
theorem frame_body (k : UInt8) (b t : List UInt8) : ((frame k b ++ t).drop 9).take b.length = b := by
  have e : frame k b ++ t = head9 k b.length ++ (b ++ (be (crc (head9 k b.length ++ b)) ++ t)) := by unfold frame; simp [List.append_assoc]
  rw [e, List.drop_append_of_le_length (by rw [head9_len]; omega), List.drop_eq_nil_of_le (by rw [head9_len]; omega), List.nil_append, List.take_append_of_le_length (Nat.le_refl _), List.take_length]
theorem own_set {w : World} {base g n cap r : Nat} {F : List UInt8} (h : OwnB w base (.slice (some ⟨g, 0, none⟩) n cap) F) (x : UInt8) (hr : r < F.length) : OwnB (w.setCell ⟨g, r, none⟩ (.int .u8 (x.toNat : Int))) base (.slice (some ⟨g, 0, none⟩) n cap) (F.set r x) := by
  rcases h.2 with ⟨e, _⟩ | ⟨g', cap', cur, e, hbg, hg, hnc, hcm, hcs, htake⟩
  · cases e
  · cases e
    refine ⟨by rw [byC_len, List.length_set]; omega, .inr ⟨g, cap, _, by rw [List.length_set], hbg, heap_setCell_same w g r _ 5 _ hg, by rw [List.length_set]; exact hnc, hcm, by simpa using hcs, ?_⟩⟩
    rw [List.length_set, Array.toList_setIfInBounds, List.take_set, htake]
    simp [byC, List.map_set]
theorem own_cell {w : World} {base g n cap r : Nat} {F : List UInt8} (h : OwnB w base (.slice (some ⟨g, 0, none⟩) n cap) F) (hr : r < F.length) : w.cell? ⟨g, r, none⟩ = some (.int .u8 (at8 F r)) ∧ w.frozen? ⟨g, r, none⟩ = false := by
  rcases h.2 with ⟨e, _⟩ | ⟨g', cap', cur, e, hbg, hg, hnc, hcm, hcs, htake⟩
  · cases e
  · cases e
    refine ⟨?_, frozen_of_row w g r _ _ hg⟩
    rw [cell_of_row w g r cur 5 (0, 0) hg]
    have e : (byC F)[r]? = some (.int .u8 (at8 F r)) := by simp [byC, at8, List.getElem?_eq_getElem hr]
    rw [← htake, List.getElem?_take] at e
    split at e
    · simpa using e
    · cases e

theorem xor8 (x y : UInt8) : bits .xor .u8 (x.toNat : Int) (y.toNat : Int) = ((x ^^^ y).toNat : Int) := by
  rw [u8_xor_nat _ _ (UInt8.toNat_lt _) (UInt8.toNat_lt _), ← UInt8.toNat_xor]

theorem run_appw (w : World) (base : Nat) (ty : TypeId) (v : Value) (L : List UInt8) (a : Option Addr) (M : List UInt8) (c : Nat) (hown : OwnB w base v L) (hb : Byt w a M)
    (h : (L.length + M.length) + (L.length + M.length) / 4 + 192 ≤ 281474976710656) (hbase : base ≤ w.heap.size) :
    ∃ v' w', (Builtin.append_ #[27, 27] ty #[v, .slice a M.length c]).run Tryd.prog w = .ok v' w' ∧ OwnB w' base v' (L ++ M) ∧ w.grownBy w' v.ownBlock := by
  obtain ⟨i, hi, hz, hs, hby⟩ := info5'
  cases a with
  | some ad =>
    have hnews : ∀ j u, (byC M)[j]? = some u → w.cell? (ad.add j) = some u := fun j u hj => by
      obtain ⟨h1, rfl⟩ := byC_get _ j u hj
      rcases hb with rfl | ⟨b, off, e, hc⟩
      · simp at h1
      · cases e
        rw [Addr.add_mid]
        exact hc j h1
    obtain ⟨v', w', hr, h2, h3, _⟩ := run_append_own_wide (P := Tryd.prog) w base 27 ty 5 i (.int .u8 0) 1 1 Tryd.underlying27 hi hz hs hby rfl (by decide) v L.length (byC L) hown ad M.length c (byC M) (by rw [byC_len]; omega) hnews (byC_one _) (by unfold maxLen; omega) (by omega) hbase
    refine ⟨v', w', hr, ?_, h3⟩
    unfold OwnB
    rw [List.length_append, show byC (L ++ M) = byC L ++ byC M by simp [byC]]
    exact h2
  | none =>
    obtain rfl : M = [] := by
      rcases hb with rfl | ⟨b, off, e, _⟩
      · rfl
      · cases e
    rcases hown.2 with ⟨rfl, hn⟩ | ⟨g, cap, cur, rfl, hbg, hg, hnc, rest⟩
    · refine ⟨.slice none 0 0, w, ?_, by rw [List.append_nil]; exact hown, ⟨rfl, rfl, rfl, Nat.le_refl _, fun _ _ _ => rfl⟩⟩
      simp [Builtin.append_, run_underlying Tryd.underlying27, sizeOf, typeInfo, hi, Builtin.lenOf, Builtin.firstCells, loadCells, loadCellsFrom]
    · refine ⟨.slice (some ⟨g, 0, none⟩) L.length cap, w, ?_, by rw [List.append_nil]; exact hown, ⟨rfl, rfl, rfl, Nat.le_refl _, fun _ _ _ => rfl⟩⟩
      simp [Builtin.append_, run_underlying Tryd.underlying27, sizeOf, typeInfo, hi, Builtin.lenOf, Builtin.firstCells, hnc, storeCells]
theorem wpList_appw {ops : Array Oper} {rest : List Oper} {o : Oper} {a : Act} {w : World} {Q : Exit → Act → World → Prop} (hgd : o.guard = none) (s x : Operand)
    (ho : o.op = .call { callee := .builtin .append, args := #[s, x], argTypes := #[27, 27] }) (base : Nat) (v : Value) (L : List UInt8) (hs : a.eval s = v) (hown : OwnB w base v L)
    (aa : Option Addr) (m c : Nat) (M : List UInt8) (hx : a.eval x = .slice aa m c) (hm : M.length = m) (hb : Byt w aa M) (hlen : (L.length + M.length) + (L.length + M.length) / 4 + 192 ≤ 281474976710656) (hbase : base ≤ w.heap.size)
    (h : ∀ v' w', OwnB w' base v' (L ++ M) → w.grownBy w' v.ownBlock → wpList Tryd.prog ops Q rest (a.put o.dst v') w') : wpList Tryd.prog ops Q (o :: rest) a w :=
  wpList_plain hgd fun _ hK => by
    subst hm
    obtain ⟨v', w', hr, h2, h3⟩ := run_appw w base o.type v L aa M c hown hb hlen hbase
    unfold Oper.wp execOp
    simp only [ho, resolve, invoke, builtin, Sem.run_bind, Sem.run_pure, Result.andThen_ok, List.map_toArray, List.map_cons, List.map_nil, hs, hx, hr]
    exact hK _ _ (h v' w' h2 h3)

set_option maxRecDepth 100000 in
set_option maxHeartbeats 4000000 in
theorem torn_short (a : Option Addr) (l : List UInt8) (n cap : Nat) (atv : Int) (by8 : UInt8) (a2 : Option Addr) (T : List UInt8) (n2 c2 : Nat) (w : World) (hl : l.length = n) (hb : Byt w a l) (hn : n ≤ 16777216) (hT : T.length = n2) (hbT : Byt w a2 T) (hn2 : n2 ≤ 140737488351232)
    (h0 : -9223372036854775808 ≤ atv) (h1 : atv ≤ 9223372036854775807) (hN : NibsAt w) :
    Calls Tryd.prog 4 #[.slice a n cap, .agg #[.int .i64 atv, .int .u8 (by8.toNat : Int), .slice a2 n2 c2]] w fun e w' => e = .returned (.bool true) ∧ Below w.heap.size w w' := by
  have be0 : Below w.heap.size w (w.alloc (.cells #[.int .i64 atv, .int .u8 (by8.toNat : Int), .slice a2 n2 c2] 29)) := (Below.refl _ _).alloc (Nat.le_refl _) _
  have g0 : (w.alloc (.cells #[.int .i64 atv, .int .u8 (by8.toNat : Int), .slice a2 n2 c2] 29)).heap[w.heap.size]? = some (.cells #[.int .i64 atv, .int .u8 (by8.toNat : Int), .slice a2 n2 c2] 29 (0, 0)) := heap_alloc_new _ _
  go_enter Tryd.func4, Tryd.ntmps4
  go_wp2
  generalize (w.alloc (.cells #[.int .i64 atv, .int .u8 (by8.toNat : Int), .slice a2 n2 c2] 29)) = W0 at *
  have d0 := (cell_of_row W0 w.heap.size 0 _ _ _ g0).trans (show (#[.int .i64 atv, .int .u8 (by8.toNat : Int), .slice a2 n2 c2] : Array Value)[0]? = some (.int .i64 atv) from rfl)
  have d1 := (cell_of_row W0 w.heap.size 1 _ _ _ g0).trans (show (#[.int .i64 atv, .int .u8 (by8.toNat : Int), .slice a2 n2 c2] : Array Value)[1]? = some (.int .u8 (by8.toNat : Int)) from rfl)
  have d2 := (cell_of_row W0 w.heap.size 2 _ _ _ g0).trans (show (#[.int .i64 atv, .int .u8 (by8.toNat : Int), .slice a2 n2 c2] : Array Value)[2]? = some (.slice a2 n2 c2) from rfl)
  go_quiet (fail)
  have be1 : Below w.heap.size w (W0.drewN nq) := below_drewN be0 nq
  have zz0 := be1.size
  clear be0 g0 d0 d1 d2
  generalize (W0.drewN nq) = W1 at *
  go_wp2_with fail
  refine (seal_any 7 7 rfl a l n cap W1 hl (byt_below hb be1) (by omega) (nibsAt_below hN be1)).mono ?_
  rintro e w2 ⟨v2, rfl, own2, b2⟩
  have be2 := be1.trans (b2.mono zz0)
  have z2 := b2.size
  have LF : (frame 7 l).length = n + 13 := by rw [frame_len, hl]
  have HO : Hid (openE (frame 7 l ++ T) = 0) := open_frame 7 l T (by omega)
  have HO2 : Hid (openE (frame 7 l) = 0) := by show _ = _; have := open_frame 7 l [] (by omega); rwa [List.append_nil] at this
  have HA : Hid (at8 (frame 7 l ++ T) 0 = 7) := frame_at0 7 l T
  have HR : Hid (rd (frame 7 l ++ T) 1 = n) := by show _ = _; rw [← hl]; exact frame_rd1 7 l T (by omega)
  have HBd : Hid (((frame 7 l ++ T).drop 9).take n = l) := by show _ = _; rw [← hl]; exact frame_body 7 l T
  have HC : Hid (∀ r, r < n + 13 → openE ((frame 7 l).take r) ≠ 0) := fun r hr => open_cut 7 l r (by omega) (by omega)
  have HT : Hid (∀ r x, r < n + 13 → openE ((frame 7 l).set r x) = 0 → (frame 7 l).getD r 0 = x) := fun r x hr => open_torn 7 l r x (by omega) (by omega)
  generalize frame 7 l = F at *
  obtain ⟨g, cv, rfl, hcv, hcl, hg1, hg2⟩ := own2.open1 (by omega)
  rw [LF] at own2 hcv ⊢
  have beA : Below w2.heap.size w2 (w2.alloc (.cells #[] 5)) := (Below.refl _ _).alloc (Nat.le_refl _) _
  have O0 : Hid (OwnB (w2.alloc (.cells #[] 5)) w2.heap.size (.slice (some ⟨w2.heap.size, 0, none⟩) 0 0) []) := ⟨rfl, .inr ⟨w2.heap.size, 0, #[], rfl, Nat.le_refl _, heap_alloc_new _ _, by simp, by simp [maxLen], rfl, rfl⟩⟩
  have B0 : Hid (Byt (w2.alloc (.cells #[] 5)) (some ⟨g, 0, none⟩) F) := byt_below (.inr ⟨g, 0, rfl, fun j hj => by rw [Nat.zero_add]; exact hcl j hj⟩) beA
  have S0 : Hid (([] : List UInt8).length + F.length ≤ 140737488355328) := by show _ ≤ _; simp; omega
  have Z0 : Hid (w2.heap.size ≤ (w2.alloc (.cells #[] 5)).heap.size) := by show _ ≤ _; simp
  clear hcl
  go_wp2_with (first | (at_builtin; refine wpList_app rfl (.tmp 34) (.tmp 35) rfl w2.heap.size (.slice (some ⟨w2.heap.size, 0, none⟩) 0 0) [] rfl O0.out (some ⟨g, 0, none⟩) (n + 13) cv F rfl LF B0.out S0.out Z0.out ?_) | fail)
  intro v3 w3 own3 gr3
  have b3 : Below w2.heap.size w2 w3 := beA.grown gr3 Z0.out (fun k hk => (World.ownsRow.lt O0.out k hk).1)
  have z3 := b3.size
  have be3 := be2.trans (b3.mono (by omega))
  have own3' : OwnB w3 w2.heap.size v3 F := by simpa using own3
  clear own3 gr3 O0 B0 S0 Z0 beA
  obtain ⟨a3, c3, rfl, _⟩ := own3'.open
  rw [LF] at own3' ⊢
  have O3 : Hid (OwnB w3 w2.heap.size (.slice a3 (n + 13) c3) F) := own3'
  have B3 : Hid (Byt w3 a2 T) := byt_below hbT be3
  have S3 : Hid ((F.length + T.length) + (F.length + T.length) / 4 + 192 ≤ 281474976710656) := by show _ ≤ _; omega
  have Z3 : Hid (w2.heap.size ≤ w3.heap.size) := z3
  clear own3'
  go_wp2_with (first | (at_builtin; refine wpList_appw rfl (.tmp 36) (.tmp 37) rfl w2.heap.size (.slice a3 (n + 13) c3) F rfl O3.out a2 n2 c2 T rfl hT B3.out S3.out Z3.out ?_) | fail)
  intro v4 w4 own4 gr4
  have b4 : Below w2.heap.size w2 w4 := b3.grown gr4 z3 (fun k hk => (World.ownsRow.lt O3.out k hk).1)
  have z4 := b4.size
  have be4 := be2.trans (b4.mono (by omega))
  have LX : (F ++ T).length = n + 13 + n2 := by rw [List.length_append]; omega
  obtain ⟨a4, c4, rfl, hc4, by4, _⟩ := own4.open
  rw [LX] at hc4 ⊢
  clear O3 B3 S3 Z3 gr4 own4 b3 be3
  go_wp2_with fail
  refine (open_any a4 (F ++ T) (n + 13 + n2) c4 w4 LX hc4 (by omega) by4 (nibsAt_below hN be4)).mono ?_
  rintro e w5 ⟨k5, v5, m5, rfl, b5, hok⟩
  obtain ⟨rfl, rfl, own5⟩ := hok HO.out
  rw [HA.out, HO.out, HR.out]
  rw [HR.out, HBd.out] at own5
  have z5 := b5.size
  have be5 := be4.trans (b5.mono (by omega))
  have b25 : Below w2.heap.size w2 w5 := b4.trans (b5.mono (by omega))
  obtain ⟨a5, c5, rfl, _, by5, _⟩ := own5.open
  rw [hl]
  clear hok HA HR HBd HO by4 own5 b4 b5 be4 LX
  go_wp2_with fail
  refine (same_any a a5 l n cap c5 w5 hl (byt_below hb be5) by5 (by omega)).mono ?_
  rintro e w6 ⟨rfl, m6, rfl⟩
  have be6 : Below w.heap.size w (w5.drewN m6) := below_drewN be5 m6
  have b26 : Below w2.heap.size w2 (w5.drewN m6) := below_drewN b25 m6
  have own6 := own2.below b26
  have z6 := b26.size
  clear by5 be5 b25 own2
  generalize (w5.drewN m6) = w7 at *
  have WH := which_any atv (n + 13) w7 h0 h1 (by omega) (by omega)
  rw [show ((n + 13 : Nat) : Int) = (n : Int) + 13 by omega] at WH
  have HWH : Hid (Calls Tryd.prog 10 #[.int .i64 atv, .int .i64 ((n : Int) + 13)] w7 fun e w' => ∃ r : Nat, e = .returned (.int .i64 (r : Int)) ∧ r < n + 13 ∧ w' = w7) := WH
  clear WH
  go_wp2_with fail
  refine HWH.out.mono ?_
  rintro e w8 ⟨r, rfl, hr, hw8⟩
  subst hw8
  clear HWH
  have sl := slice_to g 0 (n + 13) cv r (by omega) hcv (by omega)
  obtain ⟨dc, df⟩ := own_cell own6 (r := r) (by omega)
  have hcut := HC.out r hr
  have OC : Hid (∀ wx, Below w8.heap.size w8 wx → OwnB wx W1.heap.size (.slice (some ⟨g, 0, none⟩) (n + 13) cv) F) := fun wx hx => own6.below hx
  have byC8 : Byt w8 (some ⟨g, 0, none⟩) (F.take r) := by
    right
    refine ⟨g, 0, rfl, fun j hj => ?_⟩
    have hjr : j < r := by simp at hj; omega
    rw [Nat.zero_add, at8_take _ _ _ hjr]
    exact (own_cell own6 (r := j) (by omega)).1
  go_wp2_with fail
  refine (open_any (some ⟨g, 0, none⟩) (F.take r) r cv w8 (by simp; omega) (by omega) (by omega) byC8 (nibsAt_below hN be6)).mono ?_
  rintro e w9 ⟨k9, v9, m9, rfl, b9, _⟩
  obtain ⟨E1, hE1⟩ : ∃ E1, E1 = openE (F.take r) := ⟨_, rfl⟩
  rw [← hE1] at hcut ⊢
  clear hE1
  have hE1' : ¬ ((E1 : Int) = 0) := by omega
  have hE1'' : ((E1 : Int) == 0) = false := by simpa using hE1'
  have own9 := OC.out w9 b9
  have be9 := be6.trans (b9.mono (by omega))
  have z9 := b9.size
  have hgw : w.heap.size ≤ g := by omega
  clear OC byC8 dc df own6 sl b9 b26 be6
  obtain ⟨dc, df⟩ := own_cell own9 (r := r) (by omega)
  obtain ⟨x, hx⟩ : ∃ x, x = F.getD r 0 ^^^ by8 := ⟨_, rfl⟩
  have hxor : bits .xor .u8 (at8 F r) (by8.toNat : Int) = (x.toNat : Int) := by rw [hx]; exact xor8 _ _
  have HX : Hid (x = F.getD r 0 ^^^ by8) := hx
  have O10 : Hid (OwnB (w9.setCell ⟨g, r, none⟩ (.int .u8 (x.toNat : Int))) W1.heap.size (.slice (some ⟨g, 0, none⟩) (n + 13) cv) (F.set r x)) := own_set own9 x (by omega)
  have be10 : Below w.heap.size w (w9.setCell ⟨g, r, none⟩ (.int .u8 (x.toNat : Int))) := be9.setCell hgw _
  have by10 : Byt (w9.setCell ⟨g, r, none⟩ (.int .u8 (x.toNat : Int))) (some ⟨g, 0, none⟩) (F.set r x) := .inr ⟨g, 0, rfl, fun j hj => by
    rw [Nat.zero_add]
    exact (own_cell O10.out hj).1⟩
  have HF : Hid (Calls Tryd.prog 8 #[.slice (some ⟨g, 0, none⟩) (n + 13) cv] (w9.setCell ⟨g, r, none⟩ (.int .u8 (x.toNat : Int))) fun e w' => ∃ (k : Int) (v : Value) (m : Int), e = .returned (.tuple #[.int .u8 k, v, .int .i64 m, .int .i64 (openE (F.set r x) : Int)]) ∧ Below w.heap.size w w') :=
    (open_any (some ⟨g, 0, none⟩) (F.set r x) (n + 13) cv _ (by rw [List.length_set]; exact LF) hcv (by omega) by10 (nibsAt_below hN be10)).mono fun e w' ⟨k, v, m, h1, h2, _⟩ => ⟨k, v, m, h1, be10.trans (h2.mono be10.size)⟩
  clear hx O10 be10 by10 own9
  go_wp2_with fail
  refine HF.out.mono ?_
  rintro e w11 ⟨k11, v11, m11, rfl, be11⟩
  clear HF
  by_cases hz : by8 = 0
  · have e2 : F.set r x = F := by
      rw [HX.out, hz]
      have hrl : r < F.length := by omega
      have : F.getD r 0 ^^^ 0 = F[r] := by simp [List.getElem?_eq_getElem hrl]
      rw [this, List.set_getElem_self]
    rw [e2, HO2.out]
    subst hz
    clear HX HO2 HC HT e2 hxor
    go_wp2
    go_ret
    exact ⟨rfl, be11⟩
  · have hE2 : openE (F.set r x) ≠ 0 := fun e => by
      have h3 := HT.out r x hr e
      rw [HX.out] at h3
      apply hz
      have h4 : F.getD r 0 ^^^ (F.getD r 0 ^^^ by8) = F.getD r 0 ^^^ F.getD r 0 := by rw [← h3]
      rw [← UInt8.xor_assoc, UInt8.xor_self, UInt8.zero_xor] at h4
      exact h4
    have hb0 : ¬ ((by8.toNat : Int) = 0) := fun e => hz (UInt8.toNat_inj.1 (by show by8.toNat = 0; omega))
    obtain ⟨E2, hE2e⟩ : ∃ E2, E2 = openE (F.set r x) := ⟨_, rfl⟩
    rw [← hE2e] at hE2 ⊢
    have hE2' : ¬ ((E2 : Int) = 0) := by omega
    have q1 : ((E2 : Int) == 0) = false := by simpa using hE2'
    have q2 : ((by8.toNat : Int) == 0) = false := by simpa using hb0
    clear hE2e HX HO2 HC HT hxor hz
    go_wp2
    all_goals go_ret
    all_goals exact ⟨ret_bool (by simp [q1, q2]), be11⟩
set_option maxRecDepth 100000 in
set_option maxHeartbeats 4000000 in
theorem torn_long (a : Option Addr) (n cap : Nat) (atv : Int) (by8 : UInt8) (a2 : Option Addr) (n2 c2 : Nat) (w : World) (hn : 16777216 < n) :
    Calls Tryd.prog 4 #[.slice a n cap, .agg #[.int .i64 atv, .int .u8 (by8.toNat : Int), .slice a2 n2 c2]] w fun e w' => e = .returned (.bool true) ∧ Below w.heap.size w w' := by
  have be0 : Below w.heap.size w (w.alloc (.cells #[.int .i64 atv, .int .u8 (by8.toNat : Int), .slice a2 n2 c2] 29)) := (Below.refl _ _).alloc (Nat.le_refl _) _
  have g0 : (w.alloc (.cells #[.int .i64 atv, .int .u8 (by8.toNat : Int), .slice a2 n2 c2] 29)).heap[w.heap.size]? = some (.cells #[.int .i64 atv, .int .u8 (by8.toNat : Int), .slice a2 n2 c2] 29 (0, 0)) := heap_alloc_new _ _
  have h' : (16777216 : Int) < (n : Int) := by omega
  go_enter Tryd.func4, Tryd.ntmps4
  go_wp2
  generalize (w.alloc (.cells #[.int .i64 atv, .int .u8 (by8.toNat : Int), .slice a2 n2 c2] 29)) = W0 at *
  have d0 := (cell_of_row W0 w.heap.size 0 _ _ _ g0).trans (show (#[.int .i64 atv, .int .u8 (by8.toNat : Int), .slice a2 n2 c2] : Array Value)[0]? = some (.int .i64 atv) from rfl)
  have d1 := (cell_of_row W0 w.heap.size 1 _ _ _ g0).trans (show (#[.int .i64 atv, .int .u8 (by8.toNat : Int), .slice a2 n2 c2] : Array Value)[1]? = some (.int .u8 (by8.toNat : Int)) from rfl)
  have d2 := (cell_of_row W0 w.heap.size 2 _ _ _ g0).trans (show (#[.int .i64 atv, .int .u8 (by8.toNat : Int), .slice a2 n2 c2] : Array Value)[2]? = some (.slice a2 n2 c2) from rfl)
  go_quiet (fail)
  have be1 : Below w.heap.size w (W0.drewN nq) := below_drewN be0 nq
  clear be0 g0 d0 d1 d2
  generalize (W0.drewN nq) = W1 at *
  go_wp2_with fail
  refine (seal_long 7 a n cap W1 hn).mono ?_
  rintro e w2 ⟨rfl, hw2⟩
  subst hw2
  go_wp2
  go_ret
  exact ⟨rfl, be1⟩
theorem torn_any (a : Option Addr) (l : List UInt8) (n cap : Nat) (atv : Int) (by8 : UInt8) (a2 : Option Addr) (T : List UInt8) (n2 c2 : Nat) (w : World) (hl : l.length = n) (hb : Byt w a l) (hT : T.length = n2) (hbT : Byt w a2 T) (hn2 : n2 ≤ 140737488351232)
    (h0 : -9223372036854775808 ≤ atv) (h1 : atv ≤ 9223372036854775807) (hN : NibsAt w) :
    Calls Tryd.prog 4 #[.slice a n cap, .agg #[.int .i64 atv, .int .u8 (by8.toNat : Int), .slice a2 n2 c2]] w fun e w' => e = .returned (.bool true) ∧ Below w.heap.size w w' := by
  by_cases hn : n ≤ 16777216
  · exact torn_short a l n cap atv by8 a2 T n2 c2 w hl hb hn hT hbT hn2 h0 h1 hN
  · exact torn_long a n cap atv by8 a2 n2 c2 w (by omega)
end Go.Proofs.YtcipgnocmilkpaaDoor
