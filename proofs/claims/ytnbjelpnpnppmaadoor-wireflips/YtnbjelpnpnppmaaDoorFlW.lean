import Derived.Test.YtnbjelpnpnppmaaDoorTu
import Derived.Test.YtnbjelpnpnppmaaDoorLive
namespace Go.Proofs.YtnbjelpnpnppmaaDoor
open Go.RowKit
set_option linter.unusedVariables false
set_option linter.unusedSimpArgs false

def spoil (kd : UInt8) (a : Option Addr) (n cap : Nat) (atv : Int) (mk : UInt8) (cut : Int) (a2 : Option Addr) (n2 c2 : Nat) : Array Value :=
  #[.int .u8 (kd.toNat : Int), .slice a n cap, .int .i64 atv, .int .u8 (mk.toNat : Int), .int .i64 cut, .slice a2 n2 c2]
theorem spoil_cells {w : World} {q : Nat} {kd : UInt8} {a : Option Addr} {n cap : Nat} {atv : Int} {mk : UInt8} {cut : Int} {a2 : Option Addr} {n2 c2 : Nat} (h : w.heap[q]? = some (.cells (spoil kd a n cap atv mk cut a2 n2 c2) 25 (0, 0))) :
    w.cell? ⟨q, 0, none⟩ = some (.int .u8 (kd.toNat : Int)) ∧ w.cell? ⟨q, 1, none⟩ = some (.slice a n cap) ∧ w.cell? ⟨q, 2, none⟩ = some (.int .i64 atv) ∧ w.cell? ⟨q, 3, none⟩ = some (.int .u8 (mk.toNat : Int)) ∧ w.cell? ⟨q, 4, none⟩ = some (.int .i64 cut) ∧ w.cell? ⟨q, 5, none⟩ = some (.slice a2 n2 c2) :=
  ⟨(cell_of_row w q 0 _ _ _ h).trans rfl, (cell_of_row w q 1 _ _ _ h).trans rfl, (cell_of_row w q 2 _ _ _ h).trans rfl, (cell_of_row w q 3 _ _ _ h).trans rfl, (cell_of_row w q 4 _ _ _ h).trans rfl, (cell_of_row w q 5 _ _ _ h).trans rfl⟩

set_option maxRecDepth 100000 in
set_option maxHeartbeats 4000000 in
theorem flips_long (kd : UInt8) (a : Option Addr) (n cap : Nat) (atv : Int) (mk : UInt8) (cut : Int) (a2 : Option Addr) (n2 c2 : Nat) (w : World) (hn : 16777216 < n) :
    Calls Tryd.prog 4 #[.agg (spoil kd a n cap atv mk cut a2 n2 c2)] w fun e w' => e = .returned (.bool true) ∧ Below w.heap.size w w' := by
  have be0 : Below w.heap.size w (w.alloc (.cells (spoil kd a n cap atv mk cut a2 n2 c2) 25)) := (Below.refl _ _).alloc (Nat.le_refl _) _
  have g0 : (w.alloc (.cells (spoil kd a n cap atv mk cut a2 n2 c2) 25)).heap[w.heap.size]? = some (.cells (spoil kd a n cap atv mk cut a2 n2 c2) 25 (0, 0)) := heap_alloc_new _ _
  have zz : (w.alloc (.cells (spoil kd a n cap atv mk cut a2 n2 c2) 25)).heap.size = w.heap.size + 1 := by simp
  have h' : (16777216 : Int) < (n : Int) := by omega
  go_enter Tryd.func4, Tryd.ntmps4
  go_wp2_with fail
  generalize (w.alloc (.cells (spoil kd a n cap atv mk cut a2 n2 c2) 25)) = W0 at *
  refine (live_any W0).mono ?_
  rintro e w1 ⟨rfl, b1⟩
  have g1 := (b1.block w.heap.size (by omega)).trans g0
  have be1 := be0.trans (b1.mono (by omega))
  obtain ⟨d0, d1, d2, d3, d4, d5⟩ := spoil_cells g1
  clear g0 g1 b1 be0 zz
  go_wp2_with fail
  refine (seal_long kd.toNat a n cap w1 hn).mono ?_
  rintro e w2 ⟨rfl, hw2⟩
  subst hw2
  go_wp2
  go_ret
  exact ⟨rfl, be1⟩

set_option maxRecDepth 100000 in
set_option maxHeartbeats 4000000 in
theorem flips_short (kd : UInt8) (a : Option Addr) (l : List UInt8) (n cap : Nat) (atv : Int) (mk : UInt8) (cut : Int) (a2 : Option Addr) (T : List UInt8) (n2 c2 : Nat) (w : World) (hl : l.length = n) (hb : Byt w a l) (hn : n ≤ 16777216) (hT : T.length = n2) (hbT : Byt w a2 T) (hn2 : n2 ≤ 140737488351232) (hN : NibsAt w) :
    Calls Tryd.prog 4 #[.agg (spoil kd a n cap atv mk cut a2 n2 c2)] w fun e w' => e = .returned (.bool true) ∧ Below w.heap.size w w' := by
  have be0 : Below w.heap.size w (w.alloc (.cells (spoil kd a n cap atv mk cut a2 n2 c2) 25)) := (Below.refl _ _).alloc (Nat.le_refl _) _
  have g0 : (w.alloc (.cells (spoil kd a n cap atv mk cut a2 n2 c2) 25)).heap[w.heap.size]? = some (.cells (spoil kd a n cap atv mk cut a2 n2 c2) 25 (0, 0)) := heap_alloc_new _ _
  have zz : (w.alloc (.cells (spoil kd a n cap atv mk cut a2 n2 c2) 25)).heap.size = w.heap.size + 1 := by simp
  obtain ⟨q, hq⟩ : ∃ q, q = w.heap.size := ⟨_, rfl⟩
  go_enter Tryd.func4, Tryd.ntmps4
  go_wp2_with fail
  generalize (w.alloc (.cells (spoil kd a n cap atv mk cut a2 n2 c2) 25)) = W0 at *
  rw [← hq] at g0 zz ⊢
  have hqw : w.heap.size ≤ q := by omega
  have hqw' : q ≤ w.heap.size := by omega
  clear hq
  refine (live_any W0).mono ?_
  rintro e w1 ⟨rfl, b1⟩
  have g1 := (b1.block q (by omega)).trans g0
  have be1 := be0.trans (b1.mono (by omega))
  have z1 := be1.size
  have zq1 : q < w1.heap.size := by have := b1.size; omega
  obtain ⟨d0, d1, d2, d3, d4, d5⟩ := spoil_cells g1
  clear g0 b1 be0 zz
  go_wp2_with fail
  refine (seal_any kd kd.toNat rfl a l n cap w1 hl (byt_below hb be1) hn (nibsAt_below hN be1)).mono ?_
  rintro e w2 ⟨v2, rfl, own2, b2⟩
  have be2 := be1.trans (b2.mono z1)
  have z2 := b2.size
  have g2 := (b2.block q zq1).trans g1
  have LF : (frame kd l).length = n + 13 := by rw [frame_len, hl]
  have HO : Hid (openE (frame kd l ++ T) = 0) := open_frame kd l T (by omega)
  have HA : Hid (at8 (frame kd l ++ T) 0 = (kd.toNat : Int)) := frame_at0 kd l T
  have HR : Hid (rd (frame kd l ++ T) 1 = n) := by show _ = _; rw [← hl]; exact frame_rd1 kd l T (by omega)
  have HBd : Hid (((frame kd l ++ T).drop 9).take n = l) := by show _ = _; rw [← hl]; exact frame_body kd l T
  have HC : Hid (∀ i x c, c < n + 13 → openE (((frame kd l).set i x).take c) ≠ 0) := fun i x c hc => open_cutS kd l i x c (by omega) (by omega)
  have HC0 : Hid (∀ c, c < n + 13 → openE ((frame kd l).take c) ≠ 0) := fun c hc => open_cut kd l c (by omega) (by omega)
  have HT : Hid (∀ r x, r < n + 13 → (frame kd l).getD r 0 ≠ x → openE ((frame kd l).set r x ++ T) ≠ 0) := fun r x hr hne ho => hne (open_tail kd l T r x (by omega) (by omega) ho)
  generalize frame kd l = F at *
  obtain ⟨g, cv, rfl, hcv, hcl, hg1, hg2⟩ := own2.open1 (by omega)
  rw [LF] at own2 hcv ⊢
  clear d0 d1 d2 d3 d4 d5 g1
  obtain ⟨d0, d1, d2, d3, d4, d5⟩ := spoil_cells g2
  have BF : Hid (Byt w2 (some ⟨g, 0, none⟩) F) := .inr ⟨g, 0, rfl, fun j hj => by rw [Nat.zero_add]; exact hcl j hj⟩
  have zq2 : q < w2.heap.size := by omega
  clear hcl own2 b2
  go_wp2_with fail
  have beA : Below w2.heap.size w2 (w2.drew.alloc (.cells #[] 5)) := (below_drewN (Below.refl _ _) 1).alloc (Nat.le_refl _) _
  have O0 : Hid (OwnB (w2.drew.alloc (.cells #[] 5)) w2.heap.size (.slice (some ⟨w2.heap.size, 0, none⟩) 0 0) []) := ⟨rfl, .inr ⟨w2.heap.size, 0, #[], rfl, Nat.le_refl _, heap_alloc_new _ _, by simp, by simp [maxLen], rfl, rfl⟩⟩
  have B0 : Hid (Byt (w2.drew.alloc (.cells #[] 5)) (some ⟨g, 0, none⟩) F) := byt_below BF.out beA
  have S0 : Hid ((([] : List UInt8).length + F.length) + (([] : List UInt8).length + F.length) / 4 + 192 ≤ 281474976710656) := by show _ ≤ _; simp; omega
  have Z0 : Hid (w2.heap.size ≤ (w2.drew.alloc (.cells #[] 5)).heap.size) := by show _ ≤ _; simp
  have sA : (w2.drew.alloc (.cells #[] 5)).cell? ⟨q, 5, none⟩ = some (.slice a2 n2 c2) := (beA.cell (p := ⟨q, 5, none⟩) zq2).trans d5
  have sD : w2.drew.cell? ⟨q, 5, none⟩ = some (.slice a2 n2 c2) := d5
  have S3 : Hid ((F.length + T.length) + (F.length + T.length) / 4 + 192 ≤ 281474976710656) := by show _ ≤ _; omega
  have BT : Hid (∀ wx, Below w2.heap.size w2 wx → Byt wx a2 T) := fun wx hx => byt_below hbT (be2.trans (hx.mono (by omega)))
  have LX : (F ++ T).length = n + 13 + n2 := by rw [List.length_append]; omega
  go_region_held3 (fun w' => w'.cell? ⟨q, 5, none⟩ = some (.slice a2 n2 c2)) (first | assumption | go_keep) (first
    | (refine step_app rfl (.tmp 44) (.tmp 45) rfl w2.heap.size (.slice (some ⟨w2.heap.size, 0, none⟩) 0 0) [] (by first | rfl | simp [Act.eval, Act.put]) O0.out (some ⟨g, 0, none⟩) (n + 13) cv F (by first | rfl | simp [Act.eval, Act.put]) LF B0.out S0.out Z0.out ?_
       intro v3 w3 own3 gr3
       have b3 : Below w2.heap.size w2 w3 := beA.grown gr3 Z0.out (fun k hk => (World.ownsRow.lt O0.out k hk).1)
       have own3' : OwnB w3 w2.heap.size v3 F := by simpa using own3
       obtain ⟨a3, c3, rfl, _⟩ := own3'.open
       rw [LF] at own3' ⊢
       have O3 : Hid (OwnB w3 w2.heap.size (.slice a3 (n + 13) c3) F) := own3'
       have Z3 : Hid (w2.heap.size ≤ w3.heap.size) := b3.size
       have s3 : w3.cell? ⟨q, 5, none⟩ = some (.slice a2 n2 c2) := (b3.cell (p := ⟨q, 5, none⟩) zq2).trans d5
       clear own3 own3' gr3)
    | (refine step_app rfl (.tmp 46) (.tmp 48) rfl w2.heap.size (.slice a3 (n + 13) c3) F (by first | rfl | simp [Act.eval, Act.put]) O3.out a2 n2 c2 T (by first | rfl | simp [Act.eval, Act.put]) hT (BT.out _ b3) S3.out Z3.out ?_
       intro v4 w4 own4 gr4
       have b4 : Below w2.heap.size w2 w4 := b3.grown gr4 Z3.out (fun k hk => (World.ownsRow.lt O3.out k hk).1)
       obtain ⟨a4, c4, rfl, hc4, by4, _⟩ := own4.open
       rw [LX] at hc4 ⊢
       have s4 : w4.cell? ⟨q, 5, none⟩ = some (.slice a2 n2 c2) := (b4.cell (p := ⟨q, 5, none⟩) zq2).trans d5
       clear own4 gr4))
  clear sA sD O0 B0 S0 Z0 beA O3 Z3 s3 b3
  rename_i hHeld
  clear hHeld s4
  clear d0 d1 d2 d3 d4 d5
  have g4 := (b4.block q zq2).trans g2
  obtain ⟨d0, d1, d2, d3, d4, d5⟩ := spoil_cells g4
  have z4 := b4.size
  have be4 := be2.trans (b4.mono (by omega))
  have BF4 : Hid (Byt w4 (some ⟨g, 0, none⟩) F) := byt_below BF.out b4
  have O5 : Hid (Calls Tryd.prog 7 #[.slice a4 (n + 13 + n2) c4] w4 fun e w' => ∃ v5, e = .returned (.tuple #[.int .u8 (kd.toNat : Int), v5, .int .i64 (9 + (n : Int) + 4), .int .i64 0]) ∧ Below w4.heap.size w4 w' ∧ OwnB w' w4.heap.size v5 l) :=
    (open_any a4 (F ++ T) (n + 13 + n2) c4 w4 LX hc4 (by omega) by4 (nibsAt_below hN be4)).mono fun e w' ⟨k5, v5, m5, he, b5, hok, _⟩ => by
      obtain ⟨h1, h2, h3⟩ := hok HO.out
      rw [HR.out, HBd.out] at h3
      rw [HO.out, h1, h2, HA.out, HR.out] at he
      exact ⟨v5, he, b5, h3⟩
  clear by4 hc4 HO HA HR HBd BF b4 g2
  go_wp2_with fail
  refine O5.out.mono ?_
  rintro e w5 ⟨v5, rfl, b5, own5⟩
  have be5 := be4.trans (b5.mono (by omega))
  have z5 := b5.size
  have g5 := (b5.block q (by omega)).trans g4
  have BF5 : Hid (Byt w5 (some ⟨g, 0, none⟩) F) := byt_below BF4.out b5
  obtain ⟨a5, c5, rfl, _, by5, _⟩ := own5.open
  rw [hl]
  clear d0 d1 d2 d3 d4 d5 g4 O5 BF4 own5 b5
  obtain ⟨d0, d1, d2, d3, d4, d5⟩ := spoil_cells g5
  have S6 : Hid (Calls Tryd.prog 8 #[.slice a5 n c5, .slice a n cap] w5 fun e w' => e = .returned (.bool true) ∧ ∃ m, w' = w5.drewN m) := same_any a5 a l n c5 cap w5 hl by5 (byt_below hb be5) (by omega)
  clear by5
  go_wp2_with fail
  refine S6.out.mono ?_
  rintro e w6 ⟨rfl, m6, rfl⟩
  have be6 : Below w.heap.size w (w5.drewN m6) := below_drewN be5 m6
  have g6 : (w5.drewN m6).heap[q]? = some (.cells (spoil kd a n cap atv mk cut a2 n2 c2) 25 (0, 0)) := g5
  have BF6 : Hid (Byt (w5.drewN m6) (some ⟨g, 0, none⟩) F) := BF5.out
  have z6 : w5.heap.size ≤ (w5.drewN m6).heap.size := Nat.le_refl _
  clear d0 d1 d2 d3 d4 d5 g5 BF5 be5 S6
  generalize (w5.drewN m6) = w6 at *
  obtain ⟨d0, d1, d2, d3, d4, d5⟩ := spoil_cells g6
  have T7 : Hid (Calls Tryd.prog 9 #[.slice (some ⟨g, 0, none⟩) (n + 13) cv, .int .i64 atv, .int .u8 (mk.toNat : Int)] w6 fun e w' => TuOut w6 w' F (n + 13) e) := turned_any g (n + 13) cv F atv mk w6 LF (by omega) (by omega) BF6.out
  go_wp2_with fail
  refine T7.out.mono ?_
  rintro e w7 ⟨v7, F', any, rfl, own7, b7, hturn⟩
  have be7 := be6.trans (b7.mono (by omega))
  have z7 := b7.size
  have g7 := (b7.block q (by omega)).trans g6
  clear d0 d1 d2 d3 d4 d5 g6 T7 BF6 b7
  obtain ⟨d0, d1, d2, d3, d4, d5⟩ := spoil_cells g7
  have LF' : F'.length = n + 13 := by
    rcases hturn with ⟨_, rfl⟩ | ⟨_, r, x, _, rfl, _⟩
    · exact LF
    · rw [List.length_set]; exact LF
  have HCX : Hid (∀ c, c < n + 13 → openE (F'.take c) ≠ 0) := by
    show ∀ c, c < n + 13 → openE (F'.take c) ≠ 0
    intro c hc
    rcases hturn with ⟨_, rfl⟩ | ⟨_, r, x, _, rfl, _⟩
    · exact HC0.out c hc
    · exact HC.out r x c hc
  have HTX : Hid (any = true → openE (F' ++ T) ≠ 0) := by
    show any = true → openE (F' ++ T) ≠ 0
    intro ha
    rcases hturn with ⟨h, _⟩ | ⟨_, r, x, hr, rfl, hne⟩
    · rw [ha] at h; cases h
    · exact HT.out r x hr hne
  clear hturn HC HC0 HT
  obtain ⟨g3, cv3, rfl, hcv3, hcl3, hg31, hg32⟩ := own7.open1 (by omega)
  rw [LF'] at hcv3 own7 ⊢
  have B7 : Hid (Byt w7 (some ⟨g3, 0, none⟩) F') := .inr ⟨g3, 0, rfl, fun j hj => by rw [Nat.zero_add]; exact hcl3 j hj⟩
  have O7 : Hid (OwnB w7 w6.heap.size (.slice (some ⟨g3, 0, none⟩) (n + 13) cv3) F') := own7
  clear own7 hcl3
  by_cases hcut : 0 < cut
  · obtain ⟨c, hc⟩ : ∃ c : Nat, c = (n + 13) - min cut.toNat (n + 13) := ⟨_, rfl⟩
    have hcn : c < n + 13 := by omega
    have OC : Hid (Calls Tryd.prog 7 #[.slice (some ⟨g3, 0, none⟩) c cv3] w7 fun e w' => ∃ E : Nat, e = .returned (.tuple #[.int .u8 0, .slice none 0 0, .int .i64 0, .int .i64 (E : Int)]) ∧ E ≠ 0 ∧ Below w.heap.size w w') :=
      (open_any (some ⟨g3, 0, none⟩) (F'.take c) c cv3 w7 (by rw [List.length_take]; omega) (by omega) (by omega) (.inr ⟨g3, 0, rfl, fun j hj => by
          have hjc : j < c := by simp at hj; omega
          rw [Nat.zero_add, at8_take _ _ _ hjc]
          exact (own_cell O7.out (r := j) (by omega)).1⟩) (nibsAt_below hN be7)).mono fun e w' ⟨k8, v8, m8, he, b8, _, hbad⟩ => by
        obtain ⟨h1, h2, h3⟩ := hbad (HCX.out c hcn)
        rw [h1, h2, h3] at he
        exact ⟨_, he, HCX.out c hcn, be7.trans (b8.mono (by omega))⟩
    have sl := slice_to g3 0 (n + 13) cv3 c (by omega) hcv3 (by omega)
    by_cases hbig : (n : Int) + 13 < cut
    · have hc0 : c = 0 := by omega
      subst hc0
      simp only [Int.cast_ofNat_Int] at sl
      clear hc
      go_wp2_with fail
      refine OC.out.mono ?_
      rintro e w8 ⟨E, rfl, hE, be8⟩
      have hE' : ¬ ((E : Int) = 0) := by omega
      have hEb : ((E : Int) != 0) = true := by simpa using hE'
      clear OC hE
      go_wp2
      go_ret
      exact ⟨ret_bool (by simp [hEb]), be8⟩
    · have hce : (n : Int) + 13 - cut = (c : Int) := by omega
      clear hc
      go_wp2_with fail
      refine OC.out.mono ?_
      rintro e w8 ⟨E, rfl, hE, be8⟩
      have hE' : ¬ ((E : Int) = 0) := by omega
      have hEb : ((E : Int) != 0) = true := by simpa using hE'
      clear OC hE
      go_wp2
      go_ret
      exact ⟨ret_bool (by simp [hEb]), be8⟩
  · cases any with
    | false =>
      clear HCX HTX B7 O7
      go_wp2
      go_ret
      exact ⟨rfl, be7⟩
    | true =>
      have B8 : Hid (Byt w7 a2 T) := byt_below hbT be7
      have S8 : Hid ((F'.length + T.length) + (F'.length + T.length) / 4 + 192 ≤ 281474976710656) := by show _ ≤ _; omega
      have Z8 : Hid (w6.heap.size ≤ w7.heap.size) := z7
      clear B7
      go_wp2_with (first | (at_builtin; refine wpList_appw rfl (.tmp 128) (.tmp 130) rfl w6.heap.size (.slice (some ⟨g3, 0, none⟩) (n + 13) cv3) F' rfl O7.out a2 n2 c2 T rfl hT B8.out S8.out Z8.out ?_) | fail)
      intro v9 w9 own9 gr9
      have be9 : Below w.heap.size w w9 := be7.grown gr9 (by omega) (fun k hk => by have := (World.ownsRow.lt O7.out k hk).1; omega)
      have z9 := be9.size
      obtain ⟨a9, c9, rfl, hc9, by9, _⟩ := own9.open
      have L9 : (F' ++ T).length = n + 13 + n2 := by rw [List.length_append]; omega
      rw [L9] at hc9 ⊢
      have OC : Hid (Calls Tryd.prog 7 #[.slice a9 (n + 13 + n2) c9] w9 fun e w' => ∃ E : Nat, e = .returned (.tuple #[.int .u8 0, .slice none 0 0, .int .i64 0, .int .i64 (E : Int)]) ∧ E ≠ 0 ∧ Below w.heap.size w w') :=
        (open_any a9 (F' ++ T) (n + 13 + n2) c9 w9 L9 hc9 (by omega) by9 (nibsAt_below hN be9)).mono fun e w' ⟨k8, v8, m8, he, b8, _, hbad⟩ => by
          obtain ⟨h1, h2, h3⟩ := hbad (HTX.out trivial)
          rw [h1, h2, h3] at he
          exact ⟨_, he, HTX.out trivial, be9.trans (b8.mono (by omega))⟩
      clear own9 gr9 by9 B8 S8 Z8 O7 HTX HCX
      go_wp2_with fail
      refine OC.out.mono ?_
      rintro e w8 ⟨E, rfl, hE, be8⟩
      have hE' : ¬ ((E : Int) = 0) := by omega
      have hEb : ((E : Int) != 0) = true := by simpa using hE'
      clear OC hE
      go_wp2
      go_ret
      exact ⟨ret_bool (by simp [hEb]), be8⟩
theorem flips_any (kd : UInt8) (a : Option Addr) (l : List UInt8) (n cap : Nat) (atv : Int) (mk : UInt8) (cut : Int) (a2 : Option Addr) (T : List UInt8) (n2 c2 : Nat) (w : World) (hl : l.length = n) (hb : Byt w a l) (hT : T.length = n2) (hbT : Byt w a2 T) (hn2 : n2 ≤ 140737488351232) (hN : NibsAt w) :
    Calls Tryd.prog 4 #[.agg #[.int .u8 (kd.toNat : Int), .slice a n cap, .int .i64 atv, .int .u8 (mk.toNat : Int), .int .i64 cut, .slice a2 n2 c2]] w fun e w' => e = .returned (.bool true) ∧ Below w.heap.size w w' := by
  by_cases hn : n ≤ 16777216
  · exact flips_short kd a l n cap atv mk cut a2 T n2 c2 w hl hb hn hT hbT hn2 hN
  · exact flips_long kd a n cap atv mk cut a2 n2 c2 w (by omega)
end Go.Proofs.YtnbjelpnpnppmaaDoor
