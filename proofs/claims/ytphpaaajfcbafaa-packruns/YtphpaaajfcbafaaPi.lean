import Derived.Test.YtphpaaajfcbafaaPh
namespace Go.Proofs.Ytphpaaajfcbafaa.K
open Go.RowKit
set_option linter.unusedVariables false
set_option linter.unusedSimpArgs false

set_option maxHeartbeats 2000000 in
theorem sameN_any (a1 a2 : Option Addr) (l : List Nat) (n c1 c2 : Nat) (w : World) (hn : l.length = n) (h1 : Nums w a1 l) (h2 : Nums w a2 l) (hl : n ≤ 17592186044416) :
    Calls Try.prog 9 #[.slice a1 n c1, .slice a2 n c2] w fun e w' => e = .returned (.bool true) ∧ ∃ m, w' = w.drewN m := by
  subst hn
  go_enter Try.func9, Try.ntmps9
  go_wp2
  go_loopw [5] (fun i wr => ∃ k : Nat, k ≤ l.length ∧ i = .int .i64 k ∧ ∃ m, wr = w.drewN m) (fun i _ => l.length - (intOf i).toNat)
  case atStart => exact ⟨0, Nat.zero_le _, rfl, 0, rfl⟩
  case round =>
    obtain ⟨k, hk, rfl, m, rfl⟩ := hrel
    by_cases hlt : k < l.length
    · rcases h1 with rfl | ⟨b1, o1, rfl, d1⟩
      · simp at hlt
      rcases h2 with rfl | ⟨b2, o2, rfl, d2⟩
      · simp at hlt
      have e1 := d1 k hlt
      have e2 := d2 k hlt
      generalize l.getD k 0 = x at *
      go_wp2
      go_quiet (fail)
      go_wp2
      go_roundw
      case rel => exact ⟨k + 1, by omega, by go_num, _, rfl⟩
      case measure => simp [intOf]; omega
    · have hk2 : k = l.length := by omega
      subst hk2
      go_wp2
      go_ret
      exact ⟨rfl, m, rfl⟩
set_option maxHeartbeats 2000000 in
theorem sameS_any (a1 a2 : Option Addr) (l : List Int) (n c1 c2 : Nat) (w : World) (hn : l.length = n) (h1 : Sgn w a1 l) (h2 : Sgn w a2 l) (hl : n ≤ 17592186044416) :
    Calls Try.prog 10 #[.slice a1 n c1, .slice a2 n c2] w fun e w' => e = .returned (.bool true) ∧ ∃ m, w' = w.drewN m := by
  subst hn
  go_enter Try.func10, Try.ntmps10
  go_wp2
  go_loopw [5] (fun i wr => ∃ k : Nat, k ≤ l.length ∧ i = .int .i64 k ∧ ∃ m, wr = w.drewN m) (fun i _ => l.length - (intOf i).toNat)
  case atStart => exact ⟨0, Nat.zero_le _, rfl, 0, rfl⟩
  case round =>
    obtain ⟨k, hk, rfl, m, rfl⟩ := hrel
    by_cases hlt : k < l.length
    · rcases h1 with rfl | ⟨b1, o1, rfl, d1⟩
      · simp at hlt
      rcases h2 with rfl | ⟨b2, o2, rfl, d2⟩
      · simp at hlt
      have e1 := d1 k hlt
      have e2 := d2 k hlt
      generalize l.getD k 0 = x at *
      go_wp2
      go_quiet (fail)
      go_wp2
      go_roundw
      case rel => exact ⟨k + 1, by omega, by go_num, _, rfl⟩
      case measure => simp [intOf]; omega
    · have hk2 : k = l.length := by omega
      subst hk2
      go_wp2
      go_ret
      exact ⟨rfl, m, rfl⟩
theorem hu23 : Try.prog.underlying 23 = some (.slice (Try.prog.elem 23)) := by kernel_rfl
theorem he23 : Try.prog.elem 23 = 2 := by kernel_rfl
theorem to23 (b off n cap k : Nat) (h : k ≤ cap) (h0 : 0 < cap) (w : World) :
    (Instr.sliceAt 23 (.slice (some ⟨b, off, none⟩) n cap) none (some (.int .i64 (k : Int))) none).run Try.prog w = .ok (.slice (some ⟨b, off, none⟩) k cap) w := by
  obtain ⟨i, hi, _, hs, _⟩ := info_parts info2
  rw [run_sliceAt_slice w _ _ _ _ _ hu23, run_slice_h w _ _ _ _ hu23 .i64 _ (by omega) (by omega), he23]
  simp [sizeOf, typeInfo, hi, hs, sliced, Addr.add_mid]
/-- A row of the call's own that is not empty. -/
theorem OwnV.open1 {w : World} {base : Nat} {e : TypeId} {v : Value} {X : List Value} (h : OwnV w base e v X) (h0 : 0 < X.length) :
    ∃ g cap, v = .slice (some ⟨g, 0, none⟩) X.length cap ∧ X.length ≤ cap ∧ g < w.heap.size ∧ ∀ j u, X[j]? = some u → w.cell? ⟨g, j, none⟩ = some u := by
  obtain ⟨a, cap, e1, h1, h2, h3⟩ := h.open
  rcases h2 with rfl | ⟨b, off, rfl, hc⟩
  · simp at h0
  · rcases h.2 with ⟨rfl, hn⟩ | ⟨g, cap2, cur, e2, hbg, hg, rest⟩
    · omega
    · rw [e2] at e1
      simp only [Value.slice.injEq, Option.some.injEq, Addr.mk.injEq] at e1
      obtain ⟨⟨rfl, rfl, _⟩, _, rfl⟩ := e1
      exact ⟨g, cap2, e2, h1, (Array.getElem?_eq_some_iff.1 hg).1, fun j u hj => by have := hc j u hj; rwa [Nat.zero_add] at this⟩
/-- What was handed on: numbers, and one mark behind them. -/
structure Mk (W : World) (g cap : Nat) (X : List Value) (m : Value) : Prop where
  lt : g < W.heap.size
  room : X.length + 1 ≤ cap
  cells : ∀ j u, (X ++ [m])[j]? = some u → W.cell? ⟨g, j, none⟩ = some u
theorem Mk.below {W W' : World} {g cap : Nat} {X : List Value} {m : Value} (h : Mk W g cap X m) (hb : Below W.heap.size W W') : Mk W' g cap X m :=
  ⟨Nat.lt_of_lt_of_le h.lt hb.size, h.room, fun j u hj => (hb.cell (p := ⟨g, j, none⟩) h.lt).trans (h.cells j u hj)⟩
theorem Mk.vals {W : World} {g cap : Nat} {X : List Value} {m : Value} (h : Mk W g cap X m) : Vals W (some ⟨g, 0, none⟩) X :=
  .inr ⟨g, 0, rfl, fun j u hj => by
    rw [Nat.zero_add]
    exact h.cells j u (by rw [List.getElem?_append_left (List.getElem?_eq_some_iff.1 hj).1]; exact hj)⟩
theorem Mk.mark {W : World} {g cap : Nat} {X : List Value} {m : Value} (h : Mk W g cap X m) : W.cell? ⟨g, X.length, none⟩ = some m := h.cells _ _ (by simp)
theorem Mk.of {W : World} {base : Nat} {e : TypeId} {v : Value} {X : List Value} {m : Value} (h : OwnV W base e v (X ++ [m])) : ∃ g cap, v = .slice (some ⟨g, 0, none⟩) (X.length + 1) cap ∧ Mk W g cap X m := by
  obtain ⟨g, cap, e1, h1, h2, h3⟩ := h.open1 (by simp)
  refine ⟨g, cap, by rw [e1]; simp, ⟨h2, by simpa using h1, h3⟩⟩
set_option maxRecDepth 100000 in
set_option maxHeartbeats 4000000 in
theorem runs_law (a1 : Option Addr) (L : List Nat) (n1 cap1 : Nat) (a2 : Option Addr) (D : List Int) (n2 cap2 : Nat) (w : World) (hn1 : L.length = n1) (hc1 : n1 ≤ cap1) (h1 : Nums w a1 L) (hv : ∀ x ∈ L, x < 18446744073709551616) (hb1 : L.length ≤ 17592186044416)
    (hn2 : D.length = n2) (hc2 : n2 ≤ cap2) (h2 : Sgn w a2 D) (hb2 : D.length ≤ 17592186044416) :
    Calls Try.prog 3 #[.slice a1 n1 cap1, .slice a2 n2 cap2] w fun e w' => e = .returned (.bool true) ∧ Below w.heap.size w w' := by
  have l1 := uC_len L
  have l2 := sC_len D
  rw [hn1] at l1
  rw [hn2] at l2
  have O0 := Hid.mk' (ownV_empty w 24)
  have be0 : Below w.heap.size w (w.alloc (.cells #[] 24)) := (Below.refl _ _).alloc (Nat.le_refl _) _
  have BE0 := Hid.mk' be0
  have V0 := Hid.mk' ((nums_vals h1).below be0)
  have HL0 : Hid (([] : List Value).length + (uC L).length ≤ 28000000000000) := by show _ ≤ _; rw [uC_len]; simp; omega
  have HN1 := Hid.mk' h1
  have HS2 := Hid.mk' h2
  have HV := Hid.mk' hv
  clear be0 h1 h2 hv
  go_enter Try.func3, Try.ntmps3
  go_wp2_with (first | (at_builtin; refine wpList_appV rfl (.tmp 7) (.tmp 8) 22 24 (.int .u64 0) Try.underlying22 info24 rfl rfl w.heap.size (.slice (some ⟨w.heap.size, 0, none⟩) 0 0) [] rfl O0.out a1 n1 cap1 (uC L) rfl l1 V0.out (uC_one L) HL0.out BE0.out.size ?_) | fail)
  intro v1 w1 own1 gr1 _
  have B1 : Hid (Below w.heap.size w w1) := below_ownV BE0.out O0.out gr1 BE0.out.size
  obtain ⟨av1, cv1, rfl, _, _, _⟩ := own1.open
  rw [l1] at own1 ⊢
  clear gr1 O0 V0 HL0 BE0
  have be1 : Below w1.heap.size w1 (w1.alloc (.cells #[.int .u64 77] 24)) := (Below.refl _ _).alloc (Nat.le_refl _) _
  have O1 : Hid (OwnV (w1.alloc (.cells #[.int .u64 77] 24)) w.heap.size 24 (.slice av1 n1 cv1) (uC L)) := own1.below be1
  have V1 : Hid (Vals (w1.alloc (.cells #[.int .u64 77] 24)) (some ⟨w1.heap.size, 0, none⟩) [.int .u64 77]) := vals_lit _ _ _
  have Z1 : Hid (w.heap.size ≤ (w1.alloc (.cells #[.int .u64 77] 24)).heap.size) := Nat.le_trans B1.out.size be1.size
  have BA1 : Hid (Below w.heap.size w (w1.alloc (.cells #[.int .u64 77] 24))) := B1.out.trans (be1.mono B1.out.size)
  have HL1 : Hid ((uC L).length + [Value.int .u64 77].length ≤ 28000000000000) := by show _ ≤ _; rw [uC_len]; simp; omega
  clear own1 be1 B1
  go_wp2_with (first | (at_builtin; refine wpList_appV rfl (.tmp 9) (.tmp 10) 22 24 (.int .u64 0) Try.underlying22 info24 rfl rfl w.heap.size (.slice av1 n1 cv1) (uC L) rfl O1.out (some ⟨w1.heap.size, 0, none⟩) 1 1 [.int .u64 77] rfl rfl V1.out (by intro u hu; simp at hu; rw [hu]; rfl) HL1.out Z1.out ?_) | fail)
  intro v2 w2 own2 gr2 _
  have B2 : Hid (Below w.heap.size w w2) := below_ownV BA1.out O1.out gr2 Z1.out
  obtain ⟨g, cp, rfl, mk⟩ := Mk.of own2
  rw [l1]
  have MK := Hid.mk' mk
  have hcp := mk.room
  rw [l1] at hcp
  have s1 := fun W => to22 g 0 (n1 + 1) cp n1 (by omega) (by omega) W
  have s2 := fun W => to22 g 0 n1 cp (n1 + 1) (by omega) (by omega) W
  clear gr2 own2 mk O1 V1 Z1 BA1 HL1
  have be2 : Below w2.heap.size w2 (w2.alloc (.cells #[] 2)) := (Below.refl _ _).alloc (Nat.le_refl _) _
  have BE2 : Hid (Below w2.heap.size w2 (w2.alloc (.cells #[] 2))) := be2
  have O2 := Hid.mk' (ownV_empty w2 2)
  have V2 : Hid (Vals (w2.alloc (.cells #[] 2)) a2 (sC D)) := (sgn_vals ((HS2.out.below (Below.mono B2.out (Nat.le_refl _))))).below be2
  have HL2 : Hid (([] : List Value).length + (sC D).length ≤ 28000000000000) := by show _ ≤ _; rw [sC_len]; simp; omega
  clear be2
  go_wp2_with (first | (at_builtin; refine wpList_appV rfl (.tmp 15) (.tmp 16) 23 2 (.int .i64 0) Try.underlying23 info2 rfl rfl w2.heap.size (.slice (some ⟨w2.heap.size, 0, none⟩) 0 0) [] rfl O2.out a2 n2 cap2 (sC D) rfl l2 V2.out (sC_one D) HL2.out BE2.out.size ?_) | fail)
  intro v3 w3 own3 gr3 _
  have B3 : Hid (Below w2.heap.size w2 w3) := below_ownV BE2.out O2.out gr3 BE2.out.size
  obtain ⟨av3, cv3, rfl, _, _, _⟩ := own3.open
  rw [l2] at own3 ⊢
  clear gr3 O2 V2 HL2 BE2
  have be3 : Below w3.heap.size w3 (w3.alloc (.cells #[.int .i64 77] 2)) := (Below.refl _ _).alloc (Nat.le_refl _) _
  have O3 : Hid (OwnV (w3.alloc (.cells #[.int .i64 77] 2)) w2.heap.size 2 (.slice av3 n2 cv3) (sC D)) := own3.below be3
  have V3 : Hid (Vals (w3.alloc (.cells #[.int .i64 77] 2)) (some ⟨w3.heap.size, 0, none⟩) [.int .i64 77]) := vals_lit _ _ _
  have Z3 : Hid (w2.heap.size ≤ (w3.alloc (.cells #[.int .i64 77] 2)).heap.size) := Nat.le_trans B3.out.size be3.size
  have BA3 : Hid (Below w2.heap.size w2 (w3.alloc (.cells #[.int .i64 77] 2))) := B3.out.trans (be3.mono B3.out.size)
  have HL3 : Hid ((sC D).length + [Value.int .i64 77].length ≤ 28000000000000) := by show _ ≤ _; rw [sC_len]; simp; omega
  clear own3 be3 B3
  go_wp2_with (first | (at_builtin; refine wpList_appV rfl (.tmp 17) (.tmp 18) 23 2 (.int .i64 0) Try.underlying23 info2 rfl rfl w2.heap.size (.slice av3 n2 cv3) (sC D) rfl O3.out (some ⟨w3.heap.size, 0, none⟩) 1 1 [.int .i64 77] rfl rfl V3.out (by intro u hu; simp at hu; rw [hu]; rfl) HL3.out Z3.out ?_) | fail)
  intro v4 w4 own4 gr4 _
  have B4' : Below w2.heap.size w2 w4 := below_ownV BA3.out O3.out gr4 Z3.out
  have B4 : Hid (Below w.heap.size w w4) := B2.out.trans (B4'.mono B2.out.size)
  obtain ⟨h, cq, rfl, mk2⟩ := Mk.of own4
  rw [l2]
  have hcq := mk2.room
  rw [l2] at hcq
  have s3 := fun W => to23 h 0 (n2 + 1) cq n2 (by omega) (by omega) W
  have s4 := fun W => to23 h 0 n2 cq (n2 + 1) (by omega) (by omega) W
  have MX : Hid (∀ W, Below w4.heap.size w4 W → Mk W g cp (uC L) (.int .u64 77)) := fun W hW => (MK.out.below B4').below hW
  have MY : Hid (∀ W, Below w4.heap.size w4 W → Mk W h cq (sC D) (.int .i64 77)) := fun W hW => mk2.below hW
  have LX : Hid (∀ W, Below w4.heap.size w4 W → Nums W a1 L) := fun W hW => (HN1.out.below B4.out).below hW
  have LY : Hid (∀ W, Below w4.heap.size w4 W → Sgn W a2 D) := fun W hW => (HS2.out.below B4.out).below hW
  clear gr4 own4 mk2 O3 V3 Z3 BA3 HL3 B4' MK B2 HN1 HS2
  have R1 := Hid.mk' (runs_any (some ⟨g, 0, none⟩) L n1 cp w4 hn1 (by omega) (vals_nums (MX.out w4 (Below.refl _ _)).vals) HV.out hb1)
  go_wp2_with (first
    | (go_at_call 5; refine R1.out.mono ?_)
    | fail)
  rintro e w5 ⟨v5, rfl, o5, b5⟩
  obtain ⟨a5, c5, rfl, _, y5, _⟩ := o5.open
  have Y5 := Hid.mk' y5
  have B5 := Hid.mk' b5
  have R2 := Hid.mk' (rruns_any a1 L n1 cap1 w5 hn1 (by omega) (LX.out w5 b5) HV.out hb1)
  clear R1 o5 y5 b5
  go_wp2_with (first
    | (go_at_call 6; refine R2.out.mono ?_)
    | fail)
  rintro e w6 ⟨v6, rfl, o6, b6⟩
  obtain ⟨a6, c6, rfl, _, y6, _⟩ := o6.open
  have hlr := rn_le L hb1 HV.out
  have S1 := Hid.mk' (same_any a5 a6 (rn L) (rn L).length c5 c6 w6 rfl (byt_below Y5.out b6) y6 (by omega))
  have B6 : Hid (Below w4.heap.size w4 w6) := B5.out.trans (b6.mono B5.out.size)
  clear R2 o6 y6 b6 Y5 B5
  go_wp2_with (first
    | (go_at_call 4; refine S1.out.mono ?_)
    | fail)
  rintro e w7 ⟨rfl, m7, hw7⟩
  have B7 : Hid (Below w4.heap.size w4 w7) := by show Below _ _ _; rw [hw7]; exact below_drewN B6.out m7
  have R3 := Hid.mk' (deltas_any (some ⟨h, 0, none⟩) D n2 cq w7 hn2 (vals_sgn (MY.out w7 B7.out).vals) hb2)
  clear hw7 S1 B6 hlr
  go_wp2_with (first
    | (go_at_call 7; refine R3.out.mono ?_)
    | fail)
  rintro e w8 ⟨v8, rfl, o8, b8⟩
  obtain ⟨a8, c8, rfl, _, y8, _⟩ := o8.open
  have Y8 := Hid.mk' y8
  have B8 : Hid (Below w4.heap.size w4 w8) := B7.out.trans (b8.mono B7.out.size)
  have R4 := Hid.mk' (rdeltas_any a2 D n2 cap2 w8 hn2 (LY.out w8 B8.out) hb2)
  clear R3 o8 y8 b8 B7
  go_wp2_with (first
    | (go_at_call 8; refine R4.out.mono ?_)
    | fail)
  rintro e w9 ⟨v9, rfl, o9, b9⟩
  obtain ⟨a9, c9, rfl, _, y9, _⟩ := o9.open
  have hld := rn_le (dls D) (by rw [dls_len]; exact hb2) (dls_lt D)
  have S2 := Hid.mk' (same_any a8 a9 (rn (dls D)) (rn (dls D)).length c8 c9 w9 rfl (byt_below Y8.out b9) y9 (by omega))
  have B9 : Hid (Below w4.heap.size w4 w9) := B8.out.trans (b9.mono B8.out.size)
  clear R4 o9 y9 b9 Y8 B8
  go_wp2_with (first
    | (go_at_call 4; refine S2.out.mono ?_)
    | fail)
  rintro e w10 ⟨rfl, m10, hw10⟩
  have B10 : Hid (Below w4.heap.size w4 w10) := by show Below _ _ _; rw [hw10]; exact below_drewN B9.out m10
  have S3 := Hid.mk' (sameN_any (some ⟨g, 0, none⟩) a1 L n1 cp cap1 w10 hn1 (vals_nums (MX.out w10 B10.out).vals) (LX.out w10 B10.out) (by omega))
  clear hw10 S2 B9 hld
  go_wp2_with (first
    | (go_at_call 9; refine S3.out.mono ?_)
    | fail)
  rintro e w11 ⟨rfl, m11, hw11⟩
  have B11 : Hid (Below w4.heap.size w4 w11) := by show Below _ _ _; rw [hw11]; exact below_drewN B10.out m11
  have S4 := Hid.mk' (sameS_any (some ⟨h, 0, none⟩) a2 D n2 cq cap2 w11 hn2 (vals_sgn (MY.out w11 B11.out).vals) (LY.out w11 B11.out) (by omega))
  clear hw11 S3 B10
  go_wp2_with (first
    | (go_at_call 10; refine S4.out.mono ?_)
    | fail)
  rintro e w12 ⟨rfl, m12, hw12⟩
  have B12 : Hid (Below w4.heap.size w4 w12) := by show Below _ _ _; rw [hw12]; exact below_drewN B11.out m12
  have k1 := (MX.out w12 B12.out).mark
  have k2 := (MY.out w12 B12.out).mark
  rw [l1] at k1
  rw [l2] at k2
  have be5 : Below w12.heap.size w12 (w12.alloc (.cells #[.int .u64 5] 24)) := (Below.refl _ _).alloc (Nat.le_refl _) _
  have B13 : Hid (Below w4.heap.size w4 (w12.alloc (.cells #[.int .u64 5] 24))) := B12.out.trans (be5.mono B12.out.size)
  have R5 := Hid.mk' (runs_any (some ⟨w12.heap.size, 0, none⟩) [5] 1 1 (w12.alloc (.cells #[.int .u64 5] 24)) rfl (by simp) (vals_nums (vals_lit w12 (.int .u64 5) 24)) (by simp) (by simp))
  clear hw12 S4 B11 be5 MX MY LX LY
  go_wp2_with (first
    | (go_at_call 5; refine R5.out.mono ?_)
    | fail)
  rintro e w14 ⟨v14, rfl, o14, b14⟩
  obtain ⟨a14, c14, rfl, _, _, _⟩ := o14.open
  rw [rn_five]
  have B14 : Hid (Below w4.heap.size w4 w14) := B13.out.trans (b14.mono B13.out.size)
  clear o14 b14 R5 B13 B12
  go_wp2
  go_ret
  exact ⟨rfl, B4.out.trans (B14.out.mono B4.out.size)⟩
end Go.Proofs.Ytphpaaajfcbafaa.K
