import Derived.Test.YtphpaaajfcbafaaDoorRa
import Derived.Test.YtphpaaajfcbafaaDoorPi
namespace Go.Proofs.YtphpaaajfcbafaaDoor.K
open Go.RowKit
set_option linter.unusedVariables false
set_option linter.unusedSimpArgs false

theorem ownB_none {w : World} {base : Nat} {v : Value} {L : List UInt8} (h : OwnB w base v L) :
    ∃ a cap, v = .slice a L.length cap ∧ Byt w a L ∧ (a = none → cap = 0) := by
  obtain ⟨a, cap, e, _, hb, _⟩ := h.open
  refine ⟨a, cap, e, hb, fun ha => ?_⟩
  rcases h.2 with ⟨e2, hn⟩ | ⟨g, cap2, cur, e2, rest⟩
  · rw [e2] at e
    simp only [Value.slice.injEq] at e
    exact e.2.2.symm
  · rw [e2, ha] at e
    simp at e
theorem rn_small (L : List Nat) (hb : L.length ≤ 1048576) (hv : ∀ x ∈ L, x < 18446744073709551616) : (rn L).length ≤ 140737488351232 := by
  have := (rn_len L.length L (Nat.le_refl _) (by omega) hv).1
  omega
theorem uC_rep (k v : Nat) : uC (List.replicate (k + 1) v) = uC (List.replicate k v) ++ [.int .u64 (v : Int)] := by
  rw [List.replicate_succ']
  simp [uC]
def lk (v : Nat) : List Nat := List.replicate 1000 v
set_option maxRecDepth 100000 in
set_option maxHeartbeats 4000000 in
theorem numbers_law (a1 : Option Addr) (L : List Nat) (n1 cap1 : Nat) (a2 : Option Addr) (D : List Int) (n2 cap2 : Nat) (v : Nat) (w : World) (hg : EG w) (hn1 : L.length = n1) (hc1 : n1 ≤ cap1) (h1 : Nums w a1 L) (hv : ∀ x ∈ L, x < 18446744073709551616) (hb1 : n1 ≤ 1048576)
    (hn2 : D.length = n2) (h2 : Sgn w a2 D) (hD : ∀ x ∈ D, I64 x) (hb2 : n2 ≤ 1048576) (hvv : v < 18446744073709551616) :
    Calls Tryd.prog 4 #[.slice a1 n1 cap1, .slice a2 n2 cap2, .int .u64 (v : Int)] w fun e w' => e = .returned (.bool true) ∧ Below w.heap.size w w' := by
  have HG := Hid.mk' hg
  have H1 := Hid.mk' h1
  have H2 := Hid.mk' h2
  have HV := Hid.mk' hv
  have HD := Hid.mk' hD
  have R1 := Hid.mk' (runs_any a1 L n1 cap1 w hn1 (by omega) h1 hv (by omega))
  clear hg h1 h2 hv hD
  go_enter Tryd.func4, Tryd.ntmps4
  go_wp2_with (first
    | (go_at_call 13; refine R1.out.mono ?_)
    | fail)
  rintro e w1 ⟨v1, rfl, o1, b1⟩
  obtain ⟨x1, c1, rfl, y1, z1⟩ := ownB_none o1
  have hs1 := rn_small L (by omega) HV.out
  have R2 : Hid (Calls Tryd.prog 6 #[.slice x1 (rn L).length c1, .int .i64 (n1 : Int)] w1 fun e w' => UR w1 w' (L, 0, 0) e) := by
    have := UnRuns_any (L := rn L) (n1 : Int) x1 (rn L).length c1 w1 (HG.out.below b1) rfl hs1 z1 y1 (by omega) (by omega)
    rw [← hn1, unA_rn L (by omega) HV.out, hn1] at this
    exact this
  have B1 := Hid.mk' b1
  clear R1 o1 y1 z1 b1 hs1
  generalize (rn L).length = k1 at *
  go_wp2_with (first
    | (go_at_call 6; refine R2.out.mono ?_)
    | fail)
  rintro e w2 h2
  have h2' : ∃ v, e = .returned (.tuple #[v, .int .i64 0, .int .i64 0]) ∧ OwnV w2 w1.heap.size 35 v (uC L) ∧ Below w1.heap.size w1 w2 := h2
  clear h2
  obtain ⟨v2, rfl, o2, b2⟩ := h2'
  obtain ⟨x2, c2, rfl, _, y2, _⟩ := o2.open
  rw [uC_len, hn1]
  have Y2 := Hid.mk' (vals_nums y2)
  have B2 : Hid (Below w.heap.size w w2) := B1.out.trans (b2.mono B1.out.size)
  have R3 := Hid.mk' (deltas_any a2 D n2 cap2 w2 hn2 (H2.out.below B2.out) (by omega))
  clear R2 o2 y2 b2 B1
  go_wp2_with (first
    | (go_at_call 14; refine R3.out.mono ?_)
    | fail)
  rintro e w3 ⟨v3, rfl, o3, b3⟩
  obtain ⟨x3, c3, rfl, y3, z3⟩ := ownB_none o3
  have hs3 := rn_small (dls D) (by rw [dls_len]; omega) (dls_lt D)
  have B3 : Hid (Below w.heap.size w w3) := B2.out.trans (b3.mono B2.out.size)
  have Y3 : Hid (Nums w3 x2 L) := Y2.out.below b3
  have R4 : Hid (Calls Tryd.prog 8 #[.slice x3 (rn (dls D)).length c3, .int .i64 (n2 : Int)] w3 fun e w' => UF w3 w' (D, 0, 0) e) := by
    have := UnDeltas_any (L := rn (dls D)) (n2 : Int) x3 (rn (dls D)).length c3 w3 (HG.out.below B3.out) rfl hs3 z3 y3 (by omega) (by omega)
    rw [← hn2, unDA_rn D (by omega) HD.out, hn2] at this
    exact this
  clear R3 o3 y3 z3 b3 hs3 Y2 B2
  generalize (rn (dls D)).length = k3 at *
  go_wp2_with (first
    | (go_at_call 8; refine R4.out.mono ?_)
    | fail)
  rintro e w4 h4
  have h4' : ∃ a c, e = .returned (.tuple #[.slice a D.length c, .int .i64 0, .int .i64 0]) ∧ Sgn w4 a D ∧ Below w3.heap.size w3 w4 := h4
  clear h4
  obtain ⟨x4, c4, rfl, y4, b4⟩ := h4'
  rw [hn2]
  have Y4 := Hid.mk' y4
  have N4 : Hid (Nums w4 x2 L) := Y3.out.below b4
  have B4 : Hid (Below w.heap.size w w4) := B3.out.trans (b4.mono B3.out.size)
  clear R4 y4 b4 Y3 B3
  go_wp2
  go_loopw [13, 14] (fun lk i wr => ∃ (k : Nat) (av : Option Addr) (cv : Nat), k ≤ 1000 ∧ i = .int .i64 (k : Int) ∧ lk = .slice av k cv ∧ Hid (OwnV wr w4.heap.size 35 (.slice av k cv) (uC (List.replicate k v))) ∧ Hid (Below w4.heap.size w4 wr)) (fun _ i _ => 1000 - (intOf i).toNat)
  case atStart => exact ⟨0, none, 0, by omega, rfl, rfl, ownV_nil _ _ _, Below.refl _ _⟩
  case round =>
    obtain ⟨k, av, cv, hk, rfl, rfl, HO, HBe⟩ := hrel
    by_cases hkn : k < 1000
    · have hkn' : (k : Int) < 1000 := by omega
      have be : Below wr.heap.size wr (wr.alloc (.cells #[.int .u64 (v : Int)] 35)) := (Below.refl _ _).alloc (Nat.le_refl _) _
      have OA : Hid (OwnV (wr.alloc (.cells #[.int .u64 (v : Int)] 35)) w4.heap.size 35 (.slice av k cv) (uC (List.replicate k v))) := HO.out.below be
      have VA : Hid (Vals (wr.alloc (.cells #[.int .u64 (v : Int)] 35)) (some ⟨wr.heap.size, 0, none⟩) [.int .u64 (v : Int)]) := vals_lit _ _ _
      have ZA : Hid (w4.heap.size ≤ (wr.alloc (.cells #[.int .u64 (v : Int)] 35)).heap.size) := Nat.le_trans HBe.out.size be.size
      have BA : Hid (Below w4.heap.size w4 (wr.alloc (.cells #[.int .u64 (v : Int)] 35))) := HBe.out.trans (be.mono HBe.out.size)
      have hL : Hid ((uC (List.replicate k v)).length + [Value.int .u64 (v : Int)].length ≤ 28000000000000) := by show _ ≤ _; rw [uC_len]; simp; omega
      clear be HO HBe
      go_wp2_with (first | (at_builtin; refine wpList_appV rfl (.tmp 37) (.tmp 39) 24 35 (.int .u64 0) Tryd.underlying24 info24 rfl rfl w4.heap.size (.slice av k cv) (uC (List.replicate k v)) rfl OA.out (some ⟨wr.heap.size, 0, none⟩) 1 1 [.int .u64 (v : Int)] rfl rfl VA.out (by intro u hu; simp at hu; rw [hu]; rfl) hL.out ZA.out ?_) | fail)
      intro v' W1 own1 gr1 hblk
      have B1 : Hid (Below w4.heap.size w4 W1) := below_ownV BA.out OA.out gr1 ZA.out
      rw [← uC_rep k v] at own1
      obtain ⟨av2, cv2, rfl, _⟩ := own1.open
      rw [uC_len, List.length_replicate] at own1 ⊢
      have O1 : Hid (OwnV W1 w4.heap.size 35 (.slice av2 (k + 1) cv2) (uC (List.replicate (k + 1) v))) := own1
      clear own1 gr1 hblk OA VA ZA BA
      go_wp2
      go_roundw
      case rel => exact ⟨k + 1, av2, cv2, by omega, by go_num, rfl, O1, B1⟩
      case measure => simp [intOf]; omega
    · obtain rfl : k = 1000 := by omega
      obtain ⟨a6, c6, e6, h6, y6, hz6⟩ := HO.out.open
      simp only [Value.slice.injEq] at e6
      obtain ⟨rfl, he6, rfl⟩ := e6
      clear hz6 he6
      rw [uC_len] at h6
      have HLK : Hid (Nums wr av (lk v)) := vals_nums y6
      have h6' : (lk v).length ≤ cv := h6
      have BW : Hid (Below w.heap.size w wr) := B4.out.trans (HBe.out.mono B4.out.size)
      have S1 := Hid.mk' (sameN_any x2 a1 L n1 c2 cap1 wr hn1 (N4.out.below HBe.out) (H1.out.below BW.out) (by omega))
      have S2 : Hid (∀ m, Calls Tryd.prog 11 #[.slice x4 n2 c4, .slice a2 n2 cap2] (wr.drewN m) fun e w' => e = .returned (.bool true) ∧ ∃ k, w' = (wr.drewN m).drewN k) := fun m =>
        sameS_any x4 a2 D n2 c4 cap2 (wr.drewN m) hn2 ((Y4.out.below HBe.out).below (below_drewN (Below.refl _ _) m)) ((H2.out.below BW.out).below (below_drewN (Below.refl _ _) m)) (by omega)
      have R5 : Hid (∀ W, Below wr.heap.size wr W → Calls Tryd.prog 13 #[.slice av 1000 cv] W fun e w' => ∃ u, e = .returned u ∧ OwnB w' W.heap.size u (rn (lk v)) ∧ Below W.heap.size W w') := fun W hW =>
        runs_any av (lk v) 1000 cv W (by unfold lk; rw [List.length_replicate]) h6' (HLK.out.below hW) (fun x hx => by unfold lk at hx; rw [List.mem_replicate] at hx; rw [hx.2]; exact hvv) (by unfold lk; rw [List.length_replicate]; omega)
      have R5m : Hid (∀ m, Calls Tryd.prog 13 #[.slice av 1000 cv] (wr.drewN m) fun e w' => ∃ u, e = .returned u ∧ OwnB w' (wr.drewN m).heap.size u (rn (lk v)) ∧ Below (wr.drewN m).heap.size (wr.drewN m) w') := fun m => R5.out _ (below_drewN (Below.refl _ _) m)
      have hq : (rn (lk v)).length ≤ 20 ∧ 0 < (rn (lk v)).length := rn_like v hvv
      have HQ0 := Hid.mk' hq
      clear hq
      have BM : Hid (∀ m, Below wr.heap.size wr (wr.drewN m)) := fun m => below_drewN (Below.refl _ _) m
      clear HO HBe h6 h6' y6 HLK N4 Y4 B4
      go_wp2_with (first
        | (go_at_call 10; refine S1.out.mono ?_; rintro e W1 ⟨rfl, m1, rfl⟩)
        | (go_at_call 11; refine (S2.out _).mono ?_; rintro e W2 ⟨rfl, m2, rfl⟩)
        | (go_at_call 13; refine (R5m.out _).mono ?_)
        | fail)
      rintro e w6 ⟨v6, rfl, o6, b6⟩
      obtain ⟨x6, c6, rfl, _, _⟩ := ownB_none o6
      have B6 : Below wr.heap.size wr w6 := (BM.out _).trans (b6.mono (BM.out _).size)
      have HB6 := Hid.mk' B6
      have R6 := Hid.mk' (R5.out w6 B6)
      clear o6 b6 B6 R5 R5m BM S1 S2
      generalize hqq : (rn (lk v)).length = q at *
      have HQ := Hid.mk' hqq
      obtain ⟨hq1, hq2⟩ := HQ0.out
      have hq1' : (q : Int) ≤ 20 := by omega
      have hq2' : 0 < (q : Int) := by omega
      clear hqq
      go_wp2_with (first
        | (go_at_call 13; refine R6.out.mono ?_)
        | fail)
      rintro e w7 ⟨v7, rfl, o7, b7⟩
      obtain ⟨x7, c7, rfl, _, _⟩ := ownB_none o7
      rw [HQ.out]
      have B7 : Hid (Below w.heap.size w w7) := BW.out.trans ((HB6.out.trans (b7.mono HB6.out.size)).mono BW.out.size)
      clear o7 b7 R6 HB6
      go_wp2
      go_ret
      exact ⟨rfl, B7.out⟩
end Go.Proofs.YtphpaaajfcbafaaDoor.K
