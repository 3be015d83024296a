import Derived.Test.YtphpaaajfcbafaaDoorQr
namespace Go.Proofs.YtphpaaajfcbafaaDoor.K
open Go.RowKit
set_option linter.unusedVariables false
set_option linter.unusedSimpArgs false

variable {L : List UInt8}
theorem unDA_len (A : List Nat × Int × Int) : (unDA A).1.length ≤ A.1.length := by
  unfold unDA
  split
  · simp [dsl_len]
  · simp
set_option maxRecDepth 100000 in
set_option maxHeartbeats 4000000 in
theorem unruns_law (n : Int) (a0 : Option Addr) (nb c0 : Nat) (w : World) (hg : EG w) (hl : L.length = nb) (hnb : nb ≤ 140737488351232) (hb : Byt w a0 L) (hn0 : -9223372036854775808 ≤ n) (hn1 : n ≤ 9223372036854775807) :
    Calls Tryd.prog 3 #[.slice a0 nb c0, .int .i64 n] w fun e w' => e = .returned (.bool true) ∧ Below w.heap.size w w' := by
  by_cases hbig : 2147483647 < n
  · clear hb
    go_enter Tryd.func3, Tryd.ntmps3
    go_wp2
    go_ret
    exact ⟨rfl, Below.refl _ _⟩
  · have hn : n ≤ 2147483647 := by omega
    have HH := Hid.mk' (hand_any a0 L c0 w hb (by omega))
    rw [hl] at HH
    have HB := Hid.mk' hb
    have HG := Hid.mk' hg
    have hok := unA_ok L n hn
    have hdl := unDA_len (unA L n)
    clear hb hg
    go_enter Tryd.func3, Tryd.ntmps3
    go_wp2_with (first
      | (go_at_call 5; refine HH.out.mono ?_; rintro e w1 ⟨rfl, hgm0, b10⟩; have HGM := Hid.mk' hgm0; have B1 := Hid.mk' b10; clear hgm0 b10)
      | fail)
    have hgm := HGM.out
    have b1 := B1.out
    have hlt : w.heap.size < w1.heap.size := (Array.getElem?_eq_some_iff.1 hgm).1
    have hq : Byt w1 (some ⟨w.heap.size, 0, none⟩) L := .inr ⟨w.heap.size, 0, rfl, fun j hj => by
      rw [Nat.zero_add, ← own_at L j hj]
      exact (cell_of_row w1 w.heap.size j _ _ _ hgm).trans (bs_get _ j (by simp [marks]; omega))⟩
    have HQ := Hid.mk' hq
    have R1 := Hid.mk' (UnRuns_any n (some ⟨w.heap.size, 0, none⟩) nb (nb + 9) w1 (HG.out.below b1) hl hnb (fun h => by cases h) hq hn0 hn)
    clear HH hgm hq b1
    go_wp2_with (first
      | (go_at_call 6; refine R1.out.mono ?_)
      | fail)
    rintro e w2 h2
    obtain ⟨v2, rfl, o2, b2⟩ := h2
    obtain ⟨a2, c2, rfl, _, y2, _⟩ := o2.open
    rw [uC_len]
    have Y2 := Hid.mk' (vals_nums y2)
    have B2 : Hid (Below w1.heap.size w1 w2) := b2
    have B2w : Hid (Below w.heap.size w w2) := B1.out.trans (b2.mono B1.out.size)
    have R2 := Hid.mk' (rUn_all n a0 nb c0 w2 hl hnb (byt_below HB.out B2w.out) hn0 hn)
    clear R1 o2 y2 b2
    go_wp2_with (first
      | (go_at_call 7; refine R2.out.mono ?_)
      | fail)
    rintro e w3 h3
    obtain ⟨v3, rfl, o3, b3⟩ := h3
    obtain ⟨a3, c3, rfl, _, y3, _⟩ := o3.open
    rw [uC_len]
    have Y3 := Hid.mk' (vals_nums y3)
    have Y23 : Hid (Nums w3 a2 (unA L n).1) := Y2.out.below b3
    have B3 : Hid (Below w1.heap.size w1 w3) := B2.out.trans (b3.mono B2.out.size)
    have B3w : Hid (Below w.heap.size w w3) := B2w.out.trans (b3.mono B2w.out.size)
    have R3 := Hid.mk' (UnDeltas_any n (some ⟨w.heap.size, 0, none⟩) nb (nb + 9) w3 (HG.out.below B3w.out) hl hnb (fun h => by cases h) (byt_below HQ.out B3.out) hn0 hn)
    clear R2 o3 y3 b3 Y2 B2 B2w
    go_wp2_with (first
      | (go_at_call 8; refine R3.out.mono ?_)
      | fail)
    rintro e w4 h4
    obtain ⟨a4, c4, rfl, y4, b4⟩ := h4
    have Y4 := Hid.mk' y4
    have Y24 : Hid (Nums w4 a2 (unA L n).1) := Y23.out.below b4
    have Y34 : Hid (Nums w4 a3 (unA L n).1) := Y3.out.below b4
    have B4 : Hid (Below w1.heap.size w1 w4) := B3.out.trans (b4.mono B3.out.size)
    have B4w : Hid (Below w.heap.size w w4) := B3w.out.trans (b4.mono B3w.out.size)
    have R4 := Hid.mk' (rUnD_all n a0 nb c0 w4 hl hnb (byt_below HB.out B4w.out) hn0 hn)
    clear R3 y4 b4 Y23 Y3 B3 B3w
    go_wp2_with (first
      | (go_at_call 9; refine R4.out.mono ?_)
      | fail)
    rintro e w5 h5
    obtain ⟨a5, c5, rfl, y5, b5⟩ := h5
    have B5 : Hid (Below w1.heap.size w1 w5) := B4.out.trans (b5.mono B4.out.size)
    have B5w : Hid (Below w.heap.size w w5) := B4w.out.trans (b5.mono B4w.out.size)
    have S1 := Hid.mk' (sameN_any a2 a3 (unA L n).1 (unA L n).1.length c2 c3 w5 rfl (Y24.out.below b5) (Y34.out.below b5) (by omega))
    have S2 : Hid (∀ m, Calls Tryd.prog 11 #[.slice a4 (unDA (unA L n)).1.length c4, .slice a5 (unDA (unA L n)).1.length c5] (w5.drewN m) fun e w' => e = .returned (.bool true) ∧ ∃ k, w' = (w5.drewN m).drewN k) := fun m =>
      sameS_any a4 a5 (unDA (unA L n)).1 (unDA (unA L n)).1.length c4 c5 (w5.drewN m) rfl ((Y4.out.below b5).below (below_drewN (Below.refl _ _) m)) (y5.below (below_drewN (Below.refl _ _) m)) (by omega)
    have S3 : Hid (∀ m, Calls Tryd.prog 12 #[.slice (some ⟨w.heap.size, 0, none⟩) nb (nb + 9), .slice a0 nb c0] (w5.drewN m) fun e w' => e = .returned (.bool true) ∧ ∃ k, w' = (w5.drewN m).drewN k) := fun m => by
      subst hl
      refine kept_any w.heap.size a0 L c0 (w5.drewN m) ?_ (byt_below HB.out (below_drewN B5w.out m)) (by omega)
      have := HGM.out
      rw [← this]
      exact (B5.out.block _ hlt)
    clear R4 y5 b5 Y24 Y34 Y4 B4 B4w HGM HQ HB HG B1 hok hdl
    generalize (unDA (unA L n)).2.1 = p1 at *
    generalize (unDA (unA L n)).2.2 = p2 at *
    generalize (unDA (unA L n)).1.length = p0 at *
    generalize (unA L n).2.1 = q1 at *
    generalize (unA L n).2.2 = q2 at *
    generalize (unA L n).1.length = q0 at *
    go_wp2_with (first
      | (go_at_call 10; refine S1.out.mono ?_; rintro e W1 ⟨rfl, m1, rfl⟩)
      | (go_at_call 11; refine (S2.out _).mono ?_; rintro e W2 ⟨rfl, m2, rfl⟩)
      | (go_at_call 12; refine (S3.out _).mono ?_; rintro e W3 ⟨rfl, m3, rfl⟩)
      | fail)
    go_ret
    exact ⟨rfl, by first | exact below_drewN B5w.out _ | exact below_drewN (below_drewN B5w.out _) _ | exact below_drewN (below_drewN (below_drewN B5w.out _) _) _⟩
end Go.Proofs.YtphpaaajfcbafaaDoor.K
