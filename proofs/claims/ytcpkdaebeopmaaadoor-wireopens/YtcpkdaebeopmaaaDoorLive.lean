import Derived.Test.YtcpkdaebeopmaaaDoorRf
namespace Go.Proofs.YtcpkdaebeopmaaaDoor
open Go.RowKit
set_option linter.unusedVariables false
set_option linter.unusedSimpArgs false

theorem bb_cells : (#[.int .u8 172, .int .u8 2, .int .u8 1, .int .u8 2, .int .u8 97, .int .u8 98, .int .u8 63, .int .u8 248, .int .u8 0, .int .u8 0, .int .u8 0, .int .u8 0, .int .u8 0, .int .u8 0] : Array Value) = bs BB := rfl
set_option maxRecDepth 100000 in
set_option maxHeartbeats 2000000 in
theorem live_any (w : World) : Calls Tryd.prog 5 #[] w fun e w' => e = .returned (.bool true) ∧ Below w.heap.size w w' := by
  have be0 : Below w.heap.size w (w.alloc (.cells #[.slice none 0 0, .int .i64 0] 57)) := (Below.refl _ _).alloc (Nat.le_refl _) _
  have W0 : Hid (WAt (w.alloc (.cells #[.slice none 0 0, .int .i64 0] 57)) w.heap.size w.heap.size []) := ⟨.slice none 0 0, heap_alloc_new _ _, ownB_nil _ _, by simp [Value.ownBlock]⟩
  go_enter Tryd.func5, Tryd.ntmps5
  go_wp2_with fail
  generalize (w.alloc (.cells #[.slice none 0 0, .int .i64 0] 57)) = w0 at *
  refine (uint_at w.heap.size w.heap.size [] 300 300 [172, 2] vint300 rfl (by decide) w0 W0.out (by decide) (Nat.le_refl _)).mono ?_
  rintro e w1 ⟨rfl, a1, b1⟩
  have A1 : Hid (WAt w1 w.heap.size w.heap.size [172, 2]) := a1
  have be1 := be0.trans b1
  clear a1 b1 be0 W0
  go_wp2_with fail
  refine (int_m1 w.heap.size w.heap.size [172, 2] w1 A1.out (by decide) (Nat.le_refl _)).mono ?_
  rintro e w2 ⟨rfl, a2, b2⟩
  have A2 : Hid (WAt w2 w.heap.size w.heap.size [172, 2, 1]) := a2
  have be2 := be1.trans b2
  clear a2 b2 be1 A1
  go_wp2_with fail
  refine (text_ab w.heap.size w.heap.size [172, 2, 1] w2 A2.out (by decide) (Nat.le_refl _)).mono ?_
  rintro e w3 ⟨rfl, a3, b3⟩
  have A3 : Hid (WAt w3 w.heap.size w.heap.size [172, 2, 1, 2, 97, 98]) := a3
  have be3 := be2.trans b3
  clear a3 b3 be2 A2
  go_wp2_with fail
  refine (float_15 w.heap.size w.heap.size [172, 2, 1, 2, 97, 98] w3 A3.out (by decide) (Nat.le_refl _)).mono ?_
  rintro e w4 ⟨rfl, a4, b4⟩
  have A4 : Hid (WAt w4 w.heap.size w.heap.size BB) := a4
  have be4 := be3.trans b4
  have z4 := be4.size
  clear a4 b4 be3 A3
  go_wp2_with fail
  refine (done_any w.heap.size w.heap.size BB w4 A4.out (by decide) (by decide)).mono ?_
  rintro e w5 ⟨v5, rfl, own5, b5⟩
  have A5 : Hid (WAt w5 w.heap.size w.heap.size BB) := A4.out.below b5
  have be5 := be4.trans (b5.mono z4)
  obtain ⟨g, cv, rfl, hcv, hcl, hg1, hg2⟩ := own5.open1 (by decide)
  have B5 : Hid (Byt w5 (some ⟨g, 0, none⟩) BB) := .inr ⟨g, 0, rfl, fun j hj => by rw [Nat.zero_add]; exact hcl j hj⟩
  have z5 := be5.size
  have LB : BB.length = 14 := rfl
  rw [LB] at hcv ⊢
  have bA : Below w5.heap.size w5 (w5.alloc (.cells (bs BB) 5)) := (Below.refl _ _).alloc (Nat.le_refl _) _
  have S6 : Hid (Calls Tryd.prog 9 #[.slice (some ⟨g, 0, none⟩) 14 cv, .slice (some ⟨w5.heap.size, 0, none⟩) 14 14] (w5.alloc (.cells #[.int .u8 172, .int .u8 2, .int .u8 1, .int .u8 2, .int .u8 97, .int .u8 98, .int .u8 63, .int .u8 248, .int .u8 0, .int .u8 0, .int .u8 0, .int .u8 0, .int .u8 0, .int .u8 0] 5)) fun e w' => e = .returned (.bool true) ∧ WAt w' w.heap.size w.heap.size BB ∧ Byt w' (some ⟨g, 0, none⟩) BB ∧ Below w.heap.size w w') :=
    (same_any (some ⟨g, 0, none⟩) (some ⟨w5.heap.size, 0, none⟩) BB 14 cv 14 (w5.alloc (.cells (bs BB) 5)) rfl (byt_below B5.out bA) (byt_lit w5 BB 5) (by decide)).mono fun e w' ⟨h1, m, h2⟩ => by
      have bB := below_drewN bA m
      rw [← h2] at bB
      exact ⟨h1, A5.out.below bB, byt_below B5.out bB, be5.trans (bB.mono z5)⟩
  clear own5 hcl b5 be4 A4 be5 z5 A5 B5 LB bA
  go_wp2_with fail
  refine S6.out.mono ?_
  rintro e w6 ⟨rfl, a6, b6, be6⟩
  have B6 : Hid (Byt w6 (some ⟨g, 0, none⟩) BB) := b6
  have L6 : Hid (Calls Tryd.prog 20 #[.pointer (some ⟨w.heap.size, 0, none⟩)] w6 fun e w' => e = .returned (.int .i64 14) ∧ w' = w6) := len_any w.heap.size w.heap.size BB 14 rfl w6 a6
  have z6 := be6.size
  clear a6 b6 S6
  go_wp2_with fail
  refine L6.out.mono ?_
  rintro e w7 ⟨rfl, hw7⟩
  subst hw7
  clear L6
  go_wp2_with fail
  refine (reader_any g cv w7 hcv B6.out).mono ?_
  rintro e w8 ⟨r, g2, c2, rfl, h8, hr8, b8⟩
  have H8 : Hid (RB w8 r g2 c2 0) := h8
  have be8 := be6.trans (b8.mono z6)
  have hr : w.heap.size ≤ r := by omega
  clear h8 hr8 b8 be6 B6 hcv hg1 hg2 z6
  go_wp2_with fail
  refine (ruint_300 r g2 c2 w.heap.size hr w8 H8.out).mono ?_
  rintro e w9 ⟨rfl, h9, b9⟩
  have H9 : Hid (RB w9 r g2 c2 2) := h9
  have be9 := be8.trans b9
  clear h9 b9 be8 H8
  go_wp2_with fail
  refine (rint_m1 r g2 c2 w.heap.size hr w9 H9.out).mono ?_
  rintro e w10 ⟨rfl, h10, b10⟩
  have H10 : Hid (RB w10 r g2 c2 3) := h10
  have be10 := be9.trans b10
  clear h10 b10 be9 H9
  go_wp2_with fail
  refine (rtext_ab r g2 c2 w.heap.size hr w10 H10.out).mono ?_
  rintro e w11 ⟨rfl, h11, b11⟩
  have H11 : Hid (RB w11 r g2 c2 6) := h11
  have be11 := be10.trans b11
  clear h11 b11 be10 H10
  go_wp2_with fail
  refine (rfloat_15 r g2 c2 w.heap.size hr w11 H11.out).mono ?_
  rintro e w12 ⟨rfl, h12, b12⟩
  have H12 : Hid (RB w12 r g2 c2 14) := h12
  have be12 := be11.trans b12
  clear h12 b12 be11 H11
  go_wp2_with fail
  refine (rdone_14 r g2 c2 w12 H12.out).mono ?_
  rintro e w13 ⟨rfl, m13, rfl⟩
  have H13 : Hid (Calls Tryd.prog 27 #[.pointer (some ⟨r, 0, none⟩)] (w12.drewN m13) fun e w' => e = .returned (.int .i64 14) ∧ w' = w12.drewN m13) := rat_any r g2 c2 14 (w12.drewN m13) (H12.out.drew m13)
  have be13 := below_drewN be12 m13
  clear be12 H12
  go_wp2_with fail
  refine H13.out.mono ?_
  rintro e w14 ⟨rfl, hw14⟩
  subst hw14
  clear H13
  go_wp2
  go_ret
  exact ⟨rfl, be13⟩
end Go.Proofs.YtcpkdaebeopmaaaDoor
