import Derived.Test.YtnbdohomaadbfaaZd
namespace Go.Proofs.Ytnbdohomaadbfaa
open Go.RowKit
set_option linter.unusedVariables false
set_option linter.unusedSimpArgs false

set_option maxRecDepth 100000 in
set_option maxHeartbeats 4000000 in
theorem alike_ok (qf gf qg gg bits p : Nat) (ws : Nat → Nat) (w : World) (hf : FW w qf gf bits p ws) (hg : RW w qg gg bits p (bitAt ws)) (hW : Within ws bits) (hlt : ∀ i, ws i < 18446744073709551616) (hob : okB bits = true) (hp : p ≤ 16) :
    Calls Try.prog 27 #[.pointer (some ⟨qf, 0, none⟩), .pointer (some ⟨qg, 0, none⟩)] w fun e w' => e = .returned (.bool true) ∧ Below w.heap.size w w' := by
  have hb := of_decide_eq_true hob
  have C32 := Hid.mk' (bits_any qf gf bits p w hf.fc)
  have C52 := Hid.mk' (rbits_x qg gg bits p w hg.rc)
  have C53 := Hid.mk' (probes_any qf gf bits p w hf.fc)
  have C54 := Hid.mk' (rprobes_x qg gg bits p w hg.rc)
  have C33 := Hid.mk' (set_any qf gf bits p ws w hf hlt hb.2.1)
  have C55 := Hid.mk' (rset_any qg gg bits p _ w hg hb.2.1)
  rw [cntB_bits hW] at C55
  have C34 := Hid.mk' (enc_post qf gf bits p ws w hf hlt hb.1 hb.2.1 hp)
  have C56 : Hid (∀ W, Below w.heap.size w W → Calls Try.prog 56 #[.pointer (some ⟨qg, 0, none⟩)] W (EnPost (encF bits p ws) W)) := fun W h => renc_any qg gg bits p ws W (hg.below h) hb.1 hb.2.1 hb.2.2 hp
  have C35 : Hid (∀ W b1 b2 c1 c2, K.Byt W (some ⟨b1, 0, none⟩) (encF bits p ws) → K.Byt W (some ⟨b2, 0, none⟩) (encF bits p ws) → Calls Try.prog 35 #[.slice (some ⟨b1, 0, none⟩) (encF bits p ws).length c1, .slice (some ⟨b2, 0, none⟩) (encF bits p ws).length c2] W fun e w' => e = .returned (.bool true) ∧ Below W.heap.size W w') := fun W b1 b2 c1 c2 h1 h2 => same_post _ _ _ c1 c2 W h1 h2 (encF_len bits p ws hb.2.1)
  clear hf hg hW hlt hob hb
  generalize encF bits p ws = EN at *
  generalize cntW ws ((bits + 63) / 64) = C at *
  go_enter Try.func27, Try.ntmps27
  go_wp2_with (first
    | (go_at_call 32; refine C32.out.mono ?_; clear C32; rintro e W ⟨rfl, hw⟩; obtain rfl := hw.symm; clear hw)
    | (go_at_call 52; refine C52.out.mono ?_; clear C52; rintro e W ⟨rfl, hw⟩; obtain rfl := hw.symm; clear hw)
    | (go_at_call 53; refine C53.out.mono ?_; clear C53; rintro e W ⟨rfl, hw⟩; obtain rfl := hw.symm; clear hw)
    | (go_at_call 54; refine C54.out.mono ?_; clear C54; rintro e W ⟨rfl, hw⟩; obtain rfl := hw.symm; clear hw)
    | (go_at_call 33; refine C33.out.mono ?_; clear C33; rintro e W ⟨rfl, hw⟩; obtain rfl := hw.symm; clear hw)
    | (go_at_call 55; refine C55.out.mono ?_; clear C55; rintro e W ⟨rfl, hw⟩; obtain rfl := hw.symm; clear hw)
    | (go_at_call 34; refine C34.out.mono ?_; clear C34; rintro e W1 ⟨b1, c1, rfl, y1, l1⟩; have Y1 := Hid.mk' y1; have L1 := Hid.mk' l1; clear y1 l1)
    | (go_at_call 56; refine (C56.out _ L1.out).mono ?_; rintro e W2 ⟨b2, c2, rfl, y2, l2⟩; have D35 := Hid.mk' (C35.out _ b1 b2 c1 c2 (Y1.out _ l2) (y2 _ (Below.refl _ _))); have L2 := Hid.mk' (L1.out.trans (l2.mono L1.out.size)); clear y2 l2)
    | (go_at_call 35; refine D35.out.mono ?_; rintro e W3 ⟨rfl, l3⟩; have L3 := Hid.mk' (L2.out.trans (l3.mono L2.out.size)); clear l3)
    | fail)
  go_ret
  exact ⟨rfl, L3.out⟩
set_option maxRecDepth 100000 in
theorem nil_32 (w : World) : Calls Try.prog 32 #[.pointer none] w fun e w' => e = .returned (.int .i64 0) ∧ w' = w := by
  go_enter Try.func32, Try.ntmps32
  go_wp2
  go_ret
  exact ⟨rfl, rfl⟩
set_option maxRecDepth 100000 in
theorem nil_52 (w : World) : Calls Try.prog 52 #[.pointer none] w fun e w' => e = .returned (.int .i64 0) ∧ w' = w := by
  go_enter Try.func52, Try.ntmps52
  go_wp2
  go_ret
  exact ⟨rfl, rfl⟩
set_option maxRecDepth 100000 in
theorem nil_53 (w : World) : Calls Try.prog 53 #[.pointer none] w fun e w' => e = .returned (.int .i64 0) ∧ w' = w := by
  go_enter Try.func53, Try.ntmps53
  go_wp2
  go_ret
  exact ⟨rfl, rfl⟩
set_option maxRecDepth 100000 in
theorem nil_54 (w : World) : Calls Try.prog 54 #[.pointer none] w fun e w' => e = .returned (.int .i64 0) ∧ w' = w := by
  go_enter Try.func54, Try.ntmps54
  go_wp2
  go_ret
  exact ⟨rfl, rfl⟩
set_option maxRecDepth 100000 in
theorem nil_33 (w : World) : Calls Try.prog 33 #[.pointer none] w fun e w' => e = .returned (.int .i64 0) ∧ w' = w := by
  go_enter Try.func33, Try.ntmps33
  go_wp2
  go_ret
  exact ⟨rfl, rfl⟩
set_option maxRecDepth 100000 in
theorem nil_34 (w : World) : Calls Try.prog 34 #[.pointer none] w fun e w' => e = .returned (.slice none 0 0) ∧ w' = w := by
  go_enter Try.func34, Try.ntmps34
  go_wp2
  go_ret
  exact ⟨rfl, rfl⟩
set_option maxRecDepth 100000 in
theorem nil_56 (w : World) : Calls Try.prog 56 #[.pointer none] w fun e w' => e = .returned (.slice none 0 0) ∧ w' = w := by
  go_enter Try.func56, Try.ntmps56
  go_wp2
  go_ret
  exact ⟨rfl, rfl⟩
set_option maxRecDepth 100000 in
theorem rset_nil (w : World) : Calls Try.prog 55 #[.pointer none] w fun e w' => e = .returned (.int .i64 0) ∧ w' = w := by
  go_enter Try.func55, Try.ntmps55
  go_wp2
  go_loopw [3, 4] (fun n i wr => wr = w ∧ n = .int .i64 0 ∧ i = .int .i64 0) (fun _ i _ => 0)
  case atStart => exact ⟨rfl, rfl, rfl⟩
  case round =>
    obtain ⟨rfl, rfl, rfl⟩ := hrel
    go_wp2
    go_ret
    exact ⟨rfl, rfl⟩
set_option maxRecDepth 100000 in
set_option maxHeartbeats 2000000 in
theorem alike_nil (w : World) : Calls Try.prog 27 #[.pointer none, .pointer none] w fun e w' => e = .returned (.bool true) ∧ Below w.heap.size w w' := by
  have C55 := Hid.mk' (rset_nil w)
  have C35 := Hid.mk' (K.same_any none none [] 0 0 0 w rfl (.inl rfl) (.inl rfl) (by omega))
  go_enter Try.func27, Try.ntmps27
  go_wp2_with (first
    | (go_at_call 32; refine (nil_32 w).mono ?_; rintro e W ⟨rfl, hw⟩; obtain rfl := hw.symm; clear hw)
    | (go_at_call 52; refine (nil_52 w).mono ?_; rintro e W ⟨rfl, hw⟩; obtain rfl := hw.symm; clear hw)
    | (go_at_call 53; refine (nil_53 w).mono ?_; rintro e W ⟨rfl, hw⟩; obtain rfl := hw.symm; clear hw)
    | (go_at_call 54; refine (nil_54 w).mono ?_; rintro e W ⟨rfl, hw⟩; obtain rfl := hw.symm; clear hw)
    | (go_at_call 33; refine (nil_33 w).mono ?_; rintro e W ⟨rfl, hw⟩; obtain rfl := hw.symm; clear hw)
    | (go_at_call 34; refine (nil_34 w).mono ?_; rintro e W ⟨rfl, hw⟩; obtain rfl := hw.symm; clear hw)
    | (go_at_call 56; refine (nil_56 w).mono ?_; rintro e W ⟨rfl, hw⟩; obtain rfl := hw.symm; clear hw)
    | (go_at_call 55; refine C55.out.mono ?_; clear C55; rintro e W ⟨rfl, hw⟩; obtain rfl := hw.symm; clear hw)
    | (go_at_call 35; refine C35.out.mono ?_; clear C35; rintro e W ⟨rfl, m, hw⟩; obtain rfl := hw.symm; clear hw)
    | fail)
  go_ret
  exact ⟨rfl, K.below_drewN (Below.refl _ _) m⟩
end Go.Proofs.Ytnbdohomaadbfaa
