import Derived.Test.YtcpkdaebeopmaaaDoorNm
namespace Go.Proofs.YtcpkdaebeopmaaaDoor
open Go.RowKit
set_option linter.unusedVariables false
set_option linter.unusedSimpArgs false

theorem mid_at (g cap j k n : Nat) (jj kk : Int) (hjj : jj = (j : Int)) (hkk : kk = (k : Int)) (hn : k - j = n) (hj : j < k) (hk : k ≤ 14) (hc : 14 ≤ cap) : ∀ w, (Instr.sliceAt 22 (.slice (some ⟨g, 0, none⟩) 14 cap) (some (.int .i64 jj)) (some (.int .i64 kk)) none).run Tryd.prog w = .ok (.slice (some ⟨g, j, none⟩) n (cap - j)) w := by
  intro w
  subst hjj hkk hn
  have := slice_mid g 0 14 cap j k (by omega) (by omega) hc (by omega) w
  rw [Nat.zero_add] at this
  exact this
theorem mid_at' (g cap j k n : Nat) (jj kk : Int) (hjj : jj = (j : Int)) (hkk : kk = (k : Int)) (hn : k - j = n) (hj : j < k) (hk : k ≤ 14) (hc : 14 ≤ cap) : ∀ w, (Instr.slice 22 (.slice (some ⟨g, 0, none⟩) 14 cap) (some (.int .i64 jj)) (some (.int .i64 kk)) none).run Tryd.prog w = .ok (.slice (some ⟨g, j, none⟩) n (cap - j)) w := fun w =>
  (run_sliceAt_slice w _ _ _ _ _ hu27).symm.trans (mid_at g cap j k n jj kk hjj hkk hn hj hk hc w)

set_option maxRecDepth 100000 in
set_option maxHeartbeats 1000000 in
theorem counted_2 (r g cap : Nat) (w : World) (h : RB w r g cap 3) :
    Calls Tryd.prog 67 #[.pointer (some ⟨r, 0, none⟩), .int .i64 2, .int .i64 1] w fun e w' => e = .returned (.tuple #[.slice (some ⟨g, 4, none⟩) 2 (cap - 4), .int .i64 1, .bool true]) ∧ ∃ m, w' = w.drewN m := by
  have H1 : Hid (Calls Tryd.prog 65 #[.pointer (some ⟨r, 0, none⟩)] w fun e w' => e = .returned (.tuple #[.int .u64 2, .int .i64 1, .bool true]) ∧ ∃ m, w' = w.drewN m) := number_one r g cap 3 3 rfl (by decide) 2 rfl (by decide) (by decide) (by decide +kernel) w h
  have H2 : Hid (∀ m, Calls Tryd.prog 81 #[.pointer (some ⟨r, 0, none⟩)] (w.drewN m) fun e w' => e = .returned (.int .i64 11) ∧ ∃ m', w' = w.drewN m') := fun m => (cleft_any r g cap 3 (by decide) (by decide) (w.drewN m) (h.drew m)).mono fun e w' ⟨h1, m', h2⟩ => ⟨h1, m + m', by rw [h2, World.drewN_drewN]⟩
  have s1 := mid_at g cap 4 6 2 4 6 rfl rfl rfl (by decide) (by decide) h.2.2.1
  have s2 := mid_at' g cap 4 6 2 4 6 rfl rfl rfl (by decide) (by decide) h.2.2.1
  have c0 := h.c0
  have c1 := h.c1
  clear h
  generalize cap - 4 = c4 at *
  go_enter Tryd.func67, Tryd.ntmps67
  go_wp2_with fail
  refine H1.out.mono ?_
  rintro e w1 ⟨rfl, m, rfl⟩
  go_wp2_with fail
  refine (H2.out m).mono ?_
  rintro e w2 ⟨rfl, m2, rfl⟩
  go_wp2
  try (go_quiet (fail); go_wp2)
  go_ret3
  exact ⟨rfl, _, rfl⟩
set_option maxRecDepth 100000 in
set_option maxHeartbeats 1000000 in
theorem decode_any (g off n c : Nat) (b : Int) (hn : 0 < n) (hb1 : 0 ≤ b) (hb2 : b < 128) (w : World) (hc : w.cell? ⟨g, off, none⟩ = some (.int .u8 b)) :
    Calls Tryd.prog 82 #[.slice (some ⟨g, off, none⟩) n c] w fun e w' => e = .returned (.tuple #[.int .i32 b, .int .i64 1]) ∧ ∃ m, w' = w.drewN m := by
  go_enter Tryd.func82, Tryd.ntmps82
  go_wp2
  go_loopw [5, 8] (fun _ i wr => i = .int .i64 0 ∧ wr = w) (fun _ _ _ => 0)
  case atStart => exact ⟨rfl, rfl⟩
  case round =>
    obtain ⟨rfl, rfl⟩ := hrel
    go_wp2
    go_ret2
    exact ⟨rfl, 0, rfl⟩
set_option maxRecDepth 100000 in
set_option maxHeartbeats 1000000 in
theorem good_ab (g c : Nat) (hc0 : 2 ≤ c) (w : World) (h0 : w.cell? ⟨g, 4, none⟩ = some (.int .u8 97)) (h1 : w.cell? ⟨g, 5, none⟩ = some (.int .u8 98)) :
    Calls Tryd.prog 68 #[.slice (some ⟨g, 4, none⟩) 2 c] w fun e w' => e = .returned (.int .i64 2) ∧ ∃ m, w' = w.drewN m := by
  have s0 : ∀ w, (Instr.sliceAt 22 (.slice (some ⟨g, 4, none⟩) 2 c) (some (.int .i64 0)) none none).run Tryd.prog w = .ok (.slice (some ⟨g, 4, none⟩) 2 c) w := fun w => slice_from g 4 2 c 0 (by decide) hc0 (by omega) w
  have s1 : ∀ w, (Instr.sliceAt 22 (.slice (some ⟨g, 4, none⟩) 2 c) (some (.int .i64 1)) none none).run Tryd.prog w = .ok (.slice (some ⟨g, 5, none⟩) 1 (c - 1)) w := fun w => slice_from g 4 2 c 1 (by decide) hc0 (by omega) w
  have t0 : ∀ w, (Instr.slice 22 (.slice (some ⟨g, 4, none⟩) 2 c) (some (.int .i64 0)) none none).run Tryd.prog w = .ok (.slice (some ⟨g, 4, none⟩) 2 c) w := fun w => (run_sliceAt_slice w _ _ _ _ _ hu27).symm.trans (s0 w)
  have t1 : ∀ w, (Instr.slice 22 (.slice (some ⟨g, 4, none⟩) 2 c) (some (.int .i64 1)) none none).run Tryd.prog w = .ok (.slice (some ⟨g, 5, none⟩) 1 (c - 1)) w := fun w => (run_sliceAt_slice w _ _ _ _ _ hu27).symm.trans (s1 w)
  have D0 : Hid (∀ m, Calls Tryd.prog 82 #[.slice (some ⟨g, 4, none⟩) 2 c] (w.drewN m) fun e w' => e = .returned (.tuple #[.int .i32 97, .int .i64 1]) ∧ ∃ m', w' = w.drewN m') := fun m => (decode_any g 4 2 c 97 (by decide) (by decide) (by decide) (w.drewN m) h0).mono fun e w' ⟨h1, m', h2⟩ => ⟨h1, m + m', by rw [h2, World.drewN_drewN]⟩
  have D1 : Hid (∀ m, Calls Tryd.prog 82 #[.slice (some ⟨g, 5, none⟩) 1 (c - 1)] (w.drewN m) fun e w' => e = .returned (.tuple #[.int .i32 98, .int .i64 1]) ∧ ∃ m', w' = w.drewN m') := fun m => (decode_any g 5 1 (c - 1) 98 (by decide) (by decide) (by decide) (w.drewN m) h1).mono fun e w' ⟨h1, m', h2⟩ => ⟨h1, m + m', by rw [h2, World.drewN_drewN]⟩
  clear h0 h1
  generalize c - 1 = c1 at *
  go_enter Tryd.func68, Tryd.ntmps68
  go_wp2
  go_loopw [3] (fun n wr => (n = .int .i64 0 ∨ n = .int .i64 1 ∨ n = .int .i64 2) ∧ ∃ m, wr = w.drewN m) (fun n _ => 2 - (intOf n).toNat)
  case atStart => exact ⟨.inl rfl, 0, rfl⟩
  case round =>
    obtain ⟨rfl | rfl | rfl, m, rfl⟩ := hrel
    · go_wp2_with fail
      refine (D0.out m).mono ?_
      rintro e w2 ⟨rfl, m2, rfl⟩
      go_wp2
      exact ⟨⟨.inr (.inl rfl), _, rfl⟩, by decide⟩
    · go_wp2_with fail
      refine (D1.out m).mono ?_
      rintro e w2 ⟨rfl, m2, rfl⟩
      go_wp2
      exact ⟨⟨.inr (.inr rfl), _, rfl⟩, by decide⟩
    · go_wp2
      go_ret
      exact ⟨rfl, _, rfl⟩
set_option maxRecDepth 100000 in
set_option maxHeartbeats 1000000 in
theorem rtext_ab (r g cap base : Nat) (hbr : base ≤ r) (w : World) (h : RB w r g cap 3) :
    Calls Tryd.prog 24 #[.pointer (some ⟨r, 0, none⟩), .int .i64 2] w fun e w' => e = .returned (.string { data := #[97, 98] }) ∧ RB w' r g cap 6 ∧ Below base w w' := by
  have H1 : Hid (Calls Tryd.prog 64 #[.pointer (some ⟨r, 0, none⟩)] w fun e w' => e = .returned (.bool false) ∧ w' = w) := stopped_any r g cap 3 w h
  have H2 : Hid (Calls Tryd.prog 67 #[.pointer (some ⟨r, 0, none⟩), .int .i64 2, .int .i64 1] w fun e w' => e = .returned (.tuple #[.slice (some ⟨g, 4, none⟩) 2 (cap - 4), .int .i64 1, .bool true]) ∧ ∃ m, w' = w.drewN m) := counted_2 r g cap w h
  have hca : w.cell? ⟨g, 4, none⟩ = some (.int .u8 97) := h.2.2.2 4 (by decide)
  have hcb : w.cell? ⟨g, 5, none⟩ = some (.int .u8 98) := h.2.2.2 5 (by decide)
  have hcap := h.2.2.1
  have H4 : Hid (∀ m, Calls Tryd.prog 68 #[.slice (some ⟨g, 4, none⟩) 2 (cap - 4)] (w.drewN m) fun e w' => e = .returned (.int .i64 2) ∧ ∃ m', w' = w.drewN m') := fun m => (good_ab g (cap - 4) (by omega) (w.drewN m) hca hcb).mono fun e w' ⟨h1, m', h2⟩ => ⟨h1, m + m', by rw [h2, World.drewN_drewN]⟩
  have H3 : Hid (∀ m, RB ((w.drewN m).setCell ⟨r, 1, none⟩ (.int .i64 6)) r g cap 6 ∧ Below base w ((w.drewN m).setCell ⟨r, 1, none⟩ (.int .i64 6))) := fun m => step_RB h hbr m 6
  have hcv : ∀ m, (convert 22 9 (.slice (some ⟨g, 4, none⟩) 2 (cap - 4))).run Tryd.prog ((w.drewN m).setCell ⟨r, 1, none⟩ (.int .i64 6)) = .ok (.string { data := #[97, 98] }) ((w.drewN m).setCell ⟨r, 1, none⟩ (.int .i64 6)) := fun m =>
    run_convert_bytes_back (P := Tryd.prog) _ 22 9 5 ⟨g, 4, none⟩ (cap - 4) [97, 98] Tryd.underlying22 Tryd.underlying5 Tryd.underlying9 (fun j hj => by
      rw [Addr.add_mid]
      have hb := (H3.out m).1
      obtain rfl | rfl : j = 0 ∨ j = 1 := by simp at hj; omega
      · exact hb.2.2.2 4 (by decide)
      · exact hb.2.2.2 5 (by decide))
  have c1 := h.c1
  have f1 := h.f1
  clear h hca hcb hcap
  generalize cap - 4 = c4 at *
  go_enter Tryd.func24, Tryd.ntmps24
  go_wp2_with fail
  refine H1.out.mono ?_
  rintro e w1 ⟨rfl, hw1⟩
  subst hw1
  go_wp2_with fail
  refine H2.out.mono ?_
  rintro e w2 ⟨rfl, m, rfl⟩
  go_wp2_with fail
  refine (H4.out m).mono ?_
  rintro e w3 ⟨rfl, m3, rfl⟩
  go_wp2
  go_ret
  exact ⟨rfl, H3.out m3⟩
end Go.Proofs.YtcpkdaebeopmaaaDoor
