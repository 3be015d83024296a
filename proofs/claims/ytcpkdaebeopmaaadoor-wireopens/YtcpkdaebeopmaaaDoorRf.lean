import Derived.Test.YtcpkdaebeopmaaaDoorTx
namespace Go.Proofs.YtcpkdaebeopmaaaDoor
open Go.RowKit
set_option linter.unusedVariables false
set_option linter.unusedSimpArgs false

set_option maxRecDepth 100000 in
set_option maxHeartbeats 1000000 in
theorem next_8 (r g cap : Nat) (w : World) (h : RB w r g cap 6) :
    Calls Tryd.prog 69 #[.pointer (some ⟨r, 0, none⟩), .int .i64 8] w fun e w' => e = .returned (.tuple #[.slice (some ⟨g, 6, none⟩) 8 (cap - 6), .bool true]) ∧ ∃ m, w' = w.drewN m := by
  have H2 : Hid (Calls Tryd.prog 81 #[.pointer (some ⟨r, 0, none⟩)] w fun e w' => e = .returned (.int .i64 8) ∧ ∃ m', w' = w.drewN m') := cleft_any r g cap 6 (by decide) (by decide) w h
  have s1 := mid_at g cap 6 14 8 6 14 rfl rfl rfl (by decide) (by decide) h.2.2.1
  have s2 := mid_at' g cap 6 14 8 6 14 rfl rfl rfl (by decide) (by decide) h.2.2.1
  have c0 := h.c0
  have c1 := h.c1
  clear h
  generalize cap - 6 = c4 at *
  go_enter Tryd.func69, Tryd.ntmps69
  go_wp2_with fail
  refine H2.out.mono ?_
  rintro e w1 ⟨rfl, m, rfl⟩
  go_wp2
  go_quiet (fail)
  go_wp2
  go_ret2
  exact ⟨rfl, _, by first | rfl | exact World.drewN_drewN ..⟩
set_option maxRecDepth 100000 in
set_option maxHeartbeats 1000000 in
theorem sign_15 (w : World) :
    Calls Tryd.prog 71 #[.float .f64 4609434218613702656] w fun e w' => e = .returned (.bool false) ∧ w' = w := by
  go_enter Tryd.func71, Tryd.ntmps71
  go_wp2
  go_ret
  exact ⟨rfl, rfl⟩
theorem or_15 : (bits BinOp.or IntKind.u64 4609434218613702656 0).toNat = 4609434218613702656 := by decide +kernel
set_option maxRecDepth 100000 in
set_option maxHeartbeats 1000000 in
theorem rfloat_15 (r g cap base : Nat) (hbr : base ≤ r) (w : World) (h : RB w r g cap 6) :
    Calls Tryd.prog 25 #[.pointer (some ⟨r, 0, none⟩)] w fun e w' => e = .returned (.float .f64 4609434218613702656) ∧ RB w' r g cap 14 ∧ Below base w w' := by
  have H1 : Hid (Calls Tryd.prog 64 #[.pointer (some ⟨r, 0, none⟩)] w fun e w' => e = .returned (.bool false) ∧ w' = w) := stopped_any r g cap 6 w h
  have H2 : Hid (Calls Tryd.prog 69 #[.pointer (some ⟨r, 0, none⟩), .int .i64 8] w fun e w' => e = .returned (.tuple #[.slice (some ⟨g, 6, none⟩) 8 (cap - 6), .bool true]) ∧ RB w' r g cap 6 ∧ Below base w w') := (next_8 r g cap w h).mono fun e w' ⟨h1, m, h2⟩ => ⟨h1, by rw [h2]; exact h.drew m, by rw [h2]; exact below_drewN (Below.refl _ _) m⟩
  have hcap := h.2.2.1
  have s1 : ∀ wx, (Instr.sliceAt 22 (.slice (some ⟨g, 6, none⟩) 8 (cap - 6)) (some (.int .i64 4)) none none).run Tryd.prog wx = .ok (.slice (some ⟨g, 10, none⟩) 4 (cap - 6 - 4)) wx := fun wx => slice_from g 6 8 (cap - 6) 4 (by decide) (by omega) (by omega) wx
  have s2 : ∀ wx, (Instr.slice 22 (.slice (some ⟨g, 6, none⟩) 8 (cap - 6)) (some (.int .i64 4)) none none).run Tryd.prog wx = .ok (.slice (some ⟨g, 10, none⟩) 4 (cap - 6 - 4)) wx := fun wx => (run_sliceAt_slice wx _ _ _ _ _ hu27).symm.trans (s1 wx)
  clear h hcap
  go_enter Tryd.func25, Tryd.ntmps25
  go_wp2_with fail
  refine H1.out.mono ?_
  rintro e w1 ⟨rfl, hw1⟩
  subst hw1
  go_wp2_with fail
  refine H2.out.mono ?_
  rintro e w2 ⟨rfl, h, b2⟩
  have H3 : Hid (∀ m, RB ((w2.drewN m).setCell ⟨r, 1, none⟩ (.int .i64 14)) r g cap 14 ∧ Below base w1 ((w2.drewN m).setCell ⟨r, 1, none⟩ (.int .i64 14))) := fun m => ⟨(step_RB h hbr m 14).1, b2.trans (step_RB h hbr m 14).2⟩
  have F : Hid (∀ off n c m, (off = 6 ∧ n = 8 ∨ off = 10 ∧ n = 4) → Calls Tryd.prog 54 #[.slice (some ⟨g, off, none⟩) n c] (w2.drewN m) fun e w' => e = .returned (.int .u32 (if off = 6 then 1073217536 else 0)) ∧ ∃ m', w' = (w2.drewN m).drewN m') := fun off n c m ho => by
    rcases ho with ⟨rfl, rfl⟩ | ⟨rfl, rfl⟩
    · exact fix_any g 6 8 c [63, 248, 0, 0] (w2.drewN m) (by decide) (fun j hj => by
        obtain rfl | rfl | rfl | rfl : j = 0 ∨ j = 1 ∨ j = 2 ∨ j = 3 := by omega
        · exact h.2.2.2 6 (by decide)
        · exact h.2.2.2 7 (by decide)
        · exact h.2.2.2 8 (by decide)
        · exact h.2.2.2 9 (by decide))
    · exact fix_any g 10 4 c [0, 0, 0, 0] (w2.drewN m) (by decide) (fun j hj => by
        obtain rfl | rfl | rfl | rfl : j = 0 ∨ j = 1 ∨ j = 2 ∨ j = 3 := by omega
        · exact h.2.2.2 10 (by decide)
        · exact h.2.2.2 11 (by decide)
        · exact h.2.2.2 12 (by decide)
        · exact h.2.2.2 13 (by decide))
  have c1 := h.c1
  have f1 := h.f1
  clear h b2 H1 H2
  generalize cap - 6 - 4 = c5 at *
  generalize cap - 6 = c4 at *
  go_wp2
  go_quiet (first | (go_at_call 54; exact Calls.quiet_of (F.out _ _ _ _ (by decide))) | fail)
  go_wp2_with fail
  rw [or_15]
  refine (finite_15 _).mono ?_
  rintro e w3 ⟨rfl, hw3⟩
  subst hw3
  go_wp2
  go_ret
  exact ⟨rfl, H3.out nq⟩
set_option maxRecDepth 100000 in
set_option maxHeartbeats 1000000 in
theorem reader_any (g cap : Nat) (w : World) (hcap : 14 ≤ cap) (hB : Byt w (some ⟨g, 0, none⟩) BB) :
    Calls Tryd.prog 21 #[.slice (some ⟨g, 0, none⟩) 14 cap] w fun e w' => ∃ r g2 c2, e = .returned (.pointer (some ⟨r, 0, none⟩)) ∧ RB w' r g2 c2 0 ∧ w.heap.size ≤ r ∧ Below w.heap.size w w' := by
  go_enter Tryd.func21, Tryd.ntmps21
  go_wp2_with fail
  refine (clone_any g 0 14 cap BB w rfl (by decide) hB).mono ?_
  rintro e w1 ⟨v, rfl, own, b1⟩
  obtain ⟨g2, c2, rfl, hcv, hcl, hg1, hg2⟩ := own.open1 (by decide)
  have z1 := b1.size
  have HB : Hid (RB (w1.alloc (.cells #[.slice (some ⟨g2, 0, none⟩) 14 c2, .int .i64 0, .int .i64 0, .int .i64 0] 97)) w1.heap.size g2 c2 0) := by
    refine ⟨heap_alloc_new _ _, by omega, hcv, fun j hj => ?_⟩
    rw [show (w1.alloc (.cells #[.slice (some ⟨g2, 0, none⟩) 14 c2, .int .i64 0, .int .i64 0, .int .i64 0] 97)).cell? ⟨g2, j, none⟩ = w1.cell? ⟨g2, j, none⟩ from (((Below.refl w1.heap.size w1).alloc (Nat.le_refl _) _).cell (p := ⟨g2, j, none⟩) hg2)]
    exact hcl j hj
  have B2 : Below w.heap.size w (w1.alloc (.cells #[.slice (some ⟨g2, 0, none⟩) 14 c2, .int .i64 0, .int .i64 0, .int .i64 0] 97)) := b1.alloc (by omega) _
  clear own hcl b1
  go_wp2
  go_ret
  exact ⟨_, g2, c2, rfl, HB.out, z1, B2⟩
end Go.Proofs.YtcpkdaebeopmaaaDoor
