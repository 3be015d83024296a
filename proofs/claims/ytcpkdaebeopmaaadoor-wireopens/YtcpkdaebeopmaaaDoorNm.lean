import Derived.Test.YtcpkdaebeopmaaaDoorRd
namespace Go.Proofs.YtcpkdaebeopmaaaDoor
open Go.RowKit
set_option linter.unusedVariables false
set_option linter.unusedSimpArgs false

theorem from_at (g cap k : Nat) (kk : Int) (hkk : kk = (k : Int)) (hk : k ≤ 13) (hc : 14 ≤ cap) : ∀ w, (Instr.sliceAt 22 (.slice (some ⟨g, 0, none⟩) 14 cap) (some (.int .i64 kk)) none none).run Tryd.prog w = .ok (.slice (some ⟨g, k, none⟩) (14 - k) (cap - k)) w := by
  intro w
  subst hkk
  have := slice_from g 0 14 cap k (by omega) hc (by omega) w
  rw [Nat.zero_add] at this
  exact this
theorem from_at' (g cap k : Nat) (kk : Int) (hkk : kk = (k : Int)) (hk : k ≤ 13) (hc : 14 ≤ cap) : ∀ w, (Instr.slice 22 (.slice (some ⟨g, 0, none⟩) 14 cap) (some (.int .i64 kk)) none none).run Tryd.prog w = .ok (.slice (some ⟨g, k, none⟩) (14 - k) (cap - k)) w := fun w =>
  (run_sliceAt_slice w _ _ _ _ _ hu27).symm.trans (from_at g cap k kk hkk hk hc w)

set_option maxRecDepth 100000 in
set_option maxHeartbeats 1000000 in
/-- A number of one byte. -/
theorem number_one (r g cap k : Nat) (kk : Int) (hkk : kk = (k : Int)) (hk : k ≤ 13) (b : Int) (hb : at8 BB k = b) (hb1 : 0 ≤ b) (hb2 : b < 128) (hor : b = bits .or .u64 0 b) (w : World) (h : RB w r g cap kk) :
    Calls Tryd.prog 65 #[.pointer (some ⟨r, 0, none⟩)] w fun e w' => e = .returned (.tuple #[.int .u64 b, .int .i64 1, .bool true]) ∧ ∃ m, w' = w.drewN m := by
  have HR : Hid (RB w r g cap kk) := h
  have HOR : Hid (b = bits .or .u64 0 b) := hor
  clear hor
  have c0 := h.c0
  have c1 := h.c1
  have s1 := from_at g cap k kk hkk hk h.2.2.1
  have s2 := from_at' g cap k kk hkk hk h.2.2.1
  have cb := h.2.2.2 k (by omega)
  rw [hb] at cb
  have hpos : 0 < 14 - k := by omega
  generalize 14 - k = n1 at *
  generalize cap - k = c1 at *
  clear h hkk hb hk
  go_enter Tryd.func65, Tryd.ntmps65
  go_wp2
  go_step3
  go_wp2
  go_quiet (fail)
  go_wp2
  go_step3
  go_wp2
  go_quiet (fail)
  go_wp2
  go_loopw [5, 6, 7, 8, 29] (fun v s y p i wr => v = .int .u64 0 ∧ p = .int .i64 14 ∧ i = .int .i64 0 ∧ ∃ m, wr = w.drewN m) (fun _ _ _ _ _ _ => 0)
  case atStart => exact ⟨rfl, rfl, rfl, _, World.drewN_drewN ..⟩
  case round =>
    obtain ⟨rfl, rfl, rfl, m, rfl⟩ := hrel
    go_wp2_with fail
    refine (keep_ok r g cap kk 14 _ (HR.out.drew m)).mono ?_
    rintro e w1 ⟨rfl, hw1⟩
    subst hw1
    go_wp2
    simp only [Exit.noGoto]
    go_ret3
    exact ⟨by show Ending.returned (.tuple #[.int .u64 (bits .or .u64 0 b), .int .i64 1, .bool true]) = _; rw [← HOR.out], _, rfl⟩
set_option maxRecDepth 100000 in
set_option maxHeartbeats 1000000 in
/-- 300. -/
theorem number_300 (r g cap : Nat) (w : World) (h : RB w r g cap 0) :
    Calls Tryd.prog 65 #[.pointer (some ⟨r, 0, none⟩)] w fun e w' => e = .returned (.tuple #[.int .u64 300, .int .i64 2, .bool true]) ∧ ∃ m, w' = w.drewN m := by
  have HR : Hid (RB w r g cap 0) := h
  have c0 := h.c0
  have c1 := h.c1
  have s1 := from_at g cap 0 0 rfl (by decide) h.2.2.1
  have s2 := from_at' g cap 0 0 rfl (by decide) h.2.2.1
  rw [Nat.sub_zero, Nat.sub_zero] at s1 s2
  have ca : w.cell? ⟨g, 0, none⟩ = some (.int .u8 172) := h.2.2.2 0 (by decide)
  have cb : w.cell? ⟨g, 1, none⟩ = some (.int .u8 2) := h.2.2.2 1 (by decide)
  clear h
  go_enter Tryd.func65, Tryd.ntmps65
  go_wp2
  go_step3
  go_wp2
  go_quiet (fail)
  go_wp2
  go_step3
  go_wp2
  go_quiet (fail)
  go_wp2
  go_loopw [5, 6, 7, 8, 29] (fun v s y p i wr => (v = .int .u64 0 ∧ i = .int .i64 0 ∨ v = .int .u64 44 ∧ i = .int .i64 1) ∧ p = .int .i64 14 ∧ ∃ m, wr = w.drewN m) (fun _ _ _ _ i _ => 2 - (intOf i).toNat)
  case atStart => exact ⟨.inl ⟨rfl, rfl⟩, rfl, _, World.drewN_drewN ..⟩
  case round =>
    obtain ⟨⟨rfl, rfl⟩ | ⟨rfl, rfl⟩, rfl, m, rfl⟩ := hrel
    · go_wp2_with fail
      exact ⟨⟨.inr ⟨congrArg (Value.int IntKind.u64) (by decide +kernel), rfl⟩, rfl, m, rfl⟩, by decide⟩
    · go_wp2_with fail
      refine (keep_ok r g cap 0 14 _ (HR.out.drew m)).mono ?_
      rintro e w1 ⟨rfl, hw1⟩
      subst hw1
      go_wp2
      simp only [Exit.noGoto]
      go_ret3
      exact ⟨rfl, _, rfl⟩
theorem step_RB {w : World} {r g cap base : Nat} {k : Int} (h : RB w r g cap k) (hb : base ≤ r) (m : Nat) (k' : Int) : RB ((w.drewN m).setCell ⟨r, 1, none⟩ (.int .i64 k')) r g cap k' ∧ Below base w ((w.drewN m).setCell ⟨r, 1, none⟩ (.int .i64 k')) :=
  ⟨(h.drew m).set k', (below_drewN (Below.refl _ _) m).setCell hb _⟩
set_option maxRecDepth 100000 in
set_option maxHeartbeats 1000000 in
theorem ruint_300 (r g cap base : Nat) (hbr : base ≤ r) (w : World) (h : RB w r g cap 0) :
    Calls Tryd.prog 22 #[.pointer (some ⟨r, 0, none⟩), .int .u64 300] w fun e w' => e = .returned (.int .u64 300) ∧ RB w' r g cap 2 ∧ Below base w w' := by
  have H1 : Hid (Calls Tryd.prog 64 #[.pointer (some ⟨r, 0, none⟩)] w fun e w' => e = .returned (.bool false) ∧ w' = w) := stopped_any r g cap 0 w h
  have H2 : Hid (Calls Tryd.prog 65 #[.pointer (some ⟨r, 0, none⟩)] w fun e w' => e = .returned (.tuple #[.int .u64 300, .int .i64 2, .bool true]) ∧ ∃ m, w' = w.drewN m) := number_300 r g cap w h
  have H3 : Hid (∀ m, RB ((w.drewN m).setCell ⟨r, 1, none⟩ (.int .i64 2)) r g cap 2 ∧ Below base w ((w.drewN m).setCell ⟨r, 1, none⟩ (.int .i64 2))) := fun m => step_RB h hbr m 2
  have c1 := h.c1
  have f1 := h.f1
  clear h
  go_enter Tryd.func22, Tryd.ntmps22
  go_wp2_with fail
  refine H1.out.mono ?_
  rintro e w1 ⟨rfl, hw1⟩
  subst hw1
  go_wp2_with fail
  refine H2.out.mono ?_
  rintro e w2 ⟨rfl, m, rfl⟩
  go_wp2
  go_ret
  exact ⟨rfl, H3.out m⟩
set_option maxRecDepth 100000 in
set_option maxHeartbeats 1000000 in
theorem ruint_1 (r g cap base : Nat) (hbr : base ≤ r) (w : World) (h : RB w r g cap 2) :
    Calls Tryd.prog 22 #[.pointer (some ⟨r, 0, none⟩), .int .u64 18446744073709551615] w fun e w' => e = .returned (.int .u64 1) ∧ RB w' r g cap 3 ∧ Below base w w' := by
  have H1 : Hid (Calls Tryd.prog 64 #[.pointer (some ⟨r, 0, none⟩)] w fun e w' => e = .returned (.bool false) ∧ w' = w) := stopped_any r g cap 2 w h
  have H2 : Hid (Calls Tryd.prog 65 #[.pointer (some ⟨r, 0, none⟩)] w fun e w' => e = .returned (.tuple #[.int .u64 1, .int .i64 1, .bool true]) ∧ ∃ m, w' = w.drewN m) := number_one r g cap 2 2 rfl (by decide) 1 rfl (by decide) (by decide) (by decide +kernel) w h
  have H3 : Hid (∀ m, RB ((w.drewN m).setCell ⟨r, 1, none⟩ (.int .i64 3)) r g cap 3 ∧ Below base w ((w.drewN m).setCell ⟨r, 1, none⟩ (.int .i64 3))) := fun m => step_RB h hbr m 3
  have c1 := h.c1
  have f1 := h.f1
  clear h
  go_enter Tryd.func22, Tryd.ntmps22
  go_wp2_with fail
  refine H1.out.mono ?_
  rintro e w1 ⟨rfl, hw1⟩
  subst hw1
  go_wp2_with fail
  refine H2.out.mono ?_
  rintro e w2 ⟨rfl, m, rfl⟩
  go_wp2
  go_ret
  exact ⟨rfl, H3.out m⟩
set_option maxRecDepth 100000 in
set_option maxHeartbeats 1000000 in
theorem rint_m1 (r g cap base : Nat) (hbr : base ≤ r) (w : World) (h : RB w r g cap 2) :
    Calls Tryd.prog 23 #[.pointer (some ⟨r, 0, none⟩)] w fun e w' => e = .returned (.int .i64 (-1)) ∧ RB w' r g cap 3 ∧ Below base w w' := by
  have H : Hid (Calls Tryd.prog 22 #[.pointer (some ⟨r, 0, none⟩), .int .u64 18446744073709551615] w fun e w' => e = .returned (.int .u64 1) ∧ RB w' r g cap 3 ∧ Below base w w') := ruint_1 r g cap base hbr w h
  clear h
  go_enter Tryd.func23, Tryd.ntmps23
  go_wp2_with fail
  refine H.out.mono ?_
  rintro e w1 ⟨rfl, a1, b1⟩
  have A1 : Hid (RB w1 r g cap 3) := a1
  clear a1
  go_wp2
  go_ret
  exact ⟨ret_int (by decide +kernel), A1.out, b1⟩
end Go.Proofs.YtcpkdaebeopmaaaDoor
