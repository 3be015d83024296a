import Derived.Test.YtdnocpngdepbgaaGreatDoorKGs
namespace Go.Proofs.YtdnocpngdepbgaaGreatDoor.K
open Go.RowKit
set_option linter.unusedVariables false
set_option linter.unusedSimpArgs false

set_option maxRecDepth 100000 in
set_option maxHeartbeats 1000000 in
theorem seq_lo (s : ByteArray) (i c : Nat) (w : World) (h0 : i < s.size) (hs : s.size ≤ 140737488355328) (hc : by8 s i = c) (ha : 128 ≤ c) (hb : c ≤ 193) :
    Calls Tryz.prog 136 #[.string s, .int .i64 (i : Int)] w fun e w' => e = .returned (.int .i64 0) ∧ w' = w := by
  have i0 := fun wx => index_str s i (i : Int) rfl wx h0
  rw [hc] at i0
  have hi0 : ¬ (i : Int) < 0 := by omega
  have hi1 : ¬ (s.size : Int) ≤ (i : Int) := by omega
  have q0 : ¬ ((c : Int) < 128) := by omega
  have g194 : ¬ ((194 : Int) ≤ (c : Int)) := by omega
  have l223 : ((c : Int) ≤ 223) := by omega
  have g224 : ¬ ((224 : Int) ≤ (c : Int)) := by omega
  have l239 : ((c : Int) ≤ 239) := by omega
  have g240 : ¬ ((240 : Int) ≤ (c : Int)) := by omega
  have l244 : ((c : Int) ≤ 244) := by omega
  have e224 : ¬ ((c : Int) = 224) := by omega
  have e237 : ¬ ((c : Int) = 237) := by omega
  have e240 : ¬ ((c : Int) = 240) := by omega
  have e244 : ¬ ((c : Int) = 244) := by omega
  clear hc ha hb h0
  go_enter Tryz.func136, Tryz.ntmps136
  go_wp2
  go_ret
  exact ⟨rfl, rfl⟩
set_option maxRecDepth 100000 in
set_option maxHeartbeats 1000000 in
theorem seq_two (s : ByteArray) (i c : Nat) (w : World) (h0 : i < s.size) (hs : s.size ≤ 140737488355328) (hc : by8 s i = c) (ha : 194 ≤ c) (hb : c ≤ 223) :
    Calls Tryz.prog 136 #[.string s, .int .i64 (i : Int)] w fun e w' => e = .returned (.int .i64 (if TailB s i 2 128 191 = true then 2 else 0)) ∧ w' = w := by
  have i0 := fun wx => index_str s i (i : Int) rfl wx h0
  rw [hc] at i0
  have hi0 : ¬ (i : Int) < 0 := by omega
  have hi1 : ¬ (s.size : Int) ≤ (i : Int) := by omega
  have q0 : ¬ ((c : Int) < 128) := by omega
  have g194 : ((194 : Int) ≤ (c : Int)) := by omega
  have l223 : ((c : Int) ≤ 223) := by omega
  have g224 : ¬ ((224 : Int) ≤ (c : Int)) := by omega
  have l239 : ((c : Int) ≤ 239) := by omega
  have g240 : ¬ ((240 : Int) ≤ (c : Int)) := by omega
  have l244 : ((c : Int) ≤ 244) := by omega
  have e224 : ¬ ((c : Int) = 224) := by omega
  have e237 : ¬ ((c : Int) = 237) := by omega
  have e240 : ¬ ((c : Int) = 240) := by omega
  have e244 : ¬ ((c : Int) = 244) := by omega
  have F1 : Hid (∀ wx, Calls Tryz.prog 150 #[.string s, .int .i64 ((i : Int) + 1), .int .u8 128, .int .u8 191] wx fun e w' => e = .returned (.bool (folB s (i + 1) 128 191)) ∧ w' = wx) := fun wx => follows_any s _ (i + 1) 128 191 (by omega) wx
  have FK : Hid (∀ (k : Nat) wx, Calls Tryz.prog 150 #[.string s, .int .i64 ((i : Int) + (k : Int)), .int .u8 128, .int .u8 191] wx fun e w' => e = .returned (.bool (folB s (i + k) 128 191)) ∧ w' = wx) := fun k wx => follows_any s _ (i + k) 128 191 (by omega) wx
  clear hc ha hb
  by_cases hT : folB s (i + 1) 128 191 = true
  · rw [hT] at F1
    have hA : TailB s i 2 128 191 = ((decide (2 ≤ 2) || folB s (i + 2) 128 191) && (decide (2 ≤ 3) || folB s (i + 3) 128 191)) := by unfold TailB; rw [hT]; rfl
    have HA := Hid.mk' hA
    obtain ⟨R, hR⟩ : ∃ R : Int, (if TailB s i 2 128 191 = true then (2 : Int) else 0) = R := ⟨_, rfl⟩
    rw [hR]
    have HRR := Hid.mk' hR
    clear hA hT hR
    go_enter Tryz.func136, Tryz.ntmps136
    go_wp2_with fail
    refine (F1.out _).mono ?_
    rintro e w1 ⟨rfl, hw1⟩
    subst hw1
    go_wp2
    go_loopw [9] (fun k wr => ∃ j : Nat, 2 ≤ j ∧ j ≤ 2 ∧ k = .int .i64 (j : Int) ∧ wr = w1 ∧ Hid (∀ x, 2 ≤ x → x < j → folB s (i + x) 128 191 = true)) (fun k _ => 2 - (intOf k).toNat)
    case atStart => exact ⟨2, by omega, by omega, rfl, by trivial, fun x _ _ => by omega⟩
    case round =>
      obtain ⟨j, hj1, hj2, rfl, rfl, HJ⟩ := hrel
      by_cases hjn : j < 2
      · have hjn' : (j : Int) < 2 := by omega
        have FJ := Hid.mk' (FK.out j)
        by_cases hF : folB s (i + j) 128 191 = true
        · rw [hF] at FJ
          have HF := Hid.mk' hF
          clear hF
          go_wp2_with fail
          refine (FJ.out _).mono ?_
          rintro e _ ⟨rfl, rfl⟩
          go_wp2
          go_roundw
          case rel =>
            refine ⟨j + 1, by omega, by omega, by go_num, by trivial, fun x h1 h2 => ?_⟩
            rcases Nat.lt_or_ge x j with h | h
            · exact HJ.out x h1 h
            · have : x = j := by omega
              subst this
              exact HF.out
          case measure => simp [intOf]; omega
        · have hF' : folB s (i + j) 128 191 = false := by simpa using hF
          rw [hF'] at FJ
          have E : ((decide (2 ≤ 2) || folB s (i + 2) 128 191) && (decide (2 ≤ 3) || folB s (i + 3) 128 191)) = false := by
            obtain rfl | rfl : j = 2 ∨ j = 3 := by omega
            · first | (exfalso; omega) | (rw [hF']; rfl)
            · first | (exfalso; omega) | (rw [hF']; cases folB s (i + 2) 128 191 <;> rfl)
          have HE := Hid.mk' E
          clear hF hF' E
          go_wp2_with fail
          refine (FJ.out _).mono ?_
          rintro e _ ⟨rfl, rfl⟩
          go_wp2
          go_ret
          exact ⟨ret_int (by rw [← HRR.out, HA.out, HE.out]; rfl), rfl⟩
      · have hjn' : ¬ (j : Int) < 2 := by omega
        obtain rfl : j = 2 := by omega
        have E : ((decide (2 ≤ 2) || folB s (i + 2) 128 191) && (decide (2 ≤ 3) || folB s (i + 3) 128 191)) = true := by
          rfl
        have HE := Hid.mk' E
        clear E
        go_wp2
        go_ret
        exact ⟨ret_int (by rw [← HRR.out, HA.out, HE.out]; rfl), rfl⟩
  · have hF : folB s (i + 1) 128 191 = false := by simpa using hT
    rw [hF] at F1
    have E : TailB s i 2 128 191 = false := by unfold TailB; rw [hF]; rfl
    rw [E]
    clear hT hF E
    go_enter Tryz.func136, Tryz.ntmps136
    go_wp2_with fail
    refine (F1.out _).mono ?_
    rintro e _ ⟨rfl, rfl⟩
    go_wp2
    go_ret
    exact ⟨rfl, rfl⟩
set_option maxRecDepth 100000 in
set_option maxHeartbeats 1000000 in
theorem seq_e0 (s : ByteArray) (i c : Nat) (w : World) (h0 : i < s.size) (hs : s.size ≤ 140737488355328) (hc : by8 s i = c) (ha : 224 ≤ c) (hb : c ≤ 224) :
    Calls Tryz.prog 136 #[.string s, .int .i64 (i : Int)] w fun e w' => e = .returned (.int .i64 (if TailB s i 3 160 191 = true then 3 else 0)) ∧ w' = w := by
  have i0 := fun wx => index_str s i (i : Int) rfl wx h0
  rw [hc] at i0
  have hi0 : ¬ (i : Int) < 0 := by omega
  have hi1 : ¬ (s.size : Int) ≤ (i : Int) := by omega
  have q0 : ¬ ((c : Int) < 128) := by omega
  have g194 : ((194 : Int) ≤ (c : Int)) := by omega
  have l223 : ¬ ((c : Int) ≤ 223) := by omega
  have g224 : ((224 : Int) ≤ (c : Int)) := by omega
  have l239 : ((c : Int) ≤ 239) := by omega
  have g240 : ¬ ((240 : Int) ≤ (c : Int)) := by omega
  have l244 : ((c : Int) ≤ 244) := by omega
  have e224 : ((c : Int) = 224) := by omega
  have e237 : ¬ ((c : Int) = 237) := by omega
  have e240 : ¬ ((c : Int) = 240) := by omega
  have e244 : ¬ ((c : Int) = 244) := by omega
  have F1 : Hid (∀ wx, Calls Tryz.prog 150 #[.string s, .int .i64 ((i : Int) + 1), .int .u8 160, .int .u8 191] wx fun e w' => e = .returned (.bool (folB s (i + 1) 160 191)) ∧ w' = wx) := fun wx => follows_any s _ (i + 1) 160 191 (by omega) wx
  have FK : Hid (∀ (k : Nat) wx, Calls Tryz.prog 150 #[.string s, .int .i64 ((i : Int) + (k : Int)), .int .u8 128, .int .u8 191] wx fun e w' => e = .returned (.bool (folB s (i + k) 128 191)) ∧ w' = wx) := fun k wx => follows_any s _ (i + k) 128 191 (by omega) wx
  clear hc ha hb
  by_cases hT : folB s (i + 1) 160 191 = true
  · rw [hT] at F1
    have hA : TailB s i 3 160 191 = ((decide (3 ≤ 2) || folB s (i + 2) 128 191) && (decide (3 ≤ 3) || folB s (i + 3) 128 191)) := by unfold TailB; rw [hT]; rfl
    have HA := Hid.mk' hA
    obtain ⟨R, hR⟩ : ∃ R : Int, (if TailB s i 3 160 191 = true then (3 : Int) else 0) = R := ⟨_, rfl⟩
    rw [hR]
    have HRR := Hid.mk' hR
    clear hA hT hR
    go_enter Tryz.func136, Tryz.ntmps136
    go_wp2_with fail
    refine (F1.out _).mono ?_
    rintro e w1 ⟨rfl, hw1⟩
    subst hw1
    go_wp2
    go_loopw [9] (fun k wr => ∃ j : Nat, 2 ≤ j ∧ j ≤ 3 ∧ k = .int .i64 (j : Int) ∧ wr = w1 ∧ Hid (∀ x, 2 ≤ x → x < j → folB s (i + x) 128 191 = true)) (fun k _ => 3 - (intOf k).toNat)
    case atStart => exact ⟨2, by omega, by omega, rfl, by trivial, fun x _ _ => by omega⟩
    case round =>
      obtain ⟨j, hj1, hj2, rfl, rfl, HJ⟩ := hrel
      by_cases hjn : j < 3
      · have hjn' : (j : Int) < 3 := by omega
        have FJ := Hid.mk' (FK.out j)
        by_cases hF : folB s (i + j) 128 191 = true
        · rw [hF] at FJ
          have HF := Hid.mk' hF
          clear hF
          go_wp2_with fail
          refine (FJ.out _).mono ?_
          rintro e _ ⟨rfl, rfl⟩
          go_wp2
          go_roundw
          case rel =>
            refine ⟨j + 1, by omega, by omega, by go_num, by trivial, fun x h1 h2 => ?_⟩
            rcases Nat.lt_or_ge x j with h | h
            · exact HJ.out x h1 h
            · have : x = j := by omega
              subst this
              exact HF.out
          case measure => simp [intOf]; omega
        · have hF' : folB s (i + j) 128 191 = false := by simpa using hF
          rw [hF'] at FJ
          have E : ((decide (3 ≤ 2) || folB s (i + 2) 128 191) && (decide (3 ≤ 3) || folB s (i + 3) 128 191)) = false := by
            obtain rfl | rfl : j = 2 ∨ j = 3 := by omega
            · first | (exfalso; omega) | (rw [hF']; rfl)
            · first | (exfalso; omega) | (rw [hF']; cases folB s (i + 2) 128 191 <;> rfl)
          have HE := Hid.mk' E
          clear hF hF' E
          go_wp2_with fail
          refine (FJ.out _).mono ?_
          rintro e _ ⟨rfl, rfl⟩
          go_wp2
          go_ret
          exact ⟨ret_int (by rw [← HRR.out, HA.out, HE.out]; rfl), rfl⟩
      · have hjn' : ¬ (j : Int) < 3 := by omega
        obtain rfl : j = 3 := by omega
        have E : ((decide (3 ≤ 2) || folB s (i + 2) 128 191) && (decide (3 ≤ 3) || folB s (i + 3) 128 191)) = true := by
          rw [HJ.out 2 (by omega) (by omega)]; rfl
        have HE := Hid.mk' E
        clear E
        go_wp2
        go_ret
        exact ⟨ret_int (by rw [← HRR.out, HA.out, HE.out]; rfl), rfl⟩
  · have hF : folB s (i + 1) 160 191 = false := by simpa using hT
    rw [hF] at F1
    have E : TailB s i 3 160 191 = false := by unfold TailB; rw [hF]; rfl
    rw [E]
    clear hT hF E
    go_enter Tryz.func136, Tryz.ntmps136
    go_wp2_with fail
    refine (F1.out _).mono ?_
    rintro e _ ⟨rfl, rfl⟩
    go_wp2
    go_ret
    exact ⟨rfl, rfl⟩
set_option maxRecDepth 100000 in
set_option maxHeartbeats 1000000 in
theorem seq_e1 (s : ByteArray) (i c : Nat) (w : World) (h0 : i < s.size) (hs : s.size ≤ 140737488355328) (hc : by8 s i = c) (ha : 225 ≤ c) (hb : c ≤ 236) :
    Calls Tryz.prog 136 #[.string s, .int .i64 (i : Int)] w fun e w' => e = .returned (.int .i64 (if TailB s i 3 128 191 = true then 3 else 0)) ∧ w' = w := by
  have i0 := fun wx => index_str s i (i : Int) rfl wx h0
  rw [hc] at i0
  have hi0 : ¬ (i : Int) < 0 := by omega
  have hi1 : ¬ (s.size : Int) ≤ (i : Int) := by omega
  have q0 : ¬ ((c : Int) < 128) := by omega
  have g194 : ((194 : Int) ≤ (c : Int)) := by omega
  have l223 : ¬ ((c : Int) ≤ 223) := by omega
  have g224 : ((224 : Int) ≤ (c : Int)) := by omega
  have l239 : ((c : Int) ≤ 239) := by omega
  have g240 : ¬ ((240 : Int) ≤ (c : Int)) := by omega
  have l244 : ((c : Int) ≤ 244) := by omega
  have e224 : ¬ ((c : Int) = 224) := by omega
  have e237 : ¬ ((c : Int) = 237) := by omega
  have e240 : ¬ ((c : Int) = 240) := by omega
  have e244 : ¬ ((c : Int) = 244) := by omega
  have F1 : Hid (∀ wx, Calls Tryz.prog 150 #[.string s, .int .i64 ((i : Int) + 1), .int .u8 128, .int .u8 191] wx fun e w' => e = .returned (.bool (folB s (i + 1) 128 191)) ∧ w' = wx) := fun wx => follows_any s _ (i + 1) 128 191 (by omega) wx
  have FK : Hid (∀ (k : Nat) wx, Calls Tryz.prog 150 #[.string s, .int .i64 ((i : Int) + (k : Int)), .int .u8 128, .int .u8 191] wx fun e w' => e = .returned (.bool (folB s (i + k) 128 191)) ∧ w' = wx) := fun k wx => follows_any s _ (i + k) 128 191 (by omega) wx
  clear hc ha hb
  by_cases hT : folB s (i + 1) 128 191 = true
  · rw [hT] at F1
    have hA : TailB s i 3 128 191 = ((decide (3 ≤ 2) || folB s (i + 2) 128 191) && (decide (3 ≤ 3) || folB s (i + 3) 128 191)) := by unfold TailB; rw [hT]; rfl
    have HA := Hid.mk' hA
    obtain ⟨R, hR⟩ : ∃ R : Int, (if TailB s i 3 128 191 = true then (3 : Int) else 0) = R := ⟨_, rfl⟩
    rw [hR]
    have HRR := Hid.mk' hR
    clear hA hT hR
    go_enter Tryz.func136, Tryz.ntmps136
    go_wp2_with fail
    refine (F1.out _).mono ?_
    rintro e w1 ⟨rfl, hw1⟩
    subst hw1
    go_wp2
    go_loopw [9] (fun k wr => ∃ j : Nat, 2 ≤ j ∧ j ≤ 3 ∧ k = .int .i64 (j : Int) ∧ wr = w1 ∧ Hid (∀ x, 2 ≤ x → x < j → folB s (i + x) 128 191 = true)) (fun k _ => 3 - (intOf k).toNat)
    case atStart => exact ⟨2, by omega, by omega, rfl, by trivial, fun x _ _ => by omega⟩
    case round =>
      obtain ⟨j, hj1, hj2, rfl, rfl, HJ⟩ := hrel
      by_cases hjn : j < 3
      · have hjn' : (j : Int) < 3 := by omega
        have FJ := Hid.mk' (FK.out j)
        by_cases hF : folB s (i + j) 128 191 = true
        · rw [hF] at FJ
          have HF := Hid.mk' hF
          clear hF
          go_wp2_with fail
          refine (FJ.out _).mono ?_
          rintro e _ ⟨rfl, rfl⟩
          go_wp2
          go_roundw
          case rel =>
            refine ⟨j + 1, by omega, by omega, by go_num, by trivial, fun x h1 h2 => ?_⟩
            rcases Nat.lt_or_ge x j with h | h
            · exact HJ.out x h1 h
            · have : x = j := by omega
              subst this
              exact HF.out
          case measure => simp [intOf]; omega
        · have hF' : folB s (i + j) 128 191 = false := by simpa using hF
          rw [hF'] at FJ
          have E : ((decide (3 ≤ 2) || folB s (i + 2) 128 191) && (decide (3 ≤ 3) || folB s (i + 3) 128 191)) = false := by
            obtain rfl | rfl : j = 2 ∨ j = 3 := by omega
            · first | (exfalso; omega) | (rw [hF']; rfl)
            · first | (exfalso; omega) | (rw [hF']; cases folB s (i + 2) 128 191 <;> rfl)
          have HE := Hid.mk' E
          clear hF hF' E
          go_wp2_with fail
          refine (FJ.out _).mono ?_
          rintro e _ ⟨rfl, rfl⟩
          go_wp2
          go_ret
          exact ⟨ret_int (by rw [← HRR.out, HA.out, HE.out]; rfl), rfl⟩
      · have hjn' : ¬ (j : Int) < 3 := by omega
        obtain rfl : j = 3 := by omega
        have E : ((decide (3 ≤ 2) || folB s (i + 2) 128 191) && (decide (3 ≤ 3) || folB s (i + 3) 128 191)) = true := by
          rw [HJ.out 2 (by omega) (by omega)]; rfl
        have HE := Hid.mk' E
        clear E
        go_wp2
        go_ret
        exact ⟨ret_int (by rw [← HRR.out, HA.out, HE.out]; rfl), rfl⟩
  · have hF : folB s (i + 1) 128 191 = false := by simpa using hT
    rw [hF] at F1
    have E : TailB s i 3 128 191 = false := by unfold TailB; rw [hF]; rfl
    rw [E]
    clear hT hF E
    go_enter Tryz.func136, Tryz.ntmps136
    go_wp2_with fail
    refine (F1.out _).mono ?_
    rintro e _ ⟨rfl, rfl⟩
    go_wp2
    go_ret
    exact ⟨rfl, rfl⟩
set_option maxRecDepth 100000 in
set_option maxHeartbeats 1000000 in
theorem seq_ed (s : ByteArray) (i c : Nat) (w : World) (h0 : i < s.size) (hs : s.size ≤ 140737488355328) (hc : by8 s i = c) (ha : 237 ≤ c) (hb : c ≤ 237) :
    Calls Tryz.prog 136 #[.string s, .int .i64 (i : Int)] w fun e w' => e = .returned (.int .i64 (if TailB s i 3 128 159 = true then 3 else 0)) ∧ w' = w := by
  have i0 := fun wx => index_str s i (i : Int) rfl wx h0
  rw [hc] at i0
  have hi0 : ¬ (i : Int) < 0 := by omega
  have hi1 : ¬ (s.size : Int) ≤ (i : Int) := by omega
  have q0 : ¬ ((c : Int) < 128) := by omega
  have g194 : ((194 : Int) ≤ (c : Int)) := by omega
  have l223 : ¬ ((c : Int) ≤ 223) := by omega
  have g224 : ((224 : Int) ≤ (c : Int)) := by omega
  have l239 : ((c : Int) ≤ 239) := by omega
  have g240 : ¬ ((240 : Int) ≤ (c : Int)) := by omega
  have l244 : ((c : Int) ≤ 244) := by omega
  have e224 : ¬ ((c : Int) = 224) := by omega
  have e237 : ((c : Int) = 237) := by omega
  have e240 : ¬ ((c : Int) = 240) := by omega
  have e244 : ¬ ((c : Int) = 244) := by omega
  have F1 : Hid (∀ wx, Calls Tryz.prog 150 #[.string s, .int .i64 ((i : Int) + 1), .int .u8 128, .int .u8 159] wx fun e w' => e = .returned (.bool (folB s (i + 1) 128 159)) ∧ w' = wx) := fun wx => follows_any s _ (i + 1) 128 159 (by omega) wx
  have FK : Hid (∀ (k : Nat) wx, Calls Tryz.prog 150 #[.string s, .int .i64 ((i : Int) + (k : Int)), .int .u8 128, .int .u8 191] wx fun e w' => e = .returned (.bool (folB s (i + k) 128 191)) ∧ w' = wx) := fun k wx => follows_any s _ (i + k) 128 191 (by omega) wx
  clear hc ha hb
  by_cases hT : folB s (i + 1) 128 159 = true
  · rw [hT] at F1
    have hA : TailB s i 3 128 159 = ((decide (3 ≤ 2) || folB s (i + 2) 128 191) && (decide (3 ≤ 3) || folB s (i + 3) 128 191)) := by unfold TailB; rw [hT]; rfl
    have HA := Hid.mk' hA
    obtain ⟨R, hR⟩ : ∃ R : Int, (if TailB s i 3 128 159 = true then (3 : Int) else 0) = R := ⟨_, rfl⟩
    rw [hR]
    have HRR := Hid.mk' hR
    clear hA hT hR
    go_enter Tryz.func136, Tryz.ntmps136
    go_wp2_with fail
    refine (F1.out _).mono ?_
    rintro e w1 ⟨rfl, hw1⟩
    subst hw1
    go_wp2
    go_loopw [9] (fun k wr => ∃ j : Nat, 2 ≤ j ∧ j ≤ 3 ∧ k = .int .i64 (j : Int) ∧ wr = w1 ∧ Hid (∀ x, 2 ≤ x → x < j → folB s (i + x) 128 191 = true)) (fun k _ => 3 - (intOf k).toNat)
    case atStart => exact ⟨2, by omega, by omega, rfl, by trivial, fun x _ _ => by omega⟩
    case round =>
      obtain ⟨j, hj1, hj2, rfl, rfl, HJ⟩ := hrel
      by_cases hjn : j < 3
      · have hjn' : (j : Int) < 3 := by omega
        have FJ := Hid.mk' (FK.out j)
        by_cases hF : folB s (i + j) 128 191 = true
        · rw [hF] at FJ
          have HF := Hid.mk' hF
          clear hF
          go_wp2_with fail
          refine (FJ.out _).mono ?_
          rintro e _ ⟨rfl, rfl⟩
          go_wp2
          go_roundw
          case rel =>
            refine ⟨j + 1, by omega, by omega, by go_num, by trivial, fun x h1 h2 => ?_⟩
            rcases Nat.lt_or_ge x j with h | h
            · exact HJ.out x h1 h
            · have : x = j := by omega
              subst this
              exact HF.out
          case measure => simp [intOf]; omega
        · have hF' : folB s (i + j) 128 191 = false := by simpa using hF
          rw [hF'] at FJ
          have E : ((decide (3 ≤ 2) || folB s (i + 2) 128 191) && (decide (3 ≤ 3) || folB s (i + 3) 128 191)) = false := by
            obtain rfl | rfl : j = 2 ∨ j = 3 := by omega
            · first | (exfalso; omega) | (rw [hF']; rfl)
            · first | (exfalso; omega) | (rw [hF']; cases folB s (i + 2) 128 191 <;> rfl)
          have HE := Hid.mk' E
          clear hF hF' E
          go_wp2_with fail
          refine (FJ.out _).mono ?_
          rintro e _ ⟨rfl, rfl⟩
          go_wp2
          go_ret
          exact ⟨ret_int (by rw [← HRR.out, HA.out, HE.out]; rfl), rfl⟩
      · have hjn' : ¬ (j : Int) < 3 := by omega
        obtain rfl : j = 3 := by omega
        have E : ((decide (3 ≤ 2) || folB s (i + 2) 128 191) && (decide (3 ≤ 3) || folB s (i + 3) 128 191)) = true := by
          rw [HJ.out 2 (by omega) (by omega)]; rfl
        have HE := Hid.mk' E
        clear E
        go_wp2
        go_ret
        exact ⟨ret_int (by rw [← HRR.out, HA.out, HE.out]; rfl), rfl⟩
  · have hF : folB s (i + 1) 128 159 = false := by simpa using hT
    rw [hF] at F1
    have E : TailB s i 3 128 159 = false := by unfold TailB; rw [hF]; rfl
    rw [E]
    clear hT hF E
    go_enter Tryz.func136, Tryz.ntmps136
    go_wp2_with fail
    refine (F1.out _).mono ?_
    rintro e _ ⟨rfl, rfl⟩
    go_wp2
    go_ret
    exact ⟨rfl, rfl⟩
set_option maxRecDepth 100000 in
set_option maxHeartbeats 1000000 in
theorem seq_ee (s : ByteArray) (i c : Nat) (w : World) (h0 : i < s.size) (hs : s.size ≤ 140737488355328) (hc : by8 s i = c) (ha : 238 ≤ c) (hb : c ≤ 239) :
    Calls Tryz.prog 136 #[.string s, .int .i64 (i : Int)] w fun e w' => e = .returned (.int .i64 (if TailB s i 3 128 191 = true then 3 else 0)) ∧ w' = w := by
  have i0 := fun wx => index_str s i (i : Int) rfl wx h0
  rw [hc] at i0
  have hi0 : ¬ (i : Int) < 0 := by omega
  have hi1 : ¬ (s.size : Int) ≤ (i : Int) := by omega
  have q0 : ¬ ((c : Int) < 128) := by omega
  have g194 : ((194 : Int) ≤ (c : Int)) := by omega
  have l223 : ¬ ((c : Int) ≤ 223) := by omega
  have g224 : ((224 : Int) ≤ (c : Int)) := by omega
  have l239 : ((c : Int) ≤ 239) := by omega
  have g240 : ¬ ((240 : Int) ≤ (c : Int)) := by omega
  have l244 : ((c : Int) ≤ 244) := by omega
  have e224 : ¬ ((c : Int) = 224) := by omega
  have e237 : ¬ ((c : Int) = 237) := by omega
  have e240 : ¬ ((c : Int) = 240) := by omega
  have e244 : ¬ ((c : Int) = 244) := by omega
  have F1 : Hid (∀ wx, Calls Tryz.prog 150 #[.string s, .int .i64 ((i : Int) + 1), .int .u8 128, .int .u8 191] wx fun e w' => e = .returned (.bool (folB s (i + 1) 128 191)) ∧ w' = wx) := fun wx => follows_any s _ (i + 1) 128 191 (by omega) wx
  have FK : Hid (∀ (k : Nat) wx, Calls Tryz.prog 150 #[.string s, .int .i64 ((i : Int) + (k : Int)), .int .u8 128, .int .u8 191] wx fun e w' => e = .returned (.bool (folB s (i + k) 128 191)) ∧ w' = wx) := fun k wx => follows_any s _ (i + k) 128 191 (by omega) wx
  clear hc ha hb
  by_cases hT : folB s (i + 1) 128 191 = true
  · rw [hT] at F1
    have hA : TailB s i 3 128 191 = ((decide (3 ≤ 2) || folB s (i + 2) 128 191) && (decide (3 ≤ 3) || folB s (i + 3) 128 191)) := by unfold TailB; rw [hT]; rfl
    have HA := Hid.mk' hA
    obtain ⟨R, hR⟩ : ∃ R : Int, (if TailB s i 3 128 191 = true then (3 : Int) else 0) = R := ⟨_, rfl⟩
    rw [hR]
    have HRR := Hid.mk' hR
    clear hA hT hR
    go_enter Tryz.func136, Tryz.ntmps136
    go_wp2_with fail
    refine (F1.out _).mono ?_
    rintro e w1 ⟨rfl, hw1⟩
    subst hw1
    go_wp2
    go_loopw [9] (fun k wr => ∃ j : Nat, 2 ≤ j ∧ j ≤ 3 ∧ k = .int .i64 (j : Int) ∧ wr = w1 ∧ Hid (∀ x, 2 ≤ x → x < j → folB s (i + x) 128 191 = true)) (fun k _ => 3 - (intOf k).toNat)
    case atStart => exact ⟨2, by omega, by omega, rfl, by trivial, fun x _ _ => by omega⟩
    case round =>
      obtain ⟨j, hj1, hj2, rfl, rfl, HJ⟩ := hrel
      by_cases hjn : j < 3
      · have hjn' : (j : Int) < 3 := by omega
        have FJ := Hid.mk' (FK.out j)
        by_cases hF : folB s (i + j) 128 191 = true
        · rw [hF] at FJ
          have HF := Hid.mk' hF
          clear hF
          go_wp2_with fail
          refine (FJ.out _).mono ?_
          rintro e _ ⟨rfl, rfl⟩
          go_wp2
          go_roundw
          case rel =>
            refine ⟨j + 1, by omega, by omega, by go_num, by trivial, fun x h1 h2 => ?_⟩
            rcases Nat.lt_or_ge x j with h | h
            · exact HJ.out x h1 h
            · have : x = j := by omega
              subst this
              exact HF.out
          case measure => simp [intOf]; omega
        · have hF' : folB s (i + j) 128 191 = false := by simpa using hF
          rw [hF'] at FJ
          have E : ((decide (3 ≤ 2) || folB s (i + 2) 128 191) && (decide (3 ≤ 3) || folB s (i + 3) 128 191)) = false := by
            obtain rfl | rfl : j = 2 ∨ j = 3 := by omega
            · first | (exfalso; omega) | (rw [hF']; rfl)
            · first | (exfalso; omega) | (rw [hF']; cases folB s (i + 2) 128 191 <;> rfl)
          have HE := Hid.mk' E
          clear hF hF' E
          go_wp2_with fail
          refine (FJ.out _).mono ?_
          rintro e _ ⟨rfl, rfl⟩
          go_wp2
          go_ret
          exact ⟨ret_int (by rw [← HRR.out, HA.out, HE.out]; rfl), rfl⟩
      · have hjn' : ¬ (j : Int) < 3 := by omega
        obtain rfl : j = 3 := by omega
        have E : ((decide (3 ≤ 2) || folB s (i + 2) 128 191) && (decide (3 ≤ 3) || folB s (i + 3) 128 191)) = true := by
          rw [HJ.out 2 (by omega) (by omega)]; rfl
        have HE := Hid.mk' E
        clear E
        go_wp2
        go_ret
        exact ⟨ret_int (by rw [← HRR.out, HA.out, HE.out]; rfl), rfl⟩
  · have hF : folB s (i + 1) 128 191 = false := by simpa using hT
    rw [hF] at F1
    have E : TailB s i 3 128 191 = false := by unfold TailB; rw [hF]; rfl
    rw [E]
    clear hT hF E
    go_enter Tryz.func136, Tryz.ntmps136
    go_wp2_with fail
    refine (F1.out _).mono ?_
    rintro e _ ⟨rfl, rfl⟩
    go_wp2
    go_ret
    exact ⟨rfl, rfl⟩
set_option maxRecDepth 100000 in
set_option maxHeartbeats 1000000 in
theorem seq_f0 (s : ByteArray) (i c : Nat) (w : World) (h0 : i < s.size) (hs : s.size ≤ 140737488355328) (hc : by8 s i = c) (ha : 240 ≤ c) (hb : c ≤ 240) :
    Calls Tryz.prog 136 #[.string s, .int .i64 (i : Int)] w fun e w' => e = .returned (.int .i64 (if TailB s i 4 144 191 = true then 4 else 0)) ∧ w' = w := by
  have i0 := fun wx => index_str s i (i : Int) rfl wx h0
  rw [hc] at i0
  have hi0 : ¬ (i : Int) < 0 := by omega
  have hi1 : ¬ (s.size : Int) ≤ (i : Int) := by omega
  have q0 : ¬ ((c : Int) < 128) := by omega
  have g194 : ((194 : Int) ≤ (c : Int)) := by omega
  have l223 : ¬ ((c : Int) ≤ 223) := by omega
  have g224 : ((224 : Int) ≤ (c : Int)) := by omega
  have l239 : ¬ ((c : Int) ≤ 239) := by omega
  have g240 : ((240 : Int) ≤ (c : Int)) := by omega
  have l244 : ((c : Int) ≤ 244) := by omega
  have e224 : ¬ ((c : Int) = 224) := by omega
  have e237 : ¬ ((c : Int) = 237) := by omega
  have e240 : ((c : Int) = 240) := by omega
  have e244 : ¬ ((c : Int) = 244) := by omega
  have F1 : Hid (∀ wx, Calls Tryz.prog 150 #[.string s, .int .i64 ((i : Int) + 1), .int .u8 144, .int .u8 191] wx fun e w' => e = .returned (.bool (folB s (i + 1) 144 191)) ∧ w' = wx) := fun wx => follows_any s _ (i + 1) 144 191 (by omega) wx
  have FK : Hid (∀ (k : Nat) wx, Calls Tryz.prog 150 #[.string s, .int .i64 ((i : Int) + (k : Int)), .int .u8 128, .int .u8 191] wx fun e w' => e = .returned (.bool (folB s (i + k) 128 191)) ∧ w' = wx) := fun k wx => follows_any s _ (i + k) 128 191 (by omega) wx
  clear hc ha hb
  by_cases hT : folB s (i + 1) 144 191 = true
  · rw [hT] at F1
    have hA : TailB s i 4 144 191 = ((decide (4 ≤ 2) || folB s (i + 2) 128 191) && (decide (4 ≤ 3) || folB s (i + 3) 128 191)) := by unfold TailB; rw [hT]; rfl
    have HA := Hid.mk' hA
    obtain ⟨R, hR⟩ : ∃ R : Int, (if TailB s i 4 144 191 = true then (4 : Int) else 0) = R := ⟨_, rfl⟩
    rw [hR]
    have HRR := Hid.mk' hR
    clear hA hT hR
    go_enter Tryz.func136, Tryz.ntmps136
    go_wp2_with fail
    refine (F1.out _).mono ?_
    rintro e w1 ⟨rfl, hw1⟩
    subst hw1
    go_wp2
    go_loopw [9] (fun k wr => ∃ j : Nat, 2 ≤ j ∧ j ≤ 4 ∧ k = .int .i64 (j : Int) ∧ wr = w1 ∧ Hid (∀ x, 2 ≤ x → x < j → folB s (i + x) 128 191 = true)) (fun k _ => 4 - (intOf k).toNat)
    case atStart => exact ⟨2, by omega, by omega, rfl, by trivial, fun x _ _ => by omega⟩
    case round =>
      obtain ⟨j, hj1, hj2, rfl, rfl, HJ⟩ := hrel
      by_cases hjn : j < 4
      · have hjn' : (j : Int) < 4 := by omega
        have FJ := Hid.mk' (FK.out j)
        by_cases hF : folB s (i + j) 128 191 = true
        · rw [hF] at FJ
          have HF := Hid.mk' hF
          clear hF
          go_wp2_with fail
          refine (FJ.out _).mono ?_
          rintro e _ ⟨rfl, rfl⟩
          go_wp2
          go_roundw
          case rel =>
            refine ⟨j + 1, by omega, by omega, by go_num, by trivial, fun x h1 h2 => ?_⟩
            rcases Nat.lt_or_ge x j with h | h
            · exact HJ.out x h1 h
            · have : x = j := by omega
              subst this
              exact HF.out
          case measure => simp [intOf]; omega
        · have hF' : folB s (i + j) 128 191 = false := by simpa using hF
          rw [hF'] at FJ
          have E : ((decide (4 ≤ 2) || folB s (i + 2) 128 191) && (decide (4 ≤ 3) || folB s (i + 3) 128 191)) = false := by
            obtain rfl | rfl : j = 2 ∨ j = 3 := by omega
            · first | (exfalso; omega) | (rw [hF']; rfl)
            · first | (exfalso; omega) | (rw [hF']; cases folB s (i + 2) 128 191 <;> rfl)
          have HE := Hid.mk' E
          clear hF hF' E
          go_wp2_with fail
          refine (FJ.out _).mono ?_
          rintro e _ ⟨rfl, rfl⟩
          go_wp2
          go_ret
          exact ⟨ret_int (by rw [← HRR.out, HA.out, HE.out]; rfl), rfl⟩
      · have hjn' : ¬ (j : Int) < 4 := by omega
        obtain rfl : j = 4 := by omega
        have E : ((decide (4 ≤ 2) || folB s (i + 2) 128 191) && (decide (4 ≤ 3) || folB s (i + 3) 128 191)) = true := by
          rw [HJ.out 2 (by omega) (by omega), HJ.out 3 (by omega) (by omega)]; rfl
        have HE := Hid.mk' E
        clear E
        go_wp2
        go_ret
        exact ⟨ret_int (by rw [← HRR.out, HA.out, HE.out]; rfl), rfl⟩
  · have hF : folB s (i + 1) 144 191 = false := by simpa using hT
    rw [hF] at F1
    have E : TailB s i 4 144 191 = false := by unfold TailB; rw [hF]; rfl
    rw [E]
    clear hT hF E
    go_enter Tryz.func136, Tryz.ntmps136
    go_wp2_with fail
    refine (F1.out _).mono ?_
    rintro e _ ⟨rfl, rfl⟩
    go_wp2
    go_ret
    exact ⟨rfl, rfl⟩
set_option maxRecDepth 100000 in
set_option maxHeartbeats 1000000 in
theorem seq_f1 (s : ByteArray) (i c : Nat) (w : World) (h0 : i < s.size) (hs : s.size ≤ 140737488355328) (hc : by8 s i = c) (ha : 241 ≤ c) (hb : c ≤ 243) :
    Calls Tryz.prog 136 #[.string s, .int .i64 (i : Int)] w fun e w' => e = .returned (.int .i64 (if TailB s i 4 128 191 = true then 4 else 0)) ∧ w' = w := by
  have i0 := fun wx => index_str s i (i : Int) rfl wx h0
  rw [hc] at i0
  have hi0 : ¬ (i : Int) < 0 := by omega
  have hi1 : ¬ (s.size : Int) ≤ (i : Int) := by omega
  have q0 : ¬ ((c : Int) < 128) := by omega
  have g194 : ((194 : Int) ≤ (c : Int)) := by omega
  have l223 : ¬ ((c : Int) ≤ 223) := by omega
  have g224 : ((224 : Int) ≤ (c : Int)) := by omega
  have l239 : ¬ ((c : Int) ≤ 239) := by omega
  have g240 : ((240 : Int) ≤ (c : Int)) := by omega
  have l244 : ((c : Int) ≤ 244) := by omega
  have e224 : ¬ ((c : Int) = 224) := by omega
  have e237 : ¬ ((c : Int) = 237) := by omega
  have e240 : ¬ ((c : Int) = 240) := by omega
  have e244 : ¬ ((c : Int) = 244) := by omega
  have F1 : Hid (∀ wx, Calls Tryz.prog 150 #[.string s, .int .i64 ((i : Int) + 1), .int .u8 128, .int .u8 191] wx fun e w' => e = .returned (.bool (folB s (i + 1) 128 191)) ∧ w' = wx) := fun wx => follows_any s _ (i + 1) 128 191 (by omega) wx
  have FK : Hid (∀ (k : Nat) wx, Calls Tryz.prog 150 #[.string s, .int .i64 ((i : Int) + (k : Int)), .int .u8 128, .int .u8 191] wx fun e w' => e = .returned (.bool (folB s (i + k) 128 191)) ∧ w' = wx) := fun k wx => follows_any s _ (i + k) 128 191 (by omega) wx
  clear hc ha hb
  by_cases hT : folB s (i + 1) 128 191 = true
  · rw [hT] at F1
    have hA : TailB s i 4 128 191 = ((decide (4 ≤ 2) || folB s (i + 2) 128 191) && (decide (4 ≤ 3) || folB s (i + 3) 128 191)) := by unfold TailB; rw [hT]; rfl
    have HA := Hid.mk' hA
    obtain ⟨R, hR⟩ : ∃ R : Int, (if TailB s i 4 128 191 = true then (4 : Int) else 0) = R := ⟨_, rfl⟩
    rw [hR]
    have HRR := Hid.mk' hR
    clear hA hT hR
    go_enter Tryz.func136, Tryz.ntmps136
    go_wp2_with fail
    refine (F1.out _).mono ?_
    rintro e w1 ⟨rfl, hw1⟩
    subst hw1
    go_wp2
    go_loopw [9] (fun k wr => ∃ j : Nat, 2 ≤ j ∧ j ≤ 4 ∧ k = .int .i64 (j : Int) ∧ wr = w1 ∧ Hid (∀ x, 2 ≤ x → x < j → folB s (i + x) 128 191 = true)) (fun k _ => 4 - (intOf k).toNat)
    case atStart => exact ⟨2, by omega, by omega, rfl, by trivial, fun x _ _ => by omega⟩
    case round =>
      obtain ⟨j, hj1, hj2, rfl, rfl, HJ⟩ := hrel
      by_cases hjn : j < 4
      · have hjn' : (j : Int) < 4 := by omega
        have FJ := Hid.mk' (FK.out j)
        by_cases hF : folB s (i + j) 128 191 = true
        · rw [hF] at FJ
          have HF := Hid.mk' hF
          clear hF
          go_wp2_with fail
          refine (FJ.out _).mono ?_
          rintro e _ ⟨rfl, rfl⟩
          go_wp2
          go_roundw
          case rel =>
            refine ⟨j + 1, by omega, by omega, by go_num, by trivial, fun x h1 h2 => ?_⟩
            rcases Nat.lt_or_ge x j with h | h
            · exact HJ.out x h1 h
            · have : x = j := by omega
              subst this
              exact HF.out
          case measure => simp [intOf]; omega
        · have hF' : folB s (i + j) 128 191 = false := by simpa using hF
          rw [hF'] at FJ
          have E : ((decide (4 ≤ 2) || folB s (i + 2) 128 191) && (decide (4 ≤ 3) || folB s (i + 3) 128 191)) = false := by
            obtain rfl | rfl : j = 2 ∨ j = 3 := by omega
            · first | (exfalso; omega) | (rw [hF']; rfl)
            · first | (exfalso; omega) | (rw [hF']; cases folB s (i + 2) 128 191 <;> rfl)
          have HE := Hid.mk' E
          clear hF hF' E
          go_wp2_with fail
          refine (FJ.out _).mono ?_
          rintro e _ ⟨rfl, rfl⟩
          go_wp2
          go_ret
          exact ⟨ret_int (by rw [← HRR.out, HA.out, HE.out]; rfl), rfl⟩
      · have hjn' : ¬ (j : Int) < 4 := by omega
        obtain rfl : j = 4 := by omega
        have E : ((decide (4 ≤ 2) || folB s (i + 2) 128 191) && (decide (4 ≤ 3) || folB s (i + 3) 128 191)) = true := by
          rw [HJ.out 2 (by omega) (by omega), HJ.out 3 (by omega) (by omega)]; rfl
        have HE := Hid.mk' E
        clear E
        go_wp2
        go_ret
        exact ⟨ret_int (by rw [← HRR.out, HA.out, HE.out]; rfl), rfl⟩
  · have hF : folB s (i + 1) 128 191 = false := by simpa using hT
    rw [hF] at F1
    have E : TailB s i 4 128 191 = false := by unfold TailB; rw [hF]; rfl
    rw [E]
    clear hT hF E
    go_enter Tryz.func136, Tryz.ntmps136
    go_wp2_with fail
    refine (F1.out _).mono ?_
    rintro e _ ⟨rfl, rfl⟩
    go_wp2
    go_ret
    exact ⟨rfl, rfl⟩
set_option maxRecDepth 100000 in
set_option maxHeartbeats 1000000 in
theorem seq_f4 (s : ByteArray) (i c : Nat) (w : World) (h0 : i < s.size) (hs : s.size ≤ 140737488355328) (hc : by8 s i = c) (ha : 244 ≤ c) (hb : c ≤ 244) :
    Calls Tryz.prog 136 #[.string s, .int .i64 (i : Int)] w fun e w' => e = .returned (.int .i64 (if TailB s i 4 128 143 = true then 4 else 0)) ∧ w' = w := by
  have i0 := fun wx => index_str s i (i : Int) rfl wx h0
  rw [hc] at i0
  have hi0 : ¬ (i : Int) < 0 := by omega
  have hi1 : ¬ (s.size : Int) ≤ (i : Int) := by omega
  have q0 : ¬ ((c : Int) < 128) := by omega
  have g194 : ((194 : Int) ≤ (c : Int)) := by omega
  have l223 : ¬ ((c : Int) ≤ 223) := by omega
  have g224 : ((224 : Int) ≤ (c : Int)) := by omega
  have l239 : ¬ ((c : Int) ≤ 239) := by omega
  have g240 : ((240 : Int) ≤ (c : Int)) := by omega
  have l244 : ((c : Int) ≤ 244) := by omega
  have e224 : ¬ ((c : Int) = 224) := by omega
  have e237 : ¬ ((c : Int) = 237) := by omega
  have e240 : ¬ ((c : Int) = 240) := by omega
  have e244 : ((c : Int) = 244) := by omega
  have F1 : Hid (∀ wx, Calls Tryz.prog 150 #[.string s, .int .i64 ((i : Int) + 1), .int .u8 128, .int .u8 143] wx fun e w' => e = .returned (.bool (folB s (i + 1) 128 143)) ∧ w' = wx) := fun wx => follows_any s _ (i + 1) 128 143 (by omega) wx
  have FK : Hid (∀ (k : Nat) wx, Calls Tryz.prog 150 #[.string s, .int .i64 ((i : Int) + (k : Int)), .int .u8 128, .int .u8 191] wx fun e w' => e = .returned (.bool (folB s (i + k) 128 191)) ∧ w' = wx) := fun k wx => follows_any s _ (i + k) 128 191 (by omega) wx
  clear hc ha hb
  by_cases hT : folB s (i + 1) 128 143 = true
  · rw [hT] at F1
    have hA : TailB s i 4 128 143 = ((decide (4 ≤ 2) || folB s (i + 2) 128 191) && (decide (4 ≤ 3) || folB s (i + 3) 128 191)) := by unfold TailB; rw [hT]; rfl
    have HA := Hid.mk' hA
    obtain ⟨R, hR⟩ : ∃ R : Int, (if TailB s i 4 128 143 = true then (4 : Int) else 0) = R := ⟨_, rfl⟩
    rw [hR]
    have HRR := Hid.mk' hR
    clear hA hT hR
    go_enter Tryz.func136, Tryz.ntmps136
    go_wp2_with fail
    refine (F1.out _).mono ?_
    rintro e w1 ⟨rfl, hw1⟩
    subst hw1
    go_wp2
    go_loopw [9] (fun k wr => ∃ j : Nat, 2 ≤ j ∧ j ≤ 4 ∧ k = .int .i64 (j : Int) ∧ wr = w1 ∧ Hid (∀ x, 2 ≤ x → x < j → folB s (i + x) 128 191 = true)) (fun k _ => 4 - (intOf k).toNat)
    case atStart => exact ⟨2, by omega, by omega, rfl, by trivial, fun x _ _ => by omega⟩
    case round =>
      obtain ⟨j, hj1, hj2, rfl, rfl, HJ⟩ := hrel
      by_cases hjn : j < 4
      · have hjn' : (j : Int) < 4 := by omega
        have FJ := Hid.mk' (FK.out j)
        by_cases hF : folB s (i + j) 128 191 = true
        · rw [hF] at FJ
          have HF := Hid.mk' hF
          clear hF
          go_wp2_with fail
          refine (FJ.out _).mono ?_
          rintro e _ ⟨rfl, rfl⟩
          go_wp2
          go_roundw
          case rel =>
            refine ⟨j + 1, by omega, by omega, by go_num, by trivial, fun x h1 h2 => ?_⟩
            rcases Nat.lt_or_ge x j with h | h
            · exact HJ.out x h1 h
            · have : x = j := by omega
              subst this
              exact HF.out
          case measure => simp [intOf]; omega
        · have hF' : folB s (i + j) 128 191 = false := by simpa using hF
          rw [hF'] at FJ
          have E : ((decide (4 ≤ 2) || folB s (i + 2) 128 191) && (decide (4 ≤ 3) || folB s (i + 3) 128 191)) = false := by
            obtain rfl | rfl : j = 2 ∨ j = 3 := by omega
            · first | (exfalso; omega) | (rw [hF']; rfl)
            · first | (exfalso; omega) | (rw [hF']; cases folB s (i + 2) 128 191 <;> rfl)
          have HE := Hid.mk' E
          clear hF hF' E
          go_wp2_with fail
          refine (FJ.out _).mono ?_
          rintro e _ ⟨rfl, rfl⟩
          go_wp2
          go_ret
          exact ⟨ret_int (by rw [← HRR.out, HA.out, HE.out]; rfl), rfl⟩
      · have hjn' : ¬ (j : Int) < 4 := by omega
        obtain rfl : j = 4 := by omega
        have E : ((decide (4 ≤ 2) || folB s (i + 2) 128 191) && (decide (4 ≤ 3) || folB s (i + 3) 128 191)) = true := by
          rw [HJ.out 2 (by omega) (by omega), HJ.out 3 (by omega) (by omega)]; rfl
        have HE := Hid.mk' E
        clear E
        go_wp2
        go_ret
        exact ⟨ret_int (by rw [← HRR.out, HA.out, HE.out]; rfl), rfl⟩
  · have hF : folB s (i + 1) 128 143 = false := by simpa using hT
    rw [hF] at F1
    have E : TailB s i 4 128 143 = false := by unfold TailB; rw [hF]; rfl
    rw [E]
    clear hT hF E
    go_enter Tryz.func136, Tryz.ntmps136
    go_wp2_with fail
    refine (F1.out _).mono ?_
    rintro e _ ⟨rfl, rfl⟩
    go_wp2
    go_ret
    exact ⟨rfl, rfl⟩
set_option maxRecDepth 100000 in
set_option maxHeartbeats 1000000 in
theorem seq_hi (s : ByteArray) (i c : Nat) (w : World) (h0 : i < s.size) (hs : s.size ≤ 140737488355328) (hc : by8 s i = c) (ha : 245 ≤ c) (hb : c ≤ 255) :
    Calls Tryz.prog 136 #[.string s, .int .i64 (i : Int)] w fun e w' => e = .returned (.int .i64 0) ∧ w' = w := by
  have i0 := fun wx => index_str s i (i : Int) rfl wx h0
  rw [hc] at i0
  have hi0 : ¬ (i : Int) < 0 := by omega
  have hi1 : ¬ (s.size : Int) ≤ (i : Int) := by omega
  have q0 : ¬ ((c : Int) < 128) := by omega
  have g194 : ((194 : Int) ≤ (c : Int)) := by omega
  have l223 : ¬ ((c : Int) ≤ 223) := by omega
  have g224 : ((224 : Int) ≤ (c : Int)) := by omega
  have l239 : ¬ ((c : Int) ≤ 239) := by omega
  have g240 : ((240 : Int) ≤ (c : Int)) := by omega
  have l244 : ¬ ((c : Int) ≤ 244) := by omega
  have e224 : ¬ ((c : Int) = 224) := by omega
  have e237 : ¬ ((c : Int) = 237) := by omega
  have e240 : ¬ ((c : Int) = 240) := by omega
  have e244 : ¬ ((c : Int) = 244) := by omega
  clear hc ha hb h0
  go_enter Tryz.func136, Tryz.ntmps136
  go_wp2
  go_ret
  exact ⟨rfl, rfl⟩
end Go.Proofs.YtdnocpngdepbgaaGreatDoor.K
