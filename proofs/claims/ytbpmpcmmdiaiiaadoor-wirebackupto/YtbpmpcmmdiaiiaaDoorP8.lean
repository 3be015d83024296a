import Derived.Test.YtbpmpcmmdiaiiaaDoorP7
import Derived.Lib.TrimUEq
import Derived.Lib.DecodeNEq
import Derived.Lib.ValidLaws
import Derived.Shelf.Spec.DecodeRune
namespace Go.Proofs.YtbpmpcmmdiaiiaaDoor.K
open Go.RowKit
set_option linter.unusedVariables false
set_option linter.unusedSimpArgs false

set_option maxRecDepth 100000 in
set_option maxHeartbeats 1000000 in
theorem seq_lo (s : ByteArray) (i c : Nat) (w : World) (h0 : i < s.size) (hs : s.size ≤ 140737488355328) (hc : by8 s i = c) (ha : 128 ≤ c) (hb : c ≤ 193) :
    Calls Tryd.prog 72 #[.string s, .int .i64 (i : Int)] w fun e w' => e = .returned (.int .i64 0) ∧ w' = w := by
  have i0 := fun wx => index_str s i (i : Int) rfl wx h0
  rw [hc] at i0
  have hi0 : ¬ (i : Int) < 0 := by omega
  have hi1 : ¬ (s.size : Int) ≤ (i : Int) := by omega
  have q0 : ¬ ((c : Int) < 128) := by omega
  have g194 : ¬ ((194 : Int) ≤ (c : Int)) := by omega
  have l223 : ((c : Int) ≤ 223) := by omega
  have g224 : ¬ ((224 : Int) ≤ (c : Int)) := by omega
  have l239 : ((c : Int) ≤ 239) := by omega
  have g240 : ¬ ((240 : Int) ≤ (c : Int)) := by omega
  have l244 : ((c : Int) ≤ 244) := by omega
  have e224 : ¬ ((c : Int) = 224) := by omega
  have e237 : ¬ ((c : Int) = 237) := by omega
  have e240 : ¬ ((c : Int) = 240) := by omega
  have e244 : ¬ ((c : Int) = 244) := by omega
  clear hc ha hb h0
  go_enter Tryd.func72, Tryd.ntmps72
  go_wp2
  go_ret
  exact ⟨rfl, rfl⟩
set_option maxRecDepth 100000 in
set_option maxHeartbeats 1000000 in
theorem seq_two (s : ByteArray) (i c : Nat) (w : World) (h0 : i < s.size) (hs : s.size ≤ 140737488355328) (hc : by8 s i = c) (ha : 194 ≤ c) (hb : c ≤ 223) :
    Calls Tryd.prog 72 #[.string s, .int .i64 (i : Int)] w fun e w' => e = .returned (.int .i64 (if TailB s i 2 128 191 = true then 2 else 0)) ∧ w' = w := by
  have i0 := fun wx => index_str s i (i : Int) rfl wx h0
  rw [hc] at i0
  have hi0 : ¬ (i : Int) < 0 := by omega
  have hi1 : ¬ (s.size : Int) ≤ (i : Int) := by omega
  have q0 : ¬ ((c : Int) < 128) := by omega
  have g194 : ((194 : Int) ≤ (c : Int)) := by omega
  have l223 : ((c : Int) ≤ 223) := by omega
  have g224 : ¬ ((224 : Int) ≤ (c : Int)) := by omega
  have l239 : ((c : Int) ≤ 239) := by omega
  have g240 : ¬ ((240 : Int) ≤ (c : Int)) := by omega
  have l244 : ((c : Int) ≤ 244) := by omega
  have e224 : ¬ ((c : Int) = 224) := by omega
  have e237 : ¬ ((c : Int) = 237) := by omega
  have e240 : ¬ ((c : Int) = 240) := by omega
  have e244 : ¬ ((c : Int) = 244) := by omega
  have F1 : Hid (∀ wx, Calls Tryd.prog 81 #[.string s, .int .i64 ((i : Int) + 1), .int .u8 128, .int .u8 191] wx fun e w' => e = .returned (.bool (folB s (i + 1) 128 191)) ∧ w' = wx) := fun wx => follows_any s _ (i + 1) 128 191 (by omega) wx
  have FK : Hid (∀ (k : Nat) wx, Calls Tryd.prog 81 #[.string s, .int .i64 ((i : Int) + (k : Int)), .int .u8 128, .int .u8 191] wx fun e w' => e = .returned (.bool (folB s (i + k) 128 191)) ∧ w' = wx) := fun k wx => follows_any s _ (i + k) 128 191 (by omega) wx
  clear hc ha hb
  by_cases hT : folB s (i + 1) 128 191 = true
  · rw [hT] at F1
    have hA : TailB s i 2 128 191 = ((decide (2 ≤ 2) || folB s (i + 2) 128 191) && (decide (2 ≤ 3) || folB s (i + 3) 128 191)) := by unfold TailB; rw [hT]; rfl
    have HA := Hid.mk' hA
    obtain ⟨R, hR⟩ : ∃ R : Int, (if TailB s i 2 128 191 = true then (2 : Int) else 0) = R := ⟨_, rfl⟩
    rw [hR]
    have HRR := Hid.mk' hR
    clear hA hT hR
    go_enter Tryd.func72, Tryd.ntmps72
    go_wp2_with fail
    refine (F1.out _).mono ?_
    rintro e w1 ⟨rfl, hw1⟩
    subst hw1
    go_wp2
    go_loopw [9] (fun k wr => ∃ j : Nat, 2 ≤ j ∧ j ≤ 2 ∧ k = .int .i64 (j : Int) ∧ wr = w1 ∧ Hid (∀ x, 2 ≤ x → x < j → folB s (i + x) 128 191 = true)) (fun k _ => 2 - (intOf k).toNat)
    case atStart => exact ⟨2, by omega, by omega, rfl, by trivial, fun x _ _ => by omega⟩
    case round =>
      obtain ⟨j, hj1, hj2, rfl, rfl, HJ⟩ := hrel
      by_cases hjn : j < 2
      · have hjn' : (j : Int) < 2 := by omega
        have FJ := Hid.mk' (FK.out j)
        by_cases hF : folB s (i + j) 128 191 = true
        · rw [hF] at FJ
          have HF := Hid.mk' hF
          clear hF
          go_wp2_with fail
          refine (FJ.out _).mono ?_
          rintro e _ ⟨rfl, rfl⟩
          go_wp2
          go_roundw
          case rel =>
            refine ⟨j + 1, by omega, by omega, by go_num, by trivial, fun x h1 h2 => ?_⟩
            rcases Nat.lt_or_ge x j with h | h
            · exact HJ.out x h1 h
            · have : x = j := by omega
              subst this
              exact HF.out
          case measure => simp [intOf]; omega
        · have hF' : folB s (i + j) 128 191 = false := by simpa using hF
          rw [hF'] at FJ
          have E : ((decide (2 ≤ 2) || folB s (i + 2) 128 191) && (decide (2 ≤ 3) || folB s (i + 3) 128 191)) = false := by
            obtain rfl | rfl : j = 2 ∨ j = 3 := by omega
            · first | (exfalso; omega) | (rw [hF']; rfl)
            · first | (exfalso; omega) | (rw [hF']; cases folB s (i + 2) 128 191 <;> rfl)
          have HE := Hid.mk' E
          clear hF hF' E
          go_wp2_with fail
          refine (FJ.out _).mono ?_
          rintro e _ ⟨rfl, rfl⟩
          go_wp2
          go_ret
          exact ⟨ret_int (by rw [← HRR.out, HA.out, HE.out]; rfl), rfl⟩
      · have hjn' : ¬ (j : Int) < 2 := by omega
        obtain rfl : j = 2 := by omega
        have E : ((decide (2 ≤ 2) || folB s (i + 2) 128 191) && (decide (2 ≤ 3) || folB s (i + 3) 128 191)) = true := by
          rfl
        have HE := Hid.mk' E
        clear E
        go_wp2
        go_ret
        exact ⟨ret_int (by rw [← HRR.out, HA.out, HE.out]; rfl), rfl⟩
  · have hF : folB s (i + 1) 128 191 = false := by simpa using hT
    rw [hF] at F1
    have E : TailB s i 2 128 191 = false := by unfold TailB; rw [hF]; rfl
    rw [E]
    clear hT hF E
    go_enter Tryd.func72, Tryd.ntmps72
    go_wp2_with fail
    refine (F1.out _).mono ?_
    rintro e _ ⟨rfl, rfl⟩
    go_wp2
    go_ret
    exact ⟨rfl, rfl⟩
set_option maxRecDepth 100000 in
set_option maxHeartbeats 1000000 in
theorem seq_e0 (s : ByteArray) (i c : Nat) (w : World) (h0 : i < s.size) (hs : s.size ≤ 140737488355328) (hc : by8 s i = c) (ha : 224 ≤ c) (hb : c ≤ 224) :
    Calls Tryd.prog 72 #[.string s, .int .i64 (i : Int)] w fun e w' => e = .returned (.int .i64 (if TailB s i 3 160 191 = true then 3 else 0)) ∧ w' = w := by
  have i0 := fun wx => index_str s i (i : Int) rfl wx h0
  rw [hc] at i0
  have hi0 : ¬ (i : Int) < 0 := by omega
  have hi1 : ¬ (s.size : Int) ≤ (i : Int) := by omega
  have q0 : ¬ ((c : Int) < 128) := by omega
  have g194 : ((194 : Int) ≤ (c : Int)) := by omega
  have l223 : ¬ ((c : Int) ≤ 223) := by omega
  have g224 : ((224 : Int) ≤ (c : Int)) := by omega
  have l239 : ((c : Int) ≤ 239) := by omega
  have g240 : ¬ ((240 : Int) ≤ (c : Int)) := by omega
  have l244 : ((c : Int) ≤ 244) := by omega
  have e224 : ((c : Int) = 224) := by omega
  have e237 : ¬ ((c : Int) = 237) := by omega
  have e240 : ¬ ((c : Int) = 240) := by omega
  have e244 : ¬ ((c : Int) = 244) := by omega
  have F1 : Hid (∀ wx, Calls Tryd.prog 81 #[.string s, .int .i64 ((i : Int) + 1), .int .u8 160, .int .u8 191] wx fun e w' => e = .returned (.bool (folB s (i + 1) 160 191)) ∧ w' = wx) := fun wx => follows_any s _ (i + 1) 160 191 (by omega) wx
  have FK : Hid (∀ (k : Nat) wx, Calls Tryd.prog 81 #[.string s, .int .i64 ((i : Int) + (k : Int)), .int .u8 128, .int .u8 191] wx fun e w' => e = .returned (.bool (folB s (i + k) 128 191)) ∧ w' = wx) := fun k wx => follows_any s _ (i + k) 128 191 (by omega) wx
  clear hc ha hb
  by_cases hT : folB s (i + 1) 160 191 = true
  · rw [hT] at F1
    have hA : TailB s i 3 160 191 = ((decide (3 ≤ 2) || folB s (i + 2) 128 191) && (decide (3 ≤ 3) || folB s (i + 3) 128 191)) := by unfold TailB; rw [hT]; rfl
    have HA := Hid.mk' hA
    obtain ⟨R, hR⟩ : ∃ R : Int, (if TailB s i 3 160 191 = true then (3 : Int) else 0) = R := ⟨_, rfl⟩
    rw [hR]
    have HRR := Hid.mk' hR
    clear hA hT hR
    go_enter Tryd.func72, Tryd.ntmps72
    go_wp2_with fail
    refine (F1.out _).mono ?_
    rintro e w1 ⟨rfl, hw1⟩
    subst hw1
    go_wp2
    go_loopw [9] (fun k wr => ∃ j : Nat, 2 ≤ j ∧ j ≤ 3 ∧ k = .int .i64 (j : Int) ∧ wr = w1 ∧ Hid (∀ x, 2 ≤ x → x < j → folB s (i + x) 128 191 = true)) (fun k _ => 3 - (intOf k).toNat)
    case atStart => exact ⟨2, by omega, by omega, rfl, by trivial, fun x _ _ => by omega⟩
    case round =>
      obtain ⟨j, hj1, hj2, rfl, rfl, HJ⟩ := hrel
      by_cases hjn : j < 3
      · have hjn' : (j : Int) < 3 := by omega
        have FJ := Hid.mk' (FK.out j)
        by_cases hF : folB s (i + j) 128 191 = true
        · rw [hF] at FJ
          have HF := Hid.mk' hF
          clear hF
          go_wp2_with fail
          refine (FJ.out _).mono ?_
          rintro e _ ⟨rfl, rfl⟩
          go_wp2
          go_roundw
          case rel =>
            refine ⟨j + 1, by omega, by omega, by go_num, by trivial, fun x h1 h2 => ?_⟩
            rcases Nat.lt_or_ge x j with h | h
            · exact HJ.out x h1 h
            · have : x = j := by omega
              subst this
              exact HF.out
          case measure => simp [intOf]; omega
        · have hF' : folB s (i + j) 128 191 = false := by simpa using hF
          rw [hF'] at FJ
          have E : ((decide (3 ≤ 2) || folB s (i + 2) 128 191) && (decide (3 ≤ 3) || folB s (i + 3) 128 191)) = false := by
            obtain rfl | rfl : j = 2 ∨ j = 3 := by omega
            · first | (exfalso; omega) | (rw [hF']; rfl)
            · first | (exfalso; omega) | (rw [hF']; cases folB s (i + 2) 128 191 <;> rfl)
          have HE := Hid.mk' E
          clear hF hF' E
          go_wp2_with fail
          refine (FJ.out _).mono ?_
          rintro e _ ⟨rfl, rfl⟩
          go_wp2
          go_ret
          exact ⟨ret_int (by rw [← HRR.out, HA.out, HE.out]; rfl), rfl⟩
      · have hjn' : ¬ (j : Int) < 3 := by omega
        obtain rfl : j = 3 := by omega
        have E : ((decide (3 ≤ 2) || folB s (i + 2) 128 191) && (decide (3 ≤ 3) || folB s (i + 3) 128 191)) = true := by
          rw [HJ.out 2 (by omega) (by omega)]; rfl
        have HE := Hid.mk' E
        clear E
        go_wp2
        go_ret
        exact ⟨ret_int (by rw [← HRR.out, HA.out, HE.out]; rfl), rfl⟩
  · have hF : folB s (i + 1) 160 191 = false := by simpa using hT
    rw [hF] at F1
    have E : TailB s i 3 160 191 = false := by unfold TailB; rw [hF]; rfl
    rw [E]
    clear hT hF E
    go_enter Tryd.func72, Tryd.ntmps72
    go_wp2_with fail
    refine (F1.out _).mono ?_
    rintro e _ ⟨rfl, rfl⟩
    go_wp2
    go_ret
    exact ⟨rfl, rfl⟩
set_option maxRecDepth 100000 in
set_option maxHeartbeats 1000000 in
theorem seq_e1 (s : ByteArray) (i c : Nat) (w : World) (h0 : i < s.size) (hs : s.size ≤ 140737488355328) (hc : by8 s i = c) (ha : 225 ≤ c) (hb : c ≤ 236) :
    Calls Tryd.prog 72 #[.string s, .int .i64 (i : Int)] w fun e w' => e = .returned (.int .i64 (if TailB s i 3 128 191 = true then 3 else 0)) ∧ w' = w := by
  have i0 := fun wx => index_str s i (i : Int) rfl wx h0
  rw [hc] at i0
  have hi0 : ¬ (i : Int) < 0 := by omega
  have hi1 : ¬ (s.size : Int) ≤ (i : Int) := by omega
  have q0 : ¬ ((c : Int) < 128) := by omega
  have g194 : ((194 : Int) ≤ (c : Int)) := by omega
  have l223 : ¬ ((c : Int) ≤ 223) := by omega
  have g224 : ((224 : Int) ≤ (c : Int)) := by omega
  have l239 : ((c : Int) ≤ 239) := by omega
  have g240 : ¬ ((240 : Int) ≤ (c : Int)) := by omega
  have l244 : ((c : Int) ≤ 244) := by omega
  have e224 : ¬ ((c : Int) = 224) := by omega
  have e237 : ¬ ((c : Int) = 237) := by omega
  have e240 : ¬ ((c : Int) = 240) := by omega
  have e244 : ¬ ((c : Int) = 244) := by omega
  have F1 : Hid (∀ wx, Calls Tryd.prog 81 #[.string s, .int .i64 ((i : Int) + 1), .int .u8 128, .int .u8 191] wx fun e w' => e = .returned (.bool (folB s (i + 1) 128 191)) ∧ w' = wx) := fun wx => follows_any s _ (i + 1) 128 191 (by omega) wx
  have FK : Hid (∀ (k : Nat) wx, Calls Tryd.prog 81 #[.string s, .int .i64 ((i : Int) + (k : Int)), .int .u8 128, .int .u8 191] wx fun e w' => e = .returned (.bool (folB s (i + k) 128 191)) ∧ w' = wx) := fun k wx => follows_any s _ (i + k) 128 191 (by omega) wx
  clear hc ha hb
  by_cases hT : folB s (i + 1) 128 191 = true
  · rw [hT] at F1
    have hA : TailB s i 3 128 191 = ((decide (3 ≤ 2) || folB s (i + 2) 128 191) && (decide (3 ≤ 3) || folB s (i + 3) 128 191)) := by unfold TailB; rw [hT]; rfl
    have HA := Hid.mk' hA
    obtain ⟨R, hR⟩ : ∃ R : Int, (if TailB s i 3 128 191 = true then (3 : Int) else 0) = R := ⟨_, rfl⟩
    rw [hR]
    have HRR := Hid.mk' hR
    clear hA hT hR
    go_enter Tryd.func72, Tryd.ntmps72
    go_wp2_with fail
    refine (F1.out _).mono ?_
    rintro e w1 ⟨rfl, hw1⟩
    subst hw1
    go_wp2
    go_loopw [9] (fun k wr => ∃ j : Nat, 2 ≤ j ∧ j ≤ 3 ∧ k = .int .i64 (j : Int) ∧ wr = w1 ∧ Hid (∀ x, 2 ≤ x → x < j → folB s (i + x) 128 191 = true)) (fun k _ => 3 - (intOf k).toNat)
    case atStart => exact ⟨2, by omega, by omega, rfl, by trivial, fun x _ _ => by omega⟩
    case round =>
      obtain ⟨j, hj1, hj2, rfl, rfl, HJ⟩ := hrel
      by_cases hjn : j < 3
      · have hjn' : (j : Int) < 3 := by omega
        have FJ := Hid.mk' (FK.out j)
        by_cases hF : folB s (i + j) 128 191 = true
        · rw [hF] at FJ
          have HF := Hid.mk' hF
          clear hF
          go_wp2_with fail
          refine (FJ.out _).mono ?_
          rintro e _ ⟨rfl, rfl⟩
          go_wp2
          go_roundw
          case rel =>
            refine ⟨j + 1, by omega, by omega, by go_num, by trivial, fun x h1 h2 => ?_⟩
            rcases Nat.lt_or_ge x j with h | h
            · exact HJ.out x h1 h
            · have : x = j := by omega
              subst this
              exact HF.out
          case measure => simp [intOf]; omega
        · have hF' : folB s (i + j) 128 191 = false := by simpa using hF
          rw [hF'] at FJ
          have E : ((decide (3 ≤ 2) || folB s (i + 2) 128 191) && (decide (3 ≤ 3) || folB s (i + 3) 128 191)) = false := by
            obtain rfl | rfl : j = 2 ∨ j = 3 := by omega
            · first | (exfalso; omega) | (rw [hF']; rfl)
            · first | (exfalso; omega) | (rw [hF']; cases folB s (i + 2) 128 191 <;> rfl)
          have HE := Hid.mk' E
          clear hF hF' E
          go_wp2_with fail
          refine (FJ.out _).mono ?_
          rintro e _ ⟨rfl, rfl⟩
          go_wp2
          go_ret
          exact ⟨ret_int (by rw [← HRR.out, HA.out, HE.out]; rfl), rfl⟩
      · have hjn' : ¬ (j : Int) < 3 := by omega
        obtain rfl : j = 3 := by omega
        have E : ((decide (3 ≤ 2) || folB s (i + 2) 128 191) && (decide (3 ≤ 3) || folB s (i + 3) 128 191)) = true := by
          rw [HJ.out 2 (by omega) (by omega)]; rfl
        have HE := Hid.mk' E
        clear E
        go_wp2
        go_ret
        exact ⟨ret_int (by rw [← HRR.out, HA.out, HE.out]; rfl), rfl⟩
  · have hF : folB s (i + 1) 128 191 = false := by simpa using hT
    rw [hF] at F1
    have E : TailB s i 3 128 191 = false := by unfold TailB; rw [hF]; rfl
    rw [E]
    clear hT hF E
    go_enter Tryd.func72, Tryd.ntmps72
    go_wp2_with fail
    refine (F1.out _).mono ?_
    rintro e _ ⟨rfl, rfl⟩
    go_wp2
    go_ret
    exact ⟨rfl, rfl⟩
set_option maxRecDepth 100000 in
set_option maxHeartbeats 1000000 in
theorem seq_ed (s : ByteArray) (i c : Nat) (w : World) (h0 : i < s.size) (hs : s.size ≤ 140737488355328) (hc : by8 s i = c) (ha : 237 ≤ c) (hb : c ≤ 237) :
    Calls Tryd.prog 72 #[.string s, .int .i64 (i : Int)] w fun e w' => e = .returned (.int .i64 (if TailB s i 3 128 159 = true then 3 else 0)) ∧ w' = w := by
  have i0 := fun wx => index_str s i (i : Int) rfl wx h0
  rw [hc] at i0
  have hi0 : ¬ (i : Int) < 0 := by omega
  have hi1 : ¬ (s.size : Int) ≤ (i : Int) := by omega
  have q0 : ¬ ((c : Int) < 128) := by omega
  have g194 : ((194 : Int) ≤ (c : Int)) := by omega
  have l223 : ¬ ((c : Int) ≤ 223) := by omega
  have g224 : ((224 : Int) ≤ (c : Int)) := by omega
  have l239 : ((c : Int) ≤ 239) := by omega
  have g240 : ¬ ((240 : Int) ≤ (c : Int)) := by omega
  have l244 : ((c : Int) ≤ 244) := by omega
  have e224 : ¬ ((c : Int) = 224) := by omega
  have e237 : ((c : Int) = 237) := by omega
  have e240 : ¬ ((c : Int) = 240) := by omega
  have e244 : ¬ ((c : Int) = 244) := by omega
  have F1 : Hid (∀ wx, Calls Tryd.prog 81 #[.string s, .int .i64 ((i : Int) + 1), .int .u8 128, .int .u8 159] wx fun e w' => e = .returned (.bool (folB s (i + 1) 128 159)) ∧ w' = wx) := fun wx => follows_any s _ (i + 1) 128 159 (by omega) wx
  have FK : Hid (∀ (k : Nat) wx, Calls Tryd.prog 81 #[.string s, .int .i64 ((i : Int) + (k : Int)), .int .u8 128, .int .u8 191] wx fun e w' => e = .returned (.bool (folB s (i + k) 128 191)) ∧ w' = wx) := fun k wx => follows_any s _ (i + k) 128 191 (by omega) wx
  clear hc ha hb
  by_cases hT : folB s (i + 1) 128 159 = true
  · rw [hT] at F1
    have hA : TailB s i 3 128 159 = ((decide (3 ≤ 2) || folB s (i + 2) 128 191) && (decide (3 ≤ 3) || folB s (i + 3) 128 191)) := by unfold TailB; rw [hT]; rfl
    have HA := Hid.mk' hA
    obtain ⟨R, hR⟩ : ∃ R : Int, (if TailB s i 3 128 159 = true then (3 : Int) else 0) = R := ⟨_, rfl⟩
    rw [hR]
    have HRR := Hid.mk' hR
    clear hA hT hR
    go_enter Tryd.func72, Tryd.ntmps72
    go_wp2_with fail
    refine (F1.out _).mono ?_
    rintro e w1 ⟨rfl, hw1⟩
    subst hw1
    go_wp2
    go_loopw [9] (fun k wr => ∃ j : Nat, 2 ≤ j ∧ j ≤ 3 ∧ k = .int .i64 (j : Int) ∧ wr = w1 ∧ Hid (∀ x, 2 ≤ x → x < j → folB s (i + x) 128 191 = true)) (fun k _ => 3 - (intOf k).toNat)
    case atStart => exact ⟨2, by omega, by omega, rfl, by trivial, fun x _ _ => by omega⟩
    case round =>
      obtain ⟨j, hj1, hj2, rfl, rfl, HJ⟩ := hrel
      by_cases hjn : j < 3
      · have hjn' : (j : Int) < 3 := by omega
        have FJ := Hid.mk' (FK.out j)
        by_cases hF : folB s (i + j) 128 191 = true
        · rw [hF] at FJ
          have HF := Hid.mk' hF
          clear hF
          go_wp2_with fail
          refine (FJ.out _).mono ?_
          rintro e _ ⟨rfl, rfl⟩
          go_wp2
          go_roundw
          case rel =>
            refine ⟨j + 1, by omega, by omega, by go_num, by trivial, fun x h1 h2 => ?_⟩
            rcases Nat.lt_or_ge x j with h | h
            · exact HJ.out x h1 h
            · have : x = j := by omega
              subst this
              exact HF.out
          case measure => simp [intOf]; omega
        · have hF' : folB s (i + j) 128 191 = false := by simpa using hF
          rw [hF'] at FJ
          have E : ((decide (3 ≤ 2) || folB s (i + 2) 128 191) && (decide (3 ≤ 3) || folB s (i + 3) 128 191)) = false := by
            obtain rfl | rfl : j = 2 ∨ j = 3 := by omega
            · first | (exfalso; omega) | (rw [hF']; rfl)
            · first | (exfalso; omega) | (rw [hF']; cases folB s (i + 2) 128 191 <;> rfl)
          have HE := Hid.mk' E
          clear hF hF' E
          go_wp2_with fail
          refine (FJ.out _).mono ?_
          rintro e _ ⟨rfl, rfl⟩
          go_wp2
          go_ret
          exact ⟨ret_int (by rw [← HRR.out, HA.out, HE.out]; rfl), rfl⟩
      · have hjn' : ¬ (j : Int) < 3 := by omega
        obtain rfl : j = 3 := by omega
        have E : ((decide (3 ≤ 2) || folB s (i + 2) 128 191) && (decide (3 ≤ 3) || folB s (i + 3) 128 191)) = true := by
          rw [HJ.out 2 (by omega) (by omega)]; rfl
        have HE := Hid.mk' E
        clear E
        go_wp2
        go_ret
        exact ⟨ret_int (by rw [← HRR.out, HA.out, HE.out]; rfl), rfl⟩
  · have hF : folB s (i + 1) 128 159 = false := by simpa using hT
    rw [hF] at F1
    have E : TailB s i 3 128 159 = false := by unfold TailB; rw [hF]; rfl
    rw [E]
    clear hT hF E
    go_enter Tryd.func72, Tryd.ntmps72
    go_wp2_with fail
    refine (F1.out _).mono ?_
    rintro e _ ⟨rfl, rfl⟩
    go_wp2
    go_ret
    exact ⟨rfl, rfl⟩
set_option maxRecDepth 100000 in
set_option maxHeartbeats 1000000 in
theorem seq_ee (s : ByteArray) (i c : Nat) (w : World) (h0 : i < s.size) (hs : s.size ≤ 140737488355328) (hc : by8 s i = c) (ha : 238 ≤ c) (hb : c ≤ 239) :
    Calls Tryd.prog 72 #[.string s, .int .i64 (i : Int)] w fun e w' => e = .returned (.int .i64 (if TailB s i 3 128 191 = true then 3 else 0)) ∧ w' = w := by
  have i0 := fun wx => index_str s i (i : Int) rfl wx h0
  rw [hc] at i0
  have hi0 : ¬ (i : Int) < 0 := by omega
  have hi1 : ¬ (s.size : Int) ≤ (i : Int) := by omega
  have q0 : ¬ ((c : Int) < 128) := by omega
  have g194 : ((194 : Int) ≤ (c : Int)) := by omega
  have l223 : ¬ ((c : Int) ≤ 223) := by omega
  have g224 : ((224 : Int) ≤ (c : Int)) := by omega
  have l239 : ((c : Int) ≤ 239) := by omega
  have g240 : ¬ ((240 : Int) ≤ (c : Int)) := by omega
  have l244 : ((c : Int) ≤ 244) := by omega
  have e224 : ¬ ((c : Int) = 224) := by omega
  have e237 : ¬ ((c : Int) = 237) := by omega
  have e240 : ¬ ((c : Int) = 240) := by omega
  have e244 : ¬ ((c : Int) = 244) := by omega
  have F1 : Hid (∀ wx, Calls Tryd.prog 81 #[.string s, .int .i64 ((i : Int) + 1), .int .u8 128, .int .u8 191] wx fun e w' => e = .returned (.bool (folB s (i + 1) 128 191)) ∧ w' = wx) := fun wx => follows_any s _ (i + 1) 128 191 (by omega) wx
  have FK : Hid (∀ (k : Nat) wx, Calls Tryd.prog 81 #[.string s, .int .i64 ((i : Int) + (k : Int)), .int .u8 128, .int .u8 191] wx fun e w' => e = .returned (.bool (folB s (i + k) 128 191)) ∧ w' = wx) := fun k wx => follows_any s _ (i + k) 128 191 (by omega) wx
  clear hc ha hb
  by_cases hT : folB s (i + 1) 128 191 = true
  · rw [hT] at F1
    have hA : TailB s i 3 128 191 = ((decide (3 ≤ 2) || folB s (i + 2) 128 191) && (decide (3 ≤ 3) || folB s (i + 3) 128 191)) := by unfold TailB; rw [hT]; rfl
    have HA := Hid.mk' hA
    obtain ⟨R, hR⟩ : ∃ R : Int, (if TailB s i 3 128 191 = true then (3 : Int) else 0) = R := ⟨_, rfl⟩
    rw [hR]
    have HRR := Hid.mk' hR
    clear hA hT hR
    go_enter Tryd.func72, Tryd.ntmps72
    go_wp2_with fail
    refine (F1.out _).mono ?_
    rintro e w1 ⟨rfl, hw1⟩
    subst hw1
    go_wp2
    go_loopw [9] (fun k wr => ∃ j : Nat, 2 ≤ j ∧ j ≤ 3 ∧ k = .int .i64 (j : Int) ∧ wr = w1 ∧ Hid (∀ x, 2 ≤ x → x < j → folB s (i + x) 128 191 = true)) (fun k _ => 3 - (intOf k).toNat)
    case atStart => exact ⟨2, by omega, by omega, rfl, by trivial, fun x _ _ => by omega⟩
    case round =>
      obtain ⟨j, hj1, hj2, rfl, rfl, HJ⟩ := hrel
      by_cases hjn : j < 3
      · have hjn' : (j : Int) < 3 := by omega
        have FJ := Hid.mk' (FK.out j)
        by_cases hF : folB s (i + j) 128 191 = true
        · rw [hF] at FJ
          have HF := Hid.mk' hF
          clear hF
          go_wp2_with fail
          refine (FJ.out _).mono ?_
          rintro e _ ⟨rfl, rfl⟩
          go_wp2
          go_roundw
          case rel =>
            refine ⟨j + 1, by omega, by omega, by go_num, by trivial, fun x h1 h2 => ?_⟩
            rcases Nat.lt_or_ge x j with h | h
            · exact HJ.out x h1 h
            · have : x = j := by omega
              subst this
              exact HF.out
          case measure => simp [intOf]; omega
        · have hF' : folB s (i + j) 128 191 = false := by simpa using hF
          rw [hF'] at FJ
          have E : ((decide (3 ≤ 2) || folB s (i + 2) 128 191) && (decide (3 ≤ 3) || folB s (i + 3) 128 191)) = false := by
            obtain rfl | rfl : j = 2 ∨ j = 3 := by omega
            · first | (exfalso; omega) | (rw [hF']; rfl)
            · first | (exfalso; omega) | (rw [hF']; cases folB s (i + 2) 128 191 <;> rfl)
          have HE := Hid.mk' E
          clear hF hF' E
          go_wp2_with fail
          refine (FJ.out _).mono ?_
          rintro e _ ⟨rfl, rfl⟩
          go_wp2
          go_ret
          exact ⟨ret_int (by rw [← HRR.out, HA.out, HE.out]; rfl), rfl⟩
      · have hjn' : ¬ (j : Int) < 3 := by omega
        obtain rfl : j = 3 := by omega
        have E : ((decide (3 ≤ 2) || folB s (i + 2) 128 191) && (decide (3 ≤ 3) || folB s (i + 3) 128 191)) = true := by
          rw [HJ.out 2 (by omega) (by omega)]; rfl
        have HE := Hid.mk' E
        clear E
        go_wp2
        go_ret
        exact ⟨ret_int (by rw [← HRR.out, HA.out, HE.out]; rfl), rfl⟩
  · have hF : folB s (i + 1) 128 191 = false := by simpa using hT
    rw [hF] at F1
    have E : TailB s i 3 128 191 = false := by unfold TailB; rw [hF]; rfl
    rw [E]
    clear hT hF E
    go_enter Tryd.func72, Tryd.ntmps72
    go_wp2_with fail
    refine (F1.out _).mono ?_
    rintro e _ ⟨rfl, rfl⟩
    go_wp2
    go_ret
    exact ⟨rfl, rfl⟩
set_option maxRecDepth 100000 in
set_option maxHeartbeats 1000000 in
theorem seq_f0 (s : ByteArray) (i c : Nat) (w : World) (h0 : i < s.size) (hs : s.size ≤ 140737488355328) (hc : by8 s i = c) (ha : 240 ≤ c) (hb : c ≤ 240) :
    Calls Tryd.prog 72 #[.string s, .int .i64 (i : Int)] w fun e w' => e = .returned (.int .i64 (if TailB s i 4 144 191 = true then 4 else 0)) ∧ w' = w := by
  have i0 := fun wx => index_str s i (i : Int) rfl wx h0
  rw [hc] at i0
  have hi0 : ¬ (i : Int) < 0 := by omega
  have hi1 : ¬ (s.size : Int) ≤ (i : Int) := by omega
  have q0 : ¬ ((c : Int) < 128) := by omega
  have g194 : ((194 : Int) ≤ (c : Int)) := by omega
  have l223 : ¬ ((c : Int) ≤ 223) := by omega
  have g224 : ((224 : Int) ≤ (c : Int)) := by omega
  have l239 : ¬ ((c : Int) ≤ 239) := by omega
  have g240 : ((240 : Int) ≤ (c : Int)) := by omega
  have l244 : ((c : Int) ≤ 244) := by omega
  have e224 : ¬ ((c : Int) = 224) := by omega
  have e237 : ¬ ((c : Int) = 237) := by omega
  have e240 : ((c : Int) = 240) := by omega
  have e244 : ¬ ((c : Int) = 244) := by omega
  have F1 : Hid (∀ wx, Calls Tryd.prog 81 #[.string s, .int .i64 ((i : Int) + 1), .int .u8 144, .int .u8 191] wx fun e w' => e = .returned (.bool (folB s (i + 1) 144 191)) ∧ w' = wx) := fun wx => follows_any s _ (i + 1) 144 191 (by omega) wx
  have FK : Hid (∀ (k : Nat) wx, Calls Tryd.prog 81 #[.string s, .int .i64 ((i : Int) + (k : Int)), .int .u8 128, .int .u8 191] wx fun e w' => e = .returned (.bool (folB s (i + k) 128 191)) ∧ w' = wx) := fun k wx => follows_any s _ (i + k) 128 191 (by omega) wx
  clear hc ha hb
  by_cases hT : folB s (i + 1) 144 191 = true
  · rw [hT] at F1
    have hA : TailB s i 4 144 191 = ((decide (4 ≤ 2) || folB s (i + 2) 128 191) && (decide (4 ≤ 3) || folB s (i + 3) 128 191)) := by unfold TailB; rw [hT]; rfl
    have HA := Hid.mk' hA
    obtain ⟨R, hR⟩ : ∃ R : Int, (if TailB s i 4 144 191 = true then (4 : Int) else 0) = R := ⟨_, rfl⟩
    rw [hR]
    have HRR := Hid.mk' hR
    clear hA hT hR
    go_enter Tryd.func72, Tryd.ntmps72
    go_wp2_with fail
    refine (F1.out _).mono ?_
    rintro e w1 ⟨rfl, hw1⟩
    subst hw1
    go_wp2
    go_loopw [9] (fun k wr => ∃ j : Nat, 2 ≤ j ∧ j ≤ 4 ∧ k = .int .i64 (j : Int) ∧ wr = w1 ∧ Hid (∀ x, 2 ≤ x → x < j → folB s (i + x) 128 191 = true)) (fun k _ => 4 - (intOf k).toNat)
    case atStart => exact ⟨2, by omega, by omega, rfl, by trivial, fun x _ _ => by omega⟩
    case round =>
      obtain ⟨j, hj1, hj2, rfl, rfl, HJ⟩ := hrel
      by_cases hjn : j < 4
      · have hjn' : (j : Int) < 4 := by omega
        have FJ := Hid.mk' (FK.out j)
        by_cases hF : folB s (i + j) 128 191 = true
        · rw [hF] at FJ
          have HF := Hid.mk' hF
          clear hF
          go_wp2_with fail
          refine (FJ.out _).mono ?_
          rintro e _ ⟨rfl, rfl⟩
          go_wp2
          go_roundw
          case rel =>
            refine ⟨j + 1, by omega, by omega, by go_num, by trivial, fun x h1 h2 => ?_⟩
            rcases Nat.lt_or_ge x j with h | h
            · exact HJ.out x h1 h
            · have : x = j := by omega
              subst this
              exact HF.out
          case measure => simp [intOf]; omega
        · have hF' : folB s (i + j) 128 191 = false := by simpa using hF
          rw [hF'] at FJ
          have E : ((decide (4 ≤ 2) || folB s (i + 2) 128 191) && (decide (4 ≤ 3) || folB s (i + 3) 128 191)) = false := by
            obtain rfl | rfl : j = 2 ∨ j = 3 := by omega
            · first | (exfalso; omega) | (rw [hF']; rfl)
            · first | (exfalso; omega) | (rw [hF']; cases folB s (i + 2) 128 191 <;> rfl)
          have HE := Hid.mk' E
          clear hF hF' E
          go_wp2_with fail
          refine (FJ.out _).mono ?_
          rintro e _ ⟨rfl, rfl⟩
          go_wp2
          go_ret
          exact ⟨ret_int (by rw [← HRR.out, HA.out, HE.out]; rfl), rfl⟩
      · have hjn' : ¬ (j : Int) < 4 := by omega
        obtain rfl : j = 4 := by omega
        have E : ((decide (4 ≤ 2) || folB s (i + 2) 128 191) && (decide (4 ≤ 3) || folB s (i + 3) 128 191)) = true := by
          rw [HJ.out 2 (by omega) (by omega), HJ.out 3 (by omega) (by omega)]; rfl
        have HE := Hid.mk' E
        clear E
        go_wp2
        go_ret
        exact ⟨ret_int (by rw [← HRR.out, HA.out, HE.out]; rfl), rfl⟩
  · have hF : folB s (i + 1) 144 191 = false := by simpa using hT
    rw [hF] at F1
    have E : TailB s i 4 144 191 = false := by unfold TailB; rw [hF]; rfl
    rw [E]
    clear hT hF E
    go_enter Tryd.func72, Tryd.ntmps72
    go_wp2_with fail
    refine (F1.out _).mono ?_
    rintro e _ ⟨rfl, rfl⟩
    go_wp2
    go_ret
    exact ⟨rfl, rfl⟩
set_option maxRecDepth 100000 in
set_option maxHeartbeats 1000000 in
theorem seq_f1 (s : ByteArray) (i c : Nat) (w : World) (h0 : i < s.size) (hs : s.size ≤ 140737488355328) (hc : by8 s i = c) (ha : 241 ≤ c) (hb : c ≤ 243) :
    Calls Tryd.prog 72 #[.string s, .int .i64 (i : Int)] w fun e w' => e = .returned (.int .i64 (if TailB s i 4 128 191 = true then 4 else 0)) ∧ w' = w := by
  have i0 := fun wx => index_str s i (i : Int) rfl wx h0
  rw [hc] at i0
  have hi0 : ¬ (i : Int) < 0 := by omega
  have hi1 : ¬ (s.size : Int) ≤ (i : Int) := by omega
  have q0 : ¬ ((c : Int) < 128) := by omega
  have g194 : ((194 : Int) ≤ (c : Int)) := by omega
  have l223 : ¬ ((c : Int) ≤ 223) := by omega
  have g224 : ((224 : Int) ≤ (c : Int)) := by omega
  have l239 : ¬ ((c : Int) ≤ 239) := by omega
  have g240 : ((240 : Int) ≤ (c : Int)) := by omega
  have l244 : ((c : Int) ≤ 244) := by omega
  have e224 : ¬ ((c : Int) = 224) := by omega
  have e237 : ¬ ((c : Int) = 237) := by omega
  have e240 : ¬ ((c : Int) = 240) := by omega
  have e244 : ¬ ((c : Int) = 244) := by omega
  have F1 : Hid (∀ wx, Calls Tryd.prog 81 #[.string s, .int .i64 ((i : Int) + 1), .int .u8 128, .int .u8 191] wx fun e w' => e = .returned (.bool (folB s (i + 1) 128 191)) ∧ w' = wx) := fun wx => follows_any s _ (i + 1) 128 191 (by omega) wx
  have FK : Hid (∀ (k : Nat) wx, Calls Tryd.prog 81 #[.string s, .int .i64 ((i : Int) + (k : Int)), .int .u8 128, .int .u8 191] wx fun e w' => e = .returned (.bool (folB s (i + k) 128 191)) ∧ w' = wx) := fun k wx => follows_any s _ (i + k) 128 191 (by omega) wx
  clear hc ha hb
  by_cases hT : folB s (i + 1) 128 191 = true
  · rw [hT] at F1
    have hA : TailB s i 4 128 191 = ((decide (4 ≤ 2) || folB s (i + 2) 128 191) && (decide (4 ≤ 3) || folB s (i + 3) 128 191)) := by unfold TailB; rw [hT]; rfl
    have HA := Hid.mk' hA
    obtain ⟨R, hR⟩ : ∃ R : Int, (if TailB s i 4 128 191 = true then (4 : Int) else 0) = R := ⟨_, rfl⟩
    rw [hR]
    have HRR := Hid.mk' hR
    clear hA hT hR
    go_enter Tryd.func72, Tryd.ntmps72
    go_wp2_with fail
    refine (F1.out _).mono ?_
    rintro e w1 ⟨rfl, hw1⟩
    subst hw1
    go_wp2
    go_loopw [9] (fun k wr => ∃ j : Nat, 2 ≤ j ∧ j ≤ 4 ∧ k = .int .i64 (j : Int) ∧ wr = w1 ∧ Hid (∀ x, 2 ≤ x → x < j → folB s (i + x) 128 191 = true)) (fun k _ => 4 - (intOf k).toNat)
    case atStart => exact ⟨2, by omega, by omega, rfl, by trivial, fun x _ _ => by omega⟩
    case round =>
      obtain ⟨j, hj1, hj2, rfl, rfl, HJ⟩ := hrel
      by_cases hjn : j < 4
      · have hjn' : (j : Int) < 4 := by omega
        have FJ := Hid.mk' (FK.out j)
        by_cases hF : folB s (i + j) 128 191 = true
        · rw [hF] at FJ
          have HF := Hid.mk' hF
          clear hF
          go_wp2_with fail
          refine (FJ.out _).mono ?_
          rintro e _ ⟨rfl, rfl⟩
          go_wp2
          go_roundw
          case rel =>
            refine ⟨j + 1, by omega, by omega, by go_num, by trivial, fun x h1 h2 => ?_⟩
            rcases Nat.lt_or_ge x j with h | h
            · exact HJ.out x h1 h
            · have : x = j := by omega
              subst this
              exact HF.out
          case measure => simp [intOf]; omega
        · have hF' : folB s (i + j) 128 191 = false := by simpa using hF
          rw [hF'] at FJ
          have E : ((decide (4 ≤ 2) || folB s (i + 2) 128 191) && (decide (4 ≤ 3) || folB s (i + 3) 128 191)) = false := by
            obtain rfl | rfl : j = 2 ∨ j = 3 := by omega
            · first | (exfalso; omega) | (rw [hF']; rfl)
            · first | (exfalso; omega) | (rw [hF']; cases folB s (i + 2) 128 191 <;> rfl)
          have HE := Hid.mk' E
          clear hF hF' E
          go_wp2_with fail
          refine (FJ.out _).mono ?_
          rintro e _ ⟨rfl, rfl⟩
          go_wp2
          go_ret
          exact ⟨ret_int (by rw [← HRR.out, HA.out, HE.out]; rfl), rfl⟩
      · have hjn' : ¬ (j : Int) < 4 := by omega
        obtain rfl : j = 4 := by omega
        have E : ((decide (4 ≤ 2) || folB s (i + 2) 128 191) && (decide (4 ≤ 3) || folB s (i + 3) 128 191)) = true := by
          rw [HJ.out 2 (by omega) (by omega), HJ.out 3 (by omega) (by omega)]; rfl
        have HE := Hid.mk' E
        clear E
        go_wp2
        go_ret
        exact ⟨ret_int (by rw [← HRR.out, HA.out, HE.out]; rfl), rfl⟩
  · have hF : folB s (i + 1) 128 191 = false := by simpa using hT
    rw [hF] at F1
    have E : TailB s i 4 128 191 = false := by unfold TailB; rw [hF]; rfl
    rw [E]
    clear hT hF E
    go_enter Tryd.func72, Tryd.ntmps72
    go_wp2_with fail
    refine (F1.out _).mono ?_
    rintro e _ ⟨rfl, rfl⟩
    go_wp2
    go_ret
    exact ⟨rfl, rfl⟩
set_option maxRecDepth 100000 in
set_option maxHeartbeats 1000000 in
theorem seq_f4 (s : ByteArray) (i c : Nat) (w : World) (h0 : i < s.size) (hs : s.size ≤ 140737488355328) (hc : by8 s i = c) (ha : 244 ≤ c) (hb : c ≤ 244) :
    Calls Tryd.prog 72 #[.string s, .int .i64 (i : Int)] w fun e w' => e = .returned (.int .i64 (if TailB s i 4 128 143 = true then 4 else 0)) ∧ w' = w := by
  have i0 := fun wx => index_str s i (i : Int) rfl wx h0
  rw [hc] at i0
  have hi0 : ¬ (i : Int) < 0 := by omega
  have hi1 : ¬ (s.size : Int) ≤ (i : Int) := by omega
  have q0 : ¬ ((c : Int) < 128) := by omega
  have g194 : ((194 : Int) ≤ (c : Int)) := by omega
  have l223 : ¬ ((c : Int) ≤ 223) := by omega
  have g224 : ((224 : Int) ≤ (c : Int)) := by omega
  have l239 : ¬ ((c : Int) ≤ 239) := by omega
  have g240 : ((240 : Int) ≤ (c : Int)) := by omega
  have l244 : ((c : Int) ≤ 244) := by omega
  have e224 : ¬ ((c : Int) = 224) := by omega
  have e237 : ¬ ((c : Int) = 237) := by omega
  have e240 : ¬ ((c : Int) = 240) := by omega
  have e244 : ((c : Int) = 244) := by omega
  have F1 : Hid (∀ wx, Calls Tryd.prog 81 #[.string s, .int .i64 ((i : Int) + 1), .int .u8 128, .int .u8 143] wx fun e w' => e = .returned (.bool (folB s (i + 1) 128 143)) ∧ w' = wx) := fun wx => follows_any s _ (i + 1) 128 143 (by omega) wx
  have FK : Hid (∀ (k : Nat) wx, Calls Tryd.prog 81 #[.string s, .int .i64 ((i : Int) + (k : Int)), .int .u8 128, .int .u8 191] wx fun e w' => e = .returned (.bool (folB s (i + k) 128 191)) ∧ w' = wx) := fun k wx => follows_any s _ (i + k) 128 191 (by omega) wx
  clear hc ha hb
  by_cases hT : folB s (i + 1) 128 143 = true
  · rw [hT] at F1
    have hA : TailB s i 4 128 143 = ((decide (4 ≤ 2) || folB s (i + 2) 128 191) && (decide (4 ≤ 3) || folB s (i + 3) 128 191)) := by unfold TailB; rw [hT]; rfl
    have HA := Hid.mk' hA
    obtain ⟨R, hR⟩ : ∃ R : Int, (if TailB s i 4 128 143 = true then (4 : Int) else 0) = R := ⟨_, rfl⟩
    rw [hR]
    have HRR := Hid.mk' hR
    clear hA hT hR
    go_enter Tryd.func72, Tryd.ntmps72
    go_wp2_with fail
    refine (F1.out _).mono ?_
    rintro e w1 ⟨rfl, hw1⟩
    subst hw1
    go_wp2
    go_loopw [9] (fun k wr => ∃ j : Nat, 2 ≤ j ∧ j ≤ 4 ∧ k = .int .i64 (j : Int) ∧ wr = w1 ∧ Hid (∀ x, 2 ≤ x → x < j → folB s (i + x) 128 191 = true)) (fun k _ => 4 - (intOf k).toNat)
    case atStart => exact ⟨2, by omega, by omega, rfl, by trivial, fun x _ _ => by omega⟩
    case round =>
      obtain ⟨j, hj1, hj2, rfl, rfl, HJ⟩ := hrel
      by_cases hjn : j < 4
      · have hjn' : (j : Int) < 4 := by omega
        have FJ := Hid.mk' (FK.out j)
        by_cases hF : folB s (i + j) 128 191 = true
        · rw [hF] at FJ
          have HF := Hid.mk' hF
          clear hF
          go_wp2_with fail
          refine (FJ.out _).mono ?_
          rintro e _ ⟨rfl, rfl⟩
          go_wp2
          go_roundw
          case rel =>
            refine ⟨j + 1, by omega, by omega, by go_num, by trivial, fun x h1 h2 => ?_⟩
            rcases Nat.lt_or_ge x j with h | h
            · exact HJ.out x h1 h
            · have : x = j := by omega
              subst this
              exact HF.out
          case measure => simp [intOf]; omega
        · have hF' : folB s (i + j) 128 191 = false := by simpa using hF
          rw [hF'] at FJ
          have E : ((decide (4 ≤ 2) || folB s (i + 2) 128 191) && (decide (4 ≤ 3) || folB s (i + 3) 128 191)) = false := by
            obtain rfl | rfl : j = 2 ∨ j = 3 := by omega
            · first | (exfalso; omega) | (rw [hF']; rfl)
            · first | (exfalso; omega) | (rw [hF']; cases folB s (i + 2) 128 191 <;> rfl)
          have HE := Hid.mk' E
          clear hF hF' E
          go_wp2_with fail
          refine (FJ.out _).mono ?_
          rintro e _ ⟨rfl, rfl⟩
          go_wp2
          go_ret
          exact ⟨ret_int (by rw [← HRR.out, HA.out, HE.out]; rfl), rfl⟩
      · have hjn' : ¬ (j : Int) < 4 := by omega
        obtain rfl : j = 4 := by omega
        have E : ((decide (4 ≤ 2) || folB s (i + 2) 128 191) && (decide (4 ≤ 3) || folB s (i + 3) 128 191)) = true := by
          rw [HJ.out 2 (by omega) (by omega), HJ.out 3 (by omega) (by omega)]; rfl
        have HE := Hid.mk' E
        clear E
        go_wp2
        go_ret
        exact ⟨ret_int (by rw [← HRR.out, HA.out, HE.out]; rfl), rfl⟩
  · have hF : folB s (i + 1) 128 143 = false := by simpa using hT
    rw [hF] at F1
    have E : TailB s i 4 128 143 = false := by unfold TailB; rw [hF]; rfl
    rw [E]
    clear hT hF E
    go_enter Tryd.func72, Tryd.ntmps72
    go_wp2_with fail
    refine (F1.out _).mono ?_
    rintro e _ ⟨rfl, rfl⟩
    go_wp2
    go_ret
    exact ⟨rfl, rfl⟩
set_option maxRecDepth 100000 in
set_option maxHeartbeats 1000000 in
theorem seq_hi (s : ByteArray) (i c : Nat) (w : World) (h0 : i < s.size) (hs : s.size ≤ 140737488355328) (hc : by8 s i = c) (ha : 245 ≤ c) (hb : c ≤ 255) :
    Calls Tryd.prog 72 #[.string s, .int .i64 (i : Int)] w fun e w' => e = .returned (.int .i64 0) ∧ w' = w := by
  have i0 := fun wx => index_str s i (i : Int) rfl wx h0
  rw [hc] at i0
  have hi0 : ¬ (i : Int) < 0 := by omega
  have hi1 : ¬ (s.size : Int) ≤ (i : Int) := by omega
  have q0 : ¬ ((c : Int) < 128) := by omega
  have g194 : ((194 : Int) ≤ (c : Int)) := by omega
  have l223 : ¬ ((c : Int) ≤ 223) := by omega
  have g224 : ((224 : Int) ≤ (c : Int)) := by omega
  have l239 : ¬ ((c : Int) ≤ 239) := by omega
  have g240 : ((240 : Int) ≤ (c : Int)) := by omega
  have l244 : ¬ ((c : Int) ≤ 244) := by omega
  have e224 : ¬ ((c : Int) = 224) := by omega
  have e237 : ¬ ((c : Int) = 237) := by omega
  have e240 : ¬ ((c : Int) = 240) := by omega
  have e244 : ¬ ((c : Int) = 244) := by omega
  clear hc ha hb h0
  go_enter Tryd.func72, Tryd.ntmps72
  go_wp2
  go_ret
  exact ⟨rfl, rfl⟩
end Go.Proofs.YtbpmpcmmdiaiiaaDoor.K

namespace Go.Proofs.YtbpmpcmmdiaiiaaDoor.K
open Go.RowKit
set_option linter.unusedVariables false
set_option linter.unusedSimpArgs false

/-- How many bytes the character at the front has; 0: none stands there. -/
def wdN (m b0 b1 b2 b3 : Nat) : Nat := if (Lib.decodeN m b0 b1 b2 b3).1 = 65533 ∧ (Lib.decodeN m b0 b1 b2 b3).2 = 1 then 0 else (Lib.decodeN m b0 b1 b2 b3).2
def wd (l : List UInt8) : Nat := wdN l.length (l.getD 0 0).toNat (l.getD 1 0).toNat (l.getD 2 0).toNat (l.getD 3 0).toNat
theorem wd_dec (l : List UInt8) : wd l = if (Lib.decodeL l).1 = 65533 ∧ (Lib.decodeL l).2 = 1 then 0 else (Lib.decodeL l).2 := by
  rw [Lib.decodeL_N]
  rfl
theorem wd_cls (m b0 b1 b2 b3 sz lo hi : Nat) (hs : sz = 2 ∨ sz = 3 ∨ sz = 4) (h : Lib.slowN m b0 b1 b2 b3 sz lo hi = Lib.decodeN m b0 b1 b2 b3) : wdN m b0 b1 b2 b3 = if (sz ≤ m ∧ (lo ≤ b1 ∧ b1 ≤ hi) ∧ (sz ≤ 2 ∨ (128 ≤ b2 ∧ b2 ≤ 191)) ∧ (sz ≤ 3 ∨ (128 ≤ b3 ∧ b3 ≤ 191))) then sz else 0 := by
  unfold wdN
  rw [← h]
  unfold Lib.slowN
  by_cases c1 : m < sz
  · rw [if_pos c1, if_pos ⟨rfl, rfl⟩, if_neg (by omega)]
  rw [if_neg c1]
  by_cases c2 : b1 < lo ∨ hi < b1
  · rw [if_pos c2, if_pos ⟨rfl, rfl⟩, if_neg (by omega)]
  rw [if_neg c2]
  by_cases c3 : sz ≤ 2
  · rw [if_pos c3, if_neg (by simp), if_pos (by omega)]
    simp only
    omega
  rw [if_neg c3]
  by_cases c4 : b2 < 128 ∨ 191 < b2
  · rw [if_pos c4, if_pos ⟨rfl, rfl⟩, if_neg (by omega)]
  rw [if_neg c4]
  by_cases c5 : sz ≤ 3
  · rw [if_pos c5, if_neg (by simp), if_pos (by omega)]
    simp only
    omega
  rw [if_neg c5]
  by_cases c6 : b3 < 128 ∨ 191 < b3
  · rw [if_pos c6, if_pos ⟨rfl, rfl⟩, if_neg (by omega)]
  rw [if_neg c6, if_neg (by simp), if_pos (by omega)]
  simp only
  omega
theorem wd_bad (m b0 b1 b2 b3 : Nat) (h : (128 ≤ b0 ∧ b0 < 194) ∨ (245 ≤ b0 ∧ b0 < 256)) : wdN m b0 b1 b2 b3 = 0 := by
  unfold wdN
  rw [Lib.decodeN_bad m b0 b1 b2 b3 h, if_pos ⟨rfl, rfl⟩]
theorem wd_asc (m b0 b1 b2 b3 : Nat) (h : b0 < 128) : wdN m b0 b1 b2 b3 = 1 := by
  have e : Lib.decodeN m b0 b1 b2 b3 = (b0, 1) := by unfold Lib.decodeN; rw [if_pos h]
  unfold wdN
  rw [e, if_neg (by simp; omega)]
theorem wd_le (m b0 b1 b2 b3 : Nat) (hm : 1 ≤ m) (h0 : b0 < 256) (h1 : b1 < 256) (h2 : b2 < 256) (h3 : b3 < 256) : wdN m b0 b1 b2 b3 ≤ m := by
  by_cases a : b0 < 128
  · rw [wd_asc _ _ _ _ _ a]; exact hm
  by_cases b : (128 ≤ b0 ∧ b0 < 194) ∨ (245 ≤ b0 ∧ b0 < 256)
  · rw [wd_bad _ _ _ _ _ b]; omega
  have hX : Lib.firstT b0 < 240 := by
    unfold Lib.firstT
    repeat' split
    all_goals omega
  have sz : Lib.firstT b0 % 8 = 2 ∨ Lib.firstT b0 % 8 = 3 ∨ Lib.firstT b0 % 8 = 4 := by
    rcases Lib.firstT_cases b0 with x | x | x | x | x | x | x | x | x <;> omega
  rw [wd_cls m b0 b1 b2 b3 _ _ _ sz (Lib.slow_eq m b0 b1 b2 b3 hm h1 h2 h3 hX)]
  split
  · rename_i h; exact h.1
  · omega
theorem wdl_le (l : List UInt8) (h : 0 < l.length) : wd l ≤ l.length := wd_le _ _ _ _ _ h (l.getD 0 0).toNat_lt (l.getD 1 0).toNat_lt (l.getD 2 0).toNat_lt (l.getD 3 0).toNat_lt
theorem wd_at (s : ByteArray) (i : Nat) : wd (s.data.toList.drop i) = wdN (s.size - i) (by8 s i) (by8 s (i + 1)) (by8 s (i + 2)) (by8 s (i + 3)) := by
  unfold wd by8
  rw [List.length_drop]
  simp only [List.getD_eq_getElem?_getD, List.getElem?_drop, Nat.add_zero]
  rfl
theorem tailB_iff (s : ByteArray) (i n lo hi : Nat) (hn : n = 2 ∨ n = 3 ∨ n = 4) : TailB s i n lo hi = true ↔ (n ≤ s.size - i ∧ (lo ≤ by8 s (i + 1) ∧ by8 s (i + 1) ≤ hi) ∧ (n ≤ 2 ∨ (128 ≤ by8 s (i + 2) ∧ by8 s (i + 2) ≤ 191)) ∧ (n ≤ 3 ∨ (128 ≤ by8 s (i + 3) ∧ by8 s (i + 3) ≤ 191))) := by
  unfold TailB folB
  simp only [Bool.and_eq_true, Bool.or_eq_true, decide_eq_true_eq]
  omega
theorem if_tail (s : ByteArray) (i n lo hi : Nat) (hn : n = 2 ∨ n = 3 ∨ n = 4) (b0 : Nat) (h : Lib.slowN (s.size - i) b0 (by8 s (i + 1)) (by8 s (i + 2)) (by8 s (i + 3)) n lo hi = Lib.decodeN (s.size - i) b0 (by8 s (i + 1)) (by8 s (i + 2)) (by8 s (i + 3))) (hb : by8 s i = b0) : ((wd (s.data.toList.drop i) : Nat) : Int) = if TailB s i n lo hi = true then (n : Int) else 0 := by
  rw [wd_at, hb, wd_cls _ _ _ _ _ n lo hi hn h]
  by_cases hT : TailB s i n lo hi = true
  · rw [if_pos hT, if_pos ((tailB_iff s i n lo hi hn).1 hT)]
  · rw [if_neg hT, if_neg (fun h => hT ((tailB_iff s i n lo hi hn).2 h))]
    rfl
set_option maxRecDepth 100000 in
set_option maxHeartbeats 1000000 in
theorem seq_asc (s : ByteArray) (i c : Nat) (w : World) (h0 : i < s.size) (hs : s.size ≤ 140737488355328) (hc : by8 s i = c) (ha : c < 128) :
    Calls Tryd.prog 72 #[.string s, .int .i64 (i : Int)] w fun e w' => e = .returned (.int .i64 1) ∧ w' = w := by
  have i0 := fun wx => index_str s i (i : Int) rfl wx h0
  rw [hc] at i0
  have hi0 : ¬ (i : Int) < 0 := by omega
  have hi1 : ¬ (s.size : Int) ≤ (i : Int) := by omega
  have q0 : (c : Int) < 128 := by omega
  clear hc ha h0
  go_enter Tryd.func72, Tryd.ntmps72
  go_wp2
  go_ret
  exact ⟨rfl, rfl⟩
theorem seq_any (s : ByteArray) (i : Nat) (w : World) (h0 : i < s.size) (hs : s.size ≤ 140737488355328) :
    Calls Tryd.prog 72 #[.string s, .int .i64 (i : Int)] w fun e w' => e = .returned (.int .i64 ((wd (s.data.toList.drop i) : Nat) : Int)) ∧ w' = w := by
  obtain ⟨c, hc⟩ : ∃ c, by8 s i = c := ⟨_, rfl⟩
  have hlt := by8_lt s i
  have l1 := by8_lt s (i + 1)
  have l2 := by8_lt s (i + 2)
  have l3 := by8_lt s (i + 3)
  have hm : 1 ≤ s.size - i := by omega
  rw [hc] at hlt
  by_cases q : c < 128
  · rw [wd_at, hc, wd_asc _ _ _ _ _ q]
    exact seq_asc s i c w h0 hs hc q
  by_cases q1 : c ≤ 193
  · rw [wd_at, hc, wd_bad _ _ _ _ _ (by omega)]
    exact seq_lo s i c w h0 hs hc (by omega) q1
  by_cases q2 : c ≤ 223
  · rw [if_tail s i 2 128 191 (by decide) c (Lib.slow_C2 _ _ _ _ _ hm l1 l2 l3 (by omega)) hc]
    exact seq_two s i c w h0 hs hc (by omega) q2
  by_cases q3 : c ≤ 224
  · rw [if_tail s i 3 160 191 (by decide) c (Lib.slow_E0 _ _ _ _ _ hm l1 l2 l3 (by omega)) hc]
    exact seq_e0 s i c w h0 hs hc (by omega) q3
  by_cases q4 : c ≤ 236
  · rw [if_tail s i 3 128 191 (by decide) c (Lib.slow_E1 _ _ _ _ _ hm l1 l2 l3 (by omega)) hc]
    exact seq_e1 s i c w h0 hs hc (by omega) q4
  by_cases q5 : c ≤ 237
  · rw [if_tail s i 3 128 159 (by decide) c (Lib.slow_ED _ _ _ _ _ hm l1 l2 l3 (by omega)) hc]
    exact seq_ed s i c w h0 hs hc (by omega) q5
  by_cases q6 : c ≤ 239
  · rw [if_tail s i 3 128 191 (by decide) c (Lib.slow_E1 _ _ _ _ _ hm l1 l2 l3 (by omega)) hc]
    exact seq_ee s i c w h0 hs hc (by omega) q6
  by_cases q7 : c ≤ 240
  · rw [if_tail s i 4 144 191 (by decide) c (Lib.slow_F0 _ _ _ _ _ hm l1 l2 l3 (by omega)) hc]
    exact seq_f0 s i c w h0 hs hc (by omega) q7
  by_cases q8 : c ≤ 243
  · rw [if_tail s i 4 128 191 (by decide) c (Lib.slow_F1 _ _ _ _ _ hm l1 l2 l3 (by omega)) hc]
    exact seq_f1 s i c w h0 hs hc (by omega) q8
  by_cases q9 : c ≤ 244
  · rw [if_tail s i 4 128 143 (by decide) c (Lib.slow_F4 _ _ _ _ _ hm l1 l2 l3 (by omega)) hc]
    exact seq_f4 s i c w h0 hs hc (by omega) q9
  rw [wd_at, hc, wd_bad _ _ _ _ _ (by omega)]
  exact seq_hi s i c w h0 hs hc (by omega) (by omega)
end Go.Proofs.YtbpmpcmmdiaiiaaDoor.K

