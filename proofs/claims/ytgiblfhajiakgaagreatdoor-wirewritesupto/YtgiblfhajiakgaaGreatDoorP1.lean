import Derived.Test.YtgiblfhajiakgaaGreatDoorP0
import Derived.Lib.TrimUEq
import Derived.Lib.DecodeNEq
import Derived.Lib.ValidLaws
import Derived.Shelf.Spec.DecodeRune
import Derived.Ground.NamesProg
import Derived.Shelf.Unicode.ValidAny
import Derived.Test.YtgiblfhajiakgaaGreatDoorKWe
import Derived.Test.YtgiblfhajiakgaaGreatDoorNa
import Derived.Test.YtgiblfhajiakgaaGreatDoorKPb
namespace Go.Proofs.YtgiblfhajiakgaaGreatDoor.K
open Go.RowKit
set_option linter.unusedVariables false
set_option linter.unusedSimpArgs false

set_option maxRecDepth 100000 in
set_option maxHeartbeats 1000000 in
theorem seq_lo (s : ByteArray) (i c : Nat) (w : World) (h0 : i < s.size) (hs : s.size ≤ 140737488355328) (hc : by8 s i = c) (ha : 128 ≤ c) (hb : c ≤ 193) :
    Calls Tryz.prog 136 #[.string s, .int .i64 (i : Int)] w fun e w' => e = .returned (.int .i64 0) ∧ w' = w := by
  have i0 := fun wx => index_str s i (i : Int) rfl wx h0
  rw [hc] at i0
  have hi0 : ¬ (i : Int) < 0 := by omega
  have hi1 : ¬ (s.size : Int) ≤ (i : Int) := by omega
  have q0 : ¬ ((c : Int) < 128) := by omega
  have g194 : ¬ ((194 : Int) ≤ (c : Int)) := by omega
  have l223 : ((c : Int) ≤ 223) := by omega
  have g224 : ¬ ((224 : Int) ≤ (c : Int)) := by omega
  have l239 : ((c : Int) ≤ 239) := by omega
  have g240 : ¬ ((240 : Int) ≤ (c : Int)) := by omega
  have l244 : ((c : Int) ≤ 244) := by omega
  have e224 : ¬ ((c : Int) = 224) := by omega
  have e237 : ¬ ((c : Int) = 237) := by omega
  have e240 : ¬ ((c : Int) = 240) := by omega
  have e244 : ¬ ((c : Int) = 244) := by omega
  clear hc ha hb h0
  go_enter Tryz.func136, Tryz.ntmps136
  go_wp2
  go_ret
  exact ⟨rfl, rfl⟩
set_option maxRecDepth 100000 in
set_option maxHeartbeats 1000000 in
theorem seq_two (s : ByteArray) (i c : Nat) (w : World) (h0 : i < s.size) (hs : s.size ≤ 140737488355328) (hc : by8 s i = c) (ha : 194 ≤ c) (hb : c ≤ 223) :
    Calls Tryz.prog 136 #[.string s, .int .i64 (i : Int)] w fun e w' => e = .returned (.int .i64 (if TailB s i 2 128 191 = true then 2 else 0)) ∧ w' = w := by
  have i0 := fun wx => index_str s i (i : Int) rfl wx h0
  rw [hc] at i0
  have hi0 : ¬ (i : Int) < 0 := by omega
  have hi1 : ¬ (s.size : Int) ≤ (i : Int) := by omega
  have q0 : ¬ ((c : Int) < 128) := by omega
  have g194 : ((194 : Int) ≤ (c : Int)) := by omega
  have l223 : ((c : Int) ≤ 223) := by omega
  have g224 : ¬ ((224 : Int) ≤ (c : Int)) := by omega
  have l239 : ((c : Int) ≤ 239) := by omega
  have g240 : ¬ ((240 : Int) ≤ (c : Int)) := by omega
  have l244 : ((c : Int) ≤ 244) := by omega
  have e224 : ¬ ((c : Int) = 224) := by omega
  have e237 : ¬ ((c : Int) = 237) := by omega
  have e240 : ¬ ((c : Int) = 240) := by omega
  have e244 : ¬ ((c : Int) = 244) := by omega
  have F1 : Hid (∀ wx, Calls Tryz.prog 150 #[.string s, .int .i64 ((i : Int) + 1), .int .u8 128, .int .u8 191] wx fun e w' => e = .returned (.bool (folB s (i + 1) 128 191)) ∧ w' = wx) := fun wx => follows_any s _ (i + 1) 128 191 (by omega) wx
  have FK : Hid (∀ (k : Nat) wx, Calls Tryz.prog 150 #[.string s, .int .i64 ((i : Int) + (k : Int)), .int .u8 128, .int .u8 191] wx fun e w' => e = .returned (.bool (folB s (i + k) 128 191)) ∧ w' = wx) := fun k wx => follows_any s _ (i + k) 128 191 (by omega) wx
  clear hc ha hb
  by_cases hT : folB s (i + 1) 128 191 = true
  · rw [hT] at F1
    have hA : TailB s i 2 128 191 = ((decide (2 ≤ 2) || folB s (i + 2) 128 191) && (decide (2 ≤ 3) || folB s (i + 3) 128 191)) := by unfold TailB; rw [hT]; rfl
    have HA := Hid.mk' hA
    obtain ⟨R, hR⟩ : ∃ R : Int, (if TailB s i 2 128 191 = true then (2 : Int) else 0) = R := ⟨_, rfl⟩
    rw [hR]
    have HRR := Hid.mk' hR
    clear hA hT hR
    go_enter Tryz.func136, Tryz.ntmps136
    go_wp2_with fail
    refine (F1.out _).mono ?_
    rintro e w1 ⟨rfl, hw1⟩
    subst hw1
    go_wp2
    go_loopw [9] (fun k wr => ∃ j : Nat, 2 ≤ j ∧ j ≤ 2 ∧ k = .int .i64 (j : Int) ∧ wr = w1 ∧ Hid (∀ x, 2 ≤ x → x < j → folB s (i + x) 128 191 = true)) (fun k _ => 2 - (intOf k).toNat)
    case atStart => exact ⟨2, by omega, by omega, rfl, by trivial, fun x _ _ => by omega⟩
    case round =>
      obtain ⟨j, hj1, hj2, rfl, rfl, HJ⟩ := hrel
      by_cases hjn : j < 2
      · have hjn' : (j : Int) < 2 := by omega
        have FJ := Hid.mk' (FK.out j)
        by_cases hF : folB s (i + j) 128 191 = true
        · rw [hF] at FJ
          have HF := Hid.mk' hF
          clear hF
          go_wp2_with fail
          refine (FJ.out _).mono ?_
          rintro e _ ⟨rfl, rfl⟩
          go_wp2
          go_roundw
          case rel =>
            refine ⟨j + 1, by omega, by omega, by go_num, by trivial, fun x h1 h2 => ?_⟩
            rcases Nat.lt_or_ge x j with h | h
            · exact HJ.out x h1 h
            · have : x = j := by omega
              subst this
              exact HF.out
          case measure => simp [intOf]; omega
        · have hF' : folB s (i + j) 128 191 = false := by simpa using hF
          rw [hF'] at FJ
          have E : ((decide (2 ≤ 2) || folB s (i + 2) 128 191) && (decide (2 ≤ 3) || folB s (i + 3) 128 191)) = false := by
            obtain rfl | rfl : j = 2 ∨ j = 3 := by omega
            · first | (exfalso; omega) | (rw [hF']; rfl)
            · first | (exfalso; omega) | (rw [hF']; cases folB s (i + 2) 128 191 <;> rfl)
          have HE := Hid.mk' E
          clear hF hF' E
          go_wp2_with fail
          refine (FJ.out _).mono ?_
          rintro e _ ⟨rfl, rfl⟩
          go_wp2
          go_ret
          exact ⟨ret_int (by rw [← HRR.out, HA.out, HE.out]; rfl), rfl⟩
      · have hjn' : ¬ (j : Int) < 2 := by omega
        obtain rfl : j = 2 := by omega
        have E : ((decide (2 ≤ 2) || folB s (i + 2) 128 191) && (decide (2 ≤ 3) || folB s (i + 3) 128 191)) = true := by
          rfl
        have HE := Hid.mk' E
        clear E
        go_wp2
        go_ret
        exact ⟨ret_int (by rw [← HRR.out, HA.out, HE.out]; rfl), rfl⟩
  · have hF : folB s (i + 1) 128 191 = false := by simpa using hT
    rw [hF] at F1
    have E : TailB s i 2 128 191 = false := by unfold TailB; rw [hF]; rfl
    rw [E]
    clear hT hF E
    go_enter Tryz.func136, Tryz.ntmps136
    go_wp2_with fail
    refine (F1.out _).mono ?_
    rintro e _ ⟨rfl, rfl⟩
    go_wp2
    go_ret
    exact ⟨rfl, rfl⟩
set_option maxRecDepth 100000 in
set_option maxHeartbeats 1000000 in
theorem seq_e0 (s : ByteArray) (i c : Nat) (w : World) (h0 : i < s.size) (hs : s.size ≤ 140737488355328) (hc : by8 s i = c) (ha : 224 ≤ c) (hb : c ≤ 224) :
    Calls Tryz.prog 136 #[.string s, .int .i64 (i : Int)] w fun e w' => e = .returned (.int .i64 (if TailB s i 3 160 191 = true then 3 else 0)) ∧ w' = w := by
  have i0 := fun wx => index_str s i (i : Int) rfl wx h0
  rw [hc] at i0
  have hi0 : ¬ (i : Int) < 0 := by omega
  have hi1 : ¬ (s.size : Int) ≤ (i : Int) := by omega
  have q0 : ¬ ((c : Int) < 128) := by omega
  have g194 : ((194 : Int) ≤ (c : Int)) := by omega
  have l223 : ¬ ((c : Int) ≤ 223) := by omega
  have g224 : ((224 : Int) ≤ (c : Int)) := by omega
  have l239 : ((c : Int) ≤ 239) := by omega
  have g240 : ¬ ((240 : Int) ≤ (c : Int)) := by omega
  have l244 : ((c : Int) ≤ 244) := by omega
  have e224 : ((c : Int) = 224) := by omega
  have e237 : ¬ ((c : Int) = 237) := by omega
  have e240 : ¬ ((c : Int) = 240) := by omega
  have e244 : ¬ ((c : Int) = 244) := by omega
  have F1 : Hid (∀ wx, Calls Tryz.prog 150 #[.string s, .int .i64 ((i : Int) + 1), .int .u8 160, .int .u8 191] wx fun e w' => e = .returned (.bool (folB s (i + 1) 160 191)) ∧ w' = wx) := fun wx => follows_any s _ (i + 1) 160 191 (by omega) wx
  have FK : Hid (∀ (k : Nat) wx, Calls Tryz.prog 150 #[.string s, .int .i64 ((i : Int) + (k : Int)), .int .u8 128, .int .u8 191] wx fun e w' => e = .returned (.bool (folB s (i + k) 128 191)) ∧ w' = wx) := fun k wx => follows_any s _ (i + k) 128 191 (by omega) wx
  clear hc ha hb
  by_cases hT : folB s (i + 1) 160 191 = true
  · rw [hT] at F1
    have hA : TailB s i 3 160 191 = ((decide (3 ≤ 2) || folB s (i + 2) 128 191) && (decide (3 ≤ 3) || folB s (i + 3) 128 191)) := by unfold TailB; rw [hT]; rfl
    have HA := Hid.mk' hA
    obtain ⟨R, hR⟩ : ∃ R : Int, (if TailB s i 3 160 191 = true then (3 : Int) else 0) = R := ⟨_, rfl⟩
    rw [hR]
    have HRR := Hid.mk' hR
    clear hA hT hR
    go_enter Tryz.func136, Tryz.ntmps136
    go_wp2_with fail
    refine (F1.out _).mono ?_
    rintro e w1 ⟨rfl, hw1⟩
    subst hw1
    go_wp2
    go_loopw [9] (fun k wr => ∃ j : Nat, 2 ≤ j ∧ j ≤ 3 ∧ k = .int .i64 (j : Int) ∧ wr = w1 ∧ Hid (∀ x, 2 ≤ x → x < j → folB s (i + x) 128 191 = true)) (fun k _ => 3 - (intOf k).toNat)
    case atStart => exact ⟨2, by omega, by omega, rfl, by trivial, fun x _ _ => by omega⟩
    case round =>
      obtain ⟨j, hj1, hj2, rfl, rfl, HJ⟩ := hrel
      by_cases hjn : j < 3
      · have hjn' : (j : Int) < 3 := by omega
        have FJ := Hid.mk' (FK.out j)
        by_cases hF : folB s (i + j) 128 191 = true
        · rw [hF] at FJ
          have HF := Hid.mk' hF
          clear hF
          go_wp2_with fail
          refine (FJ.out _).mono ?_
          rintro e _ ⟨rfl, rfl⟩
          go_wp2
          go_roundw
          case rel =>
            refine ⟨j + 1, by omega, by omega, by go_num, by trivial, fun x h1 h2 => ?_⟩
            rcases Nat.lt_or_ge x j with h | h
            · exact HJ.out x h1 h
            · have : x = j := by omega
              subst this
              exact HF.out
          case measure => simp [intOf]; omega
        · have hF' : folB s (i + j) 128 191 = false := by simpa using hF
          rw [hF'] at FJ
          have E : ((decide (3 ≤ 2) || folB s (i + 2) 128 191) && (decide (3 ≤ 3) || folB s (i + 3) 128 191)) = false := by
            obtain rfl | rfl : j = 2 ∨ j = 3 := by omega
            · first | (exfalso; omega) | (rw [hF']; rfl)
            · first | (exfalso; omega) | (rw [hF']; cases folB s (i + 2) 128 191 <;> rfl)
          have HE := Hid.mk' E
          clear hF hF' E
          go_wp2_with fail
          refine (FJ.out _).mono ?_
          rintro e _ ⟨rfl, rfl⟩
          go_wp2
          go_ret
          exact ⟨ret_int (by rw [← HRR.out, HA.out, HE.out]; rfl), rfl⟩
      · have hjn' : ¬ (j : Int) < 3 := by omega
        obtain rfl : j = 3 := by omega
        have E : ((decide (3 ≤ 2) || folB s (i + 2) 128 191) && (decide (3 ≤ 3) || folB s (i + 3) 128 191)) = true := by
          rw [HJ.out 2 (by omega) (by omega)]; rfl
        have HE := Hid.mk' E
        clear E
        go_wp2
        go_ret
        exact ⟨ret_int (by rw [← HRR.out, HA.out, HE.out]; rfl), rfl⟩
  · have hF : folB s (i + 1) 160 191 = false := by simpa using hT
    rw [hF] at F1
    have E : TailB s i 3 160 191 = false := by unfold TailB; rw [hF]; rfl
    rw [E]
    clear hT hF E
    go_enter Tryz.func136, Tryz.ntmps136
    go_wp2_with fail
    refine (F1.out _).mono ?_
    rintro e _ ⟨rfl, rfl⟩
    go_wp2
    go_ret
    exact ⟨rfl, rfl⟩
set_option maxRecDepth 100000 in
set_option maxHeartbeats 1000000 in
theorem seq_e1 (s : ByteArray) (i c : Nat) (w : World) (h0 : i < s.size) (hs : s.size ≤ 140737488355328) (hc : by8 s i = c) (ha : 225 ≤ c) (hb : c ≤ 236) :
    Calls Tryz.prog 136 #[.string s, .int .i64 (i : Int)] w fun e w' => e = .returned (.int .i64 (if TailB s i 3 128 191 = true then 3 else 0)) ∧ w' = w := by
  have i0 := fun wx => index_str s i (i : Int) rfl wx h0
  rw [hc] at i0
  have hi0 : ¬ (i : Int) < 0 := by omega
  have hi1 : ¬ (s.size : Int) ≤ (i : Int) := by omega
  have q0 : ¬ ((c : Int) < 128) := by omega
  have g194 : ((194 : Int) ≤ (c : Int)) := by omega
  have l223 : ¬ ((c : Int) ≤ 223) := by omega
  have g224 : ((224 : Int) ≤ (c : Int)) := by omega
  have l239 : ((c : Int) ≤ 239) := by omega
  have g240 : ¬ ((240 : Int) ≤ (c : Int)) := by omega
  have l244 : ((c : Int) ≤ 244) := by omega
  have e224 : ¬ ((c : Int) = 224) := by omega
  have e237 : ¬ ((c : Int) = 237) := by omega
  have e240 : ¬ ((c : Int) = 240) := by omega
  have e244 : ¬ ((c : Int) = 244) := by omega
  have F1 : Hid (∀ wx, Calls Tryz.prog 150 #[.string s, .int .i64 ((i : Int) + 1), .int .u8 128, .int .u8 191] wx fun e w' => e = .returned (.bool (folB s (i + 1) 128 191)) ∧ w' = wx) := fun wx => follows_any s _ (i + 1) 128 191 (by omega) wx
  have FK : Hid (∀ (k : Nat) wx, Calls Tryz.prog 150 #[.string s, .int .i64 ((i : Int) + (k : Int)), .int .u8 128, .int .u8 191] wx fun e w' => e = .returned (.bool (folB s (i + k) 128 191)) ∧ w' = wx) := fun k wx => follows_any s _ (i + k) 128 191 (by omega) wx
  clear hc ha hb
  by_cases hT : folB s (i + 1) 128 191 = true
  · rw [hT] at F1
    have hA : TailB s i 3 128 191 = ((decide (3 ≤ 2) || folB s (i + 2) 128 191) && (decide (3 ≤ 3) || folB s (i + 3) 128 191)) := by unfold TailB; rw [hT]; rfl
    have HA := Hid.mk' hA
    obtain ⟨R, hR⟩ : ∃ R : Int, (if TailB s i 3 128 191 = true then (3 : Int) else 0) = R := ⟨_, rfl⟩
    rw [hR]
    have HRR := Hid.mk' hR
    clear hA hT hR
    go_enter Tryz.func136, Tryz.ntmps136
    go_wp2_with fail
    refine (F1.out _).mono ?_
    rintro e w1 ⟨rfl, hw1⟩
    subst hw1
    go_wp2
    go_loopw [9] (fun k wr => ∃ j : Nat, 2 ≤ j ∧ j ≤ 3 ∧ k = .int .i64 (j : Int) ∧ wr = w1 ∧ Hid (∀ x, 2 ≤ x → x < j → folB s (i + x) 128 191 = true)) (fun k _ => 3 - (intOf k).toNat)
    case atStart => exact ⟨2, by omega, by omega, rfl, by trivial, fun x _ _ => by omega⟩
    case round =>
      obtain ⟨j, hj1, hj2, rfl, rfl, HJ⟩ := hrel
      by_cases hjn : j < 3
      · have hjn' : (j : Int) < 3 := by omega
        have FJ := Hid.mk' (FK.out j)
        by_cases hF : folB s (i + j) 128 191 = true
        · rw [hF] at FJ
          have HF := Hid.mk' hF
          clear hF
          go_wp2_with fail
          refine (FJ.out _).mono ?_
          rintro e _ ⟨rfl, rfl⟩
          go_wp2
          go_roundw
          case rel =>
            refine ⟨j + 1, by omega, by omega, by go_num, by trivial, fun x h1 h2 => ?_⟩
            rcases Nat.lt_or_ge x j with h | h
            · exact HJ.out x h1 h
            · have : x = j := by omega
              subst this
              exact HF.out
          case measure => simp [intOf]; omega
        · have hF' : folB s (i + j) 128 191 = false := by simpa using hF
          rw [hF'] at FJ
          have E : ((decide (3 ≤ 2) || folB s (i + 2) 128 191) && (decide (3 ≤ 3) || folB s (i + 3) 128 191)) = false := by
            obtain rfl | rfl : j = 2 ∨ j = 3 := by omega
            · first | (exfalso; omega) | (rw [hF']; rfl)
            · first | (exfalso; omega) | (rw [hF']; cases folB s (i + 2) 128 191 <;> rfl)
          have HE := Hid.mk' E
          clear hF hF' E
          go_wp2_with fail
          refine (FJ.out _).mono ?_
          rintro e _ ⟨rfl, rfl⟩
          go_wp2
          go_ret
          exact ⟨ret_int (by rw [← HRR.out, HA.out, HE.out]; rfl), rfl⟩
      · have hjn' : ¬ (j : Int) < 3 := by omega
        obtain rfl : j = 3 := by omega
        have E : ((decide (3 ≤ 2) || folB s (i + 2) 128 191) && (decide (3 ≤ 3) || folB s (i + 3) 128 191)) = true := by
          rw [HJ.out 2 (by omega) (by omega)]; rfl
        have HE := Hid.mk' E
        clear E
        go_wp2
        go_ret
        exact ⟨ret_int (by rw [← HRR.out, HA.out, HE.out]; rfl), rfl⟩
  · have hF : folB s (i + 1) 128 191 = false := by simpa using hT
    rw [hF] at F1
    have E : TailB s i 3 128 191 = false := by unfold TailB; rw [hF]; rfl
    rw [E]
    clear hT hF E
    go_enter Tryz.func136, Tryz.ntmps136
    go_wp2_with fail
    refine (F1.out _).mono ?_
    rintro e _ ⟨rfl, rfl⟩
    go_wp2
    go_ret
    exact ⟨rfl, rfl⟩
set_option maxRecDepth 100000 in
set_option maxHeartbeats 1000000 in
theorem seq_ed (s : ByteArray) (i c : Nat) (w : World) (h0 : i < s.size) (hs : s.size ≤ 140737488355328) (hc : by8 s i = c) (ha : 237 ≤ c) (hb : c ≤ 237) :
    Calls Tryz.prog 136 #[.string s, .int .i64 (i : Int)] w fun e w' => e = .returned (.int .i64 (if TailB s i 3 128 159 = true then 3 else 0)) ∧ w' = w := by
  have i0 := fun wx => index_str s i (i : Int) rfl wx h0
  rw [hc] at i0
  have hi0 : ¬ (i : Int) < 0 := by omega
  have hi1 : ¬ (s.size : Int) ≤ (i : Int) := by omega
  have q0 : ¬ ((c : Int) < 128) := by omega
  have g194 : ((194 : Int) ≤ (c : Int)) := by omega
  have l223 : ¬ ((c : Int) ≤ 223) := by omega
  have g224 : ((224 : Int) ≤ (c : Int)) := by omega
  have l239 : ((c : Int) ≤ 239) := by omega
  have g240 : ¬ ((240 : Int) ≤ (c : Int)) := by omega
  have l244 : ((c : Int) ≤ 244) := by omega
  have e224 : ¬ ((c : Int) = 224) := by omega
  have e237 : ((c : Int) = 237) := by omega
  have e240 : ¬ ((c : Int) = 240) := by omega
  have e244 : ¬ ((c : Int) = 244) := by omega
  have F1 : Hid (∀ wx, Calls Tryz.prog 150 #[.string s, .int .i64 ((i : Int) + 1), .int .u8 128, .int .u8 159] wx fun e w' => e = .returned (.bool (folB s (i + 1) 128 159)) ∧ w' = wx) := fun wx => follows_any s _ (i + 1) 128 159 (by omega) wx
  have FK : Hid (∀ (k : Nat) wx, Calls Tryz.prog 150 #[.string s, .int .i64 ((i : Int) + (k : Int)), .int .u8 128, .int .u8 191] wx fun e w' => e = .returned (.bool (folB s (i + k) 128 191)) ∧ w' = wx) := fun k wx => follows_any s _ (i + k) 128 191 (by omega) wx
  clear hc ha hb
  by_cases hT : folB s (i + 1) 128 159 = true
  · rw [hT] at F1
    have hA : TailB s i 3 128 159 = ((decide (3 ≤ 2) || folB s (i + 2) 128 191) && (decide (3 ≤ 3) || folB s (i + 3) 128 191)) := by unfold TailB; rw [hT]; rfl
    have HA := Hid.mk' hA
    obtain ⟨R, hR⟩ : ∃ R : Int, (if TailB s i 3 128 159 = true then (3 : Int) else 0) = R := ⟨_, rfl⟩
    rw [hR]
    have HRR := Hid.mk' hR
    clear hA hT hR
    go_enter Tryz.func136, Tryz.ntmps136
    go_wp2_with fail
    refine (F1.out _).mono ?_
    rintro e w1 ⟨rfl, hw1⟩
    subst hw1
    go_wp2
    go_loopw [9] (fun k wr => ∃ j : Nat, 2 ≤ j ∧ j ≤ 3 ∧ k = .int .i64 (j : Int) ∧ wr = w1 ∧ Hid (∀ x, 2 ≤ x → x < j → folB s (i + x) 128 191 = true)) (fun k _ => 3 - (intOf k).toNat)
    case atStart => exact ⟨2, by omega, by omega, rfl, by trivial, fun x _ _ => by omega⟩
    case round =>
      obtain ⟨j, hj1, hj2, rfl, rfl, HJ⟩ := hrel
      by_cases hjn : j < 3
      · have hjn' : (j : Int) < 3 := by omega
        have FJ := Hid.mk' (FK.out j)
        by_cases hF : folB s (i + j) 128 191 = true
        · rw [hF] at FJ
          have HF := Hid.mk' hF
          clear hF
          go_wp2_with fail
          refine (FJ.out _).mono ?_
          rintro e _ ⟨rfl, rfl⟩
          go_wp2
          go_roundw
          case rel =>
            refine ⟨j + 1, by omega, by omega, by go_num, by trivial, fun x h1 h2 => ?_⟩
            rcases Nat.lt_or_ge x j with h | h
            · exact HJ.out x h1 h
            · have : x = j := by omega
              subst this
              exact HF.out
          case measure => simp [intOf]; omega
        · have hF' : folB s (i + j) 128 191 = false := by simpa using hF
          rw [hF'] at FJ
          have E : ((decide (3 ≤ 2) || folB s (i + 2) 128 191) && (decide (3 ≤ 3) || folB s (i + 3) 128 191)) = false := by
            obtain rfl | rfl : j = 2 ∨ j = 3 := by omega
            · first | (exfalso; omega) | (rw [hF']; rfl)
            · first | (exfalso; omega) | (rw [hF']; cases folB s (i + 2) 128 191 <;> rfl)
          have HE := Hid.mk' E
          clear hF hF' E
          go_wp2_with fail
          refine (FJ.out _).mono ?_
          rintro e _ ⟨rfl, rfl⟩
          go_wp2
          go_ret
          exact ⟨ret_int (by rw [← HRR.out, HA.out, HE.out]; rfl), rfl⟩
      · have hjn' : ¬ (j : Int) < 3 := by omega
        obtain rfl : j = 3 := by omega
        have E : ((decide (3 ≤ 2) || folB s (i + 2) 128 191) && (decide (3 ≤ 3) || folB s (i + 3) 128 191)) = true := by
          rw [HJ.out 2 (by omega) (by omega)]; rfl
        have HE := Hid.mk' E
        clear E
        go_wp2
        go_ret
        exact ⟨ret_int (by rw [← HRR.out, HA.out, HE.out]; rfl), rfl⟩
  · have hF : folB s (i + 1) 128 159 = false := by simpa using hT
    rw [hF] at F1
    have E : TailB s i 3 128 159 = false := by unfold TailB; rw [hF]; rfl
    rw [E]
    clear hT hF E
    go_enter Tryz.func136, Tryz.ntmps136
    go_wp2_with fail
    refine (F1.out _).mono ?_
    rintro e _ ⟨rfl, rfl⟩
    go_wp2
    go_ret
    exact ⟨rfl, rfl⟩
set_option maxRecDepth 100000 in
set_option maxHeartbeats 1000000 in
theorem seq_ee (s : ByteArray) (i c : Nat) (w : World) (h0 : i < s.size) (hs : s.size ≤ 140737488355328) (hc : by8 s i = c) (ha : 238 ≤ c) (hb : c ≤ 239) :
    Calls Tryz.prog 136 #[.string s, .int .i64 (i : Int)] w fun e w' => e = .returned (.int .i64 (if TailB s i 3 128 191 = true then 3 else 0)) ∧ w' = w := by
  have i0 := fun wx => index_str s i (i : Int) rfl wx h0
  rw [hc] at i0
  have hi0 : ¬ (i : Int) < 0 := by omega
  have hi1 : ¬ (s.size : Int) ≤ (i : Int) := by omega
  have q0 : ¬ ((c : Int) < 128) := by omega
  have g194 : ((194 : Int) ≤ (c : Int)) := by omega
  have l223 : ¬ ((c : Int) ≤ 223) := by omega
  have g224 : ((224 : Int) ≤ (c : Int)) := by omega
  have l239 : ((c : Int) ≤ 239) := by omega
  have g240 : ¬ ((240 : Int) ≤ (c : Int)) := by omega
  have l244 : ((c : Int) ≤ 244) := by omega
  have e224 : ¬ ((c : Int) = 224) := by omega
  have e237 : ¬ ((c : Int) = 237) := by omega
  have e240 : ¬ ((c : Int) = 240) := by omega
  have e244 : ¬ ((c : Int) = 244) := by omega
  have F1 : Hid (∀ wx, Calls Tryz.prog 150 #[.string s, .int .i64 ((i : Int) + 1), .int .u8 128, .int .u8 191] wx fun e w' => e = .returned (.bool (folB s (i + 1) 128 191)) ∧ w' = wx) := fun wx => follows_any s _ (i + 1) 128 191 (by omega) wx
  have FK : Hid (∀ (k : Nat) wx, Calls Tryz.prog 150 #[.string s, .int .i64 ((i : Int) + (k : Int)), .int .u8 128, .int .u8 191] wx fun e w' => e = .returned (.bool (folB s (i + k) 128 191)) ∧ w' = wx) := fun k wx => follows_any s _ (i + k) 128 191 (by omega) wx
  clear hc ha hb
  by_cases hT : folB s (i + 1) 128 191 = true
  · rw [hT] at F1
    have hA : TailB s i 3 128 191 = ((decide (3 ≤ 2) || folB s (i + 2) 128 191) && (decide (3 ≤ 3) || folB s (i + 3) 128 191)) := by unfold TailB; rw [hT]; rfl
    have HA := Hid.mk' hA
    obtain ⟨R, hR⟩ : ∃ R : Int, (if TailB s i 3 128 191 = true then (3 : Int) else 0) = R := ⟨_, rfl⟩
    rw [hR]
    have HRR := Hid.mk' hR
    clear hA hT hR
    go_enter Tryz.func136, Tryz.ntmps136
    go_wp2_with fail
    refine (F1.out _).mono ?_
    rintro e w1 ⟨rfl, hw1⟩
    subst hw1
    go_wp2
    go_loopw [9] (fun k wr => ∃ j : Nat, 2 ≤ j ∧ j ≤ 3 ∧ k = .int .i64 (j : Int) ∧ wr = w1 ∧ Hid (∀ x, 2 ≤ x → x < j → folB s (i + x) 128 191 = true)) (fun k _ => 3 - (intOf k).toNat)
    case atStart => exact ⟨2, by omega, by omega, rfl, by trivial, fun x _ _ => by omega⟩
    case round =>
      obtain ⟨j, hj1, hj2, rfl, rfl, HJ⟩ := hrel
      by_cases hjn : j < 3
      · have hjn' : (j : Int) < 3 := by omega
        have FJ := Hid.mk' (FK.out j)
        by_cases hF : folB s (i + j) 128 191 = true
        · rw [hF] at FJ
          have HF := Hid.mk' hF
          clear hF
          go_wp2_with fail
          refine (FJ.out _).mono ?_
          rintro e _ ⟨rfl, rfl⟩
          go_wp2
          go_roundw
          case rel =>
            refine ⟨j + 1, by omega, by omega, by go_num, by trivial, fun x h1 h2 => ?_⟩
            rcases Nat.lt_or_ge x j with h | h
            · exact HJ.out x h1 h
            · have : x = j := by omega
              subst this
              exact HF.out
          case measure => simp [intOf]; omega
        · have hF' : folB s (i + j) 128 191 = false := by simpa using hF
          rw [hF'] at FJ
          have E : ((decide (3 ≤ 2) || folB s (i + 2) 128 191) && (decide (3 ≤ 3) || folB s (i + 3) 128 191)) = false := by
            obtain rfl | rfl : j = 2 ∨ j = 3 := by omega
            · first | (exfalso; omega) | (rw [hF']; rfl)
            · first | (exfalso; omega) | (rw [hF']; cases folB s (i + 2) 128 191 <;> rfl)
          have HE := Hid.mk' E
          clear hF hF' E
          go_wp2_with fail
          refine (FJ.out _).mono ?_
          rintro e _ ⟨rfl, rfl⟩
          go_wp2
          go_ret
          exact ⟨ret_int (by rw [← HRR.out, HA.out, HE.out]; rfl), rfl⟩
      · have hjn' : ¬ (j : Int) < 3 := by omega
        obtain rfl : j = 3 := by omega
        have E : ((decide (3 ≤ 2) || folB s (i + 2) 128 191) && (decide (3 ≤ 3) || folB s (i + 3) 128 191)) = true := by
          rw [HJ.out 2 (by omega) (by omega)]; rfl
        have HE := Hid.mk' E
        clear E
        go_wp2
        go_ret
        exact ⟨ret_int (by rw [← HRR.out, HA.out, HE.out]; rfl), rfl⟩
  · have hF : folB s (i + 1) 128 191 = false := by simpa using hT
    rw [hF] at F1
    have E : TailB s i 3 128 191 = false := by unfold TailB; rw [hF]; rfl
    rw [E]
    clear hT hF E
    go_enter Tryz.func136, Tryz.ntmps136
    go_wp2_with fail
    refine (F1.out _).mono ?_
    rintro e _ ⟨rfl, rfl⟩
    go_wp2
    go_ret
    exact ⟨rfl, rfl⟩
set_option maxRecDepth 100000 in
set_option maxHeartbeats 1000000 in
theorem seq_f0 (s : ByteArray) (i c : Nat) (w : World) (h0 : i < s.size) (hs : s.size ≤ 140737488355328) (hc : by8 s i = c) (ha : 240 ≤ c) (hb : c ≤ 240) :
    Calls Tryz.prog 136 #[.string s, .int .i64 (i : Int)] w fun e w' => e = .returned (.int .i64 (if TailB s i 4 144 191 = true then 4 else 0)) ∧ w' = w := by
  have i0 := fun wx => index_str s i (i : Int) rfl wx h0
  rw [hc] at i0
  have hi0 : ¬ (i : Int) < 0 := by omega
  have hi1 : ¬ (s.size : Int) ≤ (i : Int) := by omega
  have q0 : ¬ ((c : Int) < 128) := by omega
  have g194 : ((194 : Int) ≤ (c : Int)) := by omega
  have l223 : ¬ ((c : Int) ≤ 223) := by omega
  have g224 : ((224 : Int) ≤ (c : Int)) := by omega
  have l239 : ¬ ((c : Int) ≤ 239) := by omega
  have g240 : ((240 : Int) ≤ (c : Int)) := by omega
  have l244 : ((c : Int) ≤ 244) := by omega
  have e224 : ¬ ((c : Int) = 224) := by omega
  have e237 : ¬ ((c : Int) = 237) := by omega
  have e240 : ((c : Int) = 240) := by omega
  have e244 : ¬ ((c : Int) = 244) := by omega
  have F1 : Hid (∀ wx, Calls Tryz.prog 150 #[.string s, .int .i64 ((i : Int) + 1), .int .u8 144, .int .u8 191] wx fun e w' => e = .returned (.bool (folB s (i + 1) 144 191)) ∧ w' = wx) := fun wx => follows_any s _ (i + 1) 144 191 (by omega) wx
  have FK : Hid (∀ (k : Nat) wx, Calls Tryz.prog 150 #[.string s, .int .i64 ((i : Int) + (k : Int)), .int .u8 128, .int .u8 191] wx fun e w' => e = .returned (.bool (folB s (i + k) 128 191)) ∧ w' = wx) := fun k wx => follows_any s _ (i + k) 128 191 (by omega) wx
  clear hc ha hb
  by_cases hT : folB s (i + 1) 144 191 = true
  · rw [hT] at F1
    have hA : TailB s i 4 144 191 = ((decide (4 ≤ 2) || folB s (i + 2) 128 191) && (decide (4 ≤ 3) || folB s (i + 3) 128 191)) := by unfold TailB; rw [hT]; rfl
    have HA := Hid.mk' hA
    obtain ⟨R, hR⟩ : ∃ R : Int, (if TailB s i 4 144 191 = true then (4 : Int) else 0) = R := ⟨_, rfl⟩
    rw [hR]
    have HRR := Hid.mk' hR
    clear hA hT hR
    go_enter Tryz.func136, Tryz.ntmps136
    go_wp2_with fail
    refine (F1.out _).mono ?_
    rintro e w1 ⟨rfl, hw1⟩
    subst hw1
    go_wp2
    go_loopw [9] (fun k wr => ∃ j : Nat, 2 ≤ j ∧ j ≤ 4 ∧ k = .int .i64 (j : Int) ∧ wr = w1 ∧ Hid (∀ x, 2 ≤ x → x < j → folB s (i + x) 128 191 = true)) (fun k _ => 4 - (intOf k).toNat)
    case atStart => exact ⟨2, by omega, by omega, rfl, by trivial, fun x _ _ => by omega⟩
    case round =>
      obtain ⟨j, hj1, hj2, rfl, rfl, HJ⟩ := hrel
      by_cases hjn : j < 4
      · have hjn' : (j : Int) < 4 := by omega
        have FJ := Hid.mk' (FK.out j)
        by_cases hF : folB s (i + j) 128 191 = true
        · rw [hF] at FJ
          have HF := Hid.mk' hF
          clear hF
          go_wp2_with fail
          refine (FJ.out _).mono ?_
          rintro e _ ⟨rfl, rfl⟩
          go_wp2
          go_roundw
          case rel =>
            refine ⟨j + 1, by omega, by omega, by go_num, by trivial, fun x h1 h2 => ?_⟩
            rcases Nat.lt_or_ge x j with h | h
            · exact HJ.out x h1 h
            · have : x = j := by omega
              subst this
              exact HF.out
          case measure => simp [intOf]; omega
        · have hF' : folB s (i + j) 128 191 = false := by simpa using hF
          rw [hF'] at FJ
          have E : ((decide (4 ≤ 2) || folB s (i + 2) 128 191) && (decide (4 ≤ 3) || folB s (i + 3) 128 191)) = false := by
            obtain rfl | rfl : j = 2 ∨ j = 3 := by omega
            · first | (exfalso; omega) | (rw [hF']; rfl)
            · first | (exfalso; omega) | (rw [hF']; cases folB s (i + 2) 128 191 <;> rfl)
          have HE := Hid.mk' E
          clear hF hF' E
          go_wp2_with fail
          refine (FJ.out _).mono ?_
          rintro e _ ⟨rfl, rfl⟩
          go_wp2
          go_ret
          exact ⟨ret_int (by rw [← HRR.out, HA.out, HE.out]; rfl), rfl⟩
      · have hjn' : ¬ (j : Int) < 4 := by omega
        obtain rfl : j = 4 := by omega
        have E : ((decide (4 ≤ 2) || folB s (i + 2) 128 191) && (decide (4 ≤ 3) || folB s (i + 3) 128 191)) = true := by
          rw [HJ.out 2 (by omega) (by omega), HJ.out 3 (by omega) (by omega)]; rfl
        have HE := Hid.mk' E
        clear E
        go_wp2
        go_ret
        exact ⟨ret_int (by rw [← HRR.out, HA.out, HE.out]; rfl), rfl⟩
  · have hF : folB s (i + 1) 144 191 = false := by simpa using hT
    rw [hF] at F1
    have E : TailB s i 4 144 191 = false := by unfold TailB; rw [hF]; rfl
    rw [E]
    clear hT hF E
    go_enter Tryz.func136, Tryz.ntmps136
    go_wp2_with fail
    refine (F1.out _).mono ?_
    rintro e _ ⟨rfl, rfl⟩
    go_wp2
    go_ret
    exact ⟨rfl, rfl⟩
set_option maxRecDepth 100000 in
set_option maxHeartbeats 1000000 in
theorem seq_f1 (s : ByteArray) (i c : Nat) (w : World) (h0 : i < s.size) (hs : s.size ≤ 140737488355328) (hc : by8 s i = c) (ha : 241 ≤ c) (hb : c ≤ 243) :
    Calls Tryz.prog 136 #[.string s, .int .i64 (i : Int)] w fun e w' => e = .returned (.int .i64 (if TailB s i 4 128 191 = true then 4 else 0)) ∧ w' = w := by
  have i0 := fun wx => index_str s i (i : Int) rfl wx h0
  rw [hc] at i0
  have hi0 : ¬ (i : Int) < 0 := by omega
  have hi1 : ¬ (s.size : Int) ≤ (i : Int) := by omega
  have q0 : ¬ ((c : Int) < 128) := by omega
  have g194 : ((194 : Int) ≤ (c : Int)) := by omega
  have l223 : ¬ ((c : Int) ≤ 223) := by omega
  have g224 : ((224 : Int) ≤ (c : Int)) := by omega
  have l239 : ¬ ((c : Int) ≤ 239) := by omega
  have g240 : ((240 : Int) ≤ (c : Int)) := by omega
  have l244 : ((c : Int) ≤ 244) := by omega
  have e224 : ¬ ((c : Int) = 224) := by omega
  have e237 : ¬ ((c : Int) = 237) := by omega
  have e240 : ¬ ((c : Int) = 240) := by omega
  have e244 : ¬ ((c : Int) = 244) := by omega
  have F1 : Hid (∀ wx, Calls Tryz.prog 150 #[.string s, .int .i64 ((i : Int) + 1), .int .u8 128, .int .u8 191] wx fun e w' => e = .returned (.bool (folB s (i + 1) 128 191)) ∧ w' = wx) := fun wx => follows_any s _ (i + 1) 128 191 (by omega) wx
  have FK : Hid (∀ (k : Nat) wx, Calls Tryz.prog 150 #[.string s, .int .i64 ((i : Int) + (k : Int)), .int .u8 128, .int .u8 191] wx fun e w' => e = .returned (.bool (folB s (i + k) 128 191)) ∧ w' = wx) := fun k wx => follows_any s _ (i + k) 128 191 (by omega) wx
  clear hc ha hb
  by_cases hT : folB s (i + 1) 128 191 = true
  · rw [hT] at F1
    have hA : TailB s i 4 128 191 = ((decide (4 ≤ 2) || folB s (i + 2) 128 191) && (decide (4 ≤ 3) || folB s (i + 3) 128 191)) := by unfold TailB; rw [hT]; rfl
    have HA := Hid.mk' hA
    obtain ⟨R, hR⟩ : ∃ R : Int, (if TailB s i 4 128 191 = true then (4 : Int) else 0) = R := ⟨_, rfl⟩
    rw [hR]
    have HRR := Hid.mk' hR
    clear hA hT hR
    go_enter Tryz.func136, Tryz.ntmps136
    go_wp2_with fail
    refine (F1.out _).mono ?_
    rintro e w1 ⟨rfl, hw1⟩
    subst hw1
    go_wp2
    go_loopw [9] (fun k wr => ∃ j : Nat, 2 ≤ j ∧ j ≤ 4 ∧ k = .int .i64 (j : Int) ∧ wr = w1 ∧ Hid (∀ x, 2 ≤ x → x < j → folB s (i + x) 128 191 = true)) (fun k _ => 4 - (intOf k).toNat)
    case atStart => exact ⟨2, by omega, by omega, rfl, by trivial, fun x _ _ => by omega⟩
    case round =>
      obtain ⟨j, hj1, hj2, rfl, rfl, HJ⟩ := hrel
      by_cases hjn : j < 4
      · have hjn' : (j : Int) < 4 := by omega
        have FJ := Hid.mk' (FK.out j)
        by_cases hF : folB s (i + j) 128 191 = true
        · rw [hF] at FJ
          have HF := Hid.mk' hF
          clear hF
          go_wp2_with fail
          refine (FJ.out _).mono ?_
          rintro e _ ⟨rfl, rfl⟩
          go_wp2
          go_roundw
          case rel =>
            refine ⟨j + 1, by omega, by omega, by go_num, by trivial, fun x h1 h2 => ?_⟩
            rcases Nat.lt_or_ge x j with h | h
            · exact HJ.out x h1 h
            · have : x = j := by omega
              subst this
              exact HF.out
          case measure => simp [intOf]; omega
        · have hF' : folB s (i + j) 128 191 = false := by simpa using hF
          rw [hF'] at FJ
          have E : ((decide (4 ≤ 2) || folB s (i + 2) 128 191) && (decide (4 ≤ 3) || folB s (i + 3) 128 191)) = false := by
            obtain rfl | rfl : j = 2 ∨ j = 3 := by omega
            · first | (exfalso; omega) | (rw [hF']; rfl)
            · first | (exfalso; omega) | (rw [hF']; cases folB s (i + 2) 128 191 <;> rfl)
          have HE := Hid.mk' E
          clear hF hF' E
          go_wp2_with fail
          refine (FJ.out _).mono ?_
          rintro e _ ⟨rfl, rfl⟩
          go_wp2
          go_ret
          exact ⟨ret_int (by rw [← HRR.out, HA.out, HE.out]; rfl), rfl⟩
      · have hjn' : ¬ (j : Int) < 4 := by omega
        obtain rfl : j = 4 := by omega
        have E : ((decide (4 ≤ 2) || folB s (i + 2) 128 191) && (decide (4 ≤ 3) || folB s (i + 3) 128 191)) = true := by
          rw [HJ.out 2 (by omega) (by omega), HJ.out 3 (by omega) (by omega)]; rfl
        have HE := Hid.mk' E
        clear E
        go_wp2
        go_ret
        exact ⟨ret_int (by rw [← HRR.out, HA.out, HE.out]; rfl), rfl⟩
  · have hF : folB s (i + 1) 128 191 = false := by simpa using hT
    rw [hF] at F1
    have E : TailB s i 4 128 191 = false := by unfold TailB; rw [hF]; rfl
    rw [E]
    clear hT hF E
    go_enter Tryz.func136, Tryz.ntmps136
    go_wp2_with fail
    refine (F1.out _).mono ?_
    rintro e _ ⟨rfl, rfl⟩
    go_wp2
    go_ret
    exact ⟨rfl, rfl⟩
set_option maxRecDepth 100000 in
set_option maxHeartbeats 1000000 in
theorem seq_f4 (s : ByteArray) (i c : Nat) (w : World) (h0 : i < s.size) (hs : s.size ≤ 140737488355328) (hc : by8 s i = c) (ha : 244 ≤ c) (hb : c ≤ 244) :
    Calls Tryz.prog 136 #[.string s, .int .i64 (i : Int)] w fun e w' => e = .returned (.int .i64 (if TailB s i 4 128 143 = true then 4 else 0)) ∧ w' = w := by
  have i0 := fun wx => index_str s i (i : Int) rfl wx h0
  rw [hc] at i0
  have hi0 : ¬ (i : Int) < 0 := by omega
  have hi1 : ¬ (s.size : Int) ≤ (i : Int) := by omega
  have q0 : ¬ ((c : Int) < 128) := by omega
  have g194 : ((194 : Int) ≤ (c : Int)) := by omega
  have l223 : ¬ ((c : Int) ≤ 223) := by omega
  have g224 : ((224 : Int) ≤ (c : Int)) := by omega
  have l239 : ¬ ((c : Int) ≤ 239) := by omega
  have g240 : ((240 : Int) ≤ (c : Int)) := by omega
  have l244 : ((c : Int) ≤ 244) := by omega
  have e224 : ¬ ((c : Int) = 224) := by omega
  have e237 : ¬ ((c : Int) = 237) := by omega
  have e240 : ¬ ((c : Int) = 240) := by omega
  have e244 : ((c : Int) = 244) := by omega
  have F1 : Hid (∀ wx, Calls Tryz.prog 150 #[.string s, .int .i64 ((i : Int) + 1), .int .u8 128, .int .u8 143] wx fun e w' => e = .returned (.bool (folB s (i + 1) 128 143)) ∧ w' = wx) := fun wx => follows_any s _ (i + 1) 128 143 (by omega) wx
  have FK : Hid (∀ (k : Nat) wx, Calls Tryz.prog 150 #[.string s, .int .i64 ((i : Int) + (k : Int)), .int .u8 128, .int .u8 191] wx fun e w' => e = .returned (.bool (folB s (i + k) 128 191)) ∧ w' = wx) := fun k wx => follows_any s _ (i + k) 128 191 (by omega) wx
  clear hc ha hb
  by_cases hT : folB s (i + 1) 128 143 = true
  · rw [hT] at F1
    have hA : TailB s i 4 128 143 = ((decide (4 ≤ 2) || folB s (i + 2) 128 191) && (decide (4 ≤ 3) || folB s (i + 3) 128 191)) := by unfold TailB; rw [hT]; rfl
    have HA := Hid.mk' hA
    obtain ⟨R, hR⟩ : ∃ R : Int, (if TailB s i 4 128 143 = true then (4 : Int) else 0) = R := ⟨_, rfl⟩
    rw [hR]
    have HRR := Hid.mk' hR
    clear hA hT hR
    go_enter Tryz.func136, Tryz.ntmps136
    go_wp2_with fail
    refine (F1.out _).mono ?_
    rintro e w1 ⟨rfl, hw1⟩
    subst hw1
    go_wp2
    go_loopw [9] (fun k wr => ∃ j : Nat, 2 ≤ j ∧ j ≤ 4 ∧ k = .int .i64 (j : Int) ∧ wr = w1 ∧ Hid (∀ x, 2 ≤ x → x < j → folB s (i + x) 128 191 = true)) (fun k _ => 4 - (intOf k).toNat)
    case atStart => exact ⟨2, by omega, by omega, rfl, by trivial, fun x _ _ => by omega⟩
    case round =>
      obtain ⟨j, hj1, hj2, rfl, rfl, HJ⟩ := hrel
      by_cases hjn : j < 4
      · have hjn' : (j : Int) < 4 := by omega
        have FJ := Hid.mk' (FK.out j)
        by_cases hF : folB s (i + j) 128 191 = true
        · rw [hF] at FJ
          have HF := Hid.mk' hF
          clear hF
          go_wp2_with fail
          refine (FJ.out _).mono ?_
          rintro e _ ⟨rfl, rfl⟩
          go_wp2
          go_roundw
          case rel =>
            refine ⟨j + 1, by omega, by omega, by go_num, by trivial, fun x h1 h2 => ?_⟩
            rcases Nat.lt_or_ge x j with h | h
            · exact HJ.out x h1 h
            · have : x = j := by omega
              subst this
              exact HF.out
          case measure => simp [intOf]; omega
        · have hF' : folB s (i + j) 128 191 = false := by simpa using hF
          rw [hF'] at FJ
          have E : ((decide (4 ≤ 2) || folB s (i + 2) 128 191) && (decide (4 ≤ 3) || folB s (i + 3) 128 191)) = false := by
            obtain rfl | rfl : j = 2 ∨ j = 3 := by omega
            · first | (exfalso; omega) | (rw [hF']; rfl)
            · first | (exfalso; omega) | (rw [hF']; cases folB s (i + 2) 128 191 <;> rfl)
          have HE := Hid.mk' E
          clear hF hF' E
          go_wp2_with fail
          refine (FJ.out _).mono ?_
          rintro e _ ⟨rfl, rfl⟩
          go_wp2
          go_ret
          exact ⟨ret_int (by rw [← HRR.out, HA.out, HE.out]; rfl), rfl⟩
      · have hjn' : ¬ (j : Int) < 4 := by omega
        obtain rfl : j = 4 := by omega
        have E : ((decide (4 ≤ 2) || folB s (i + 2) 128 191) && (decide (4 ≤ 3) || folB s (i + 3) 128 191)) = true := by
          rw [HJ.out 2 (by omega) (by omega), HJ.out 3 (by omega) (by omega)]; rfl
        have HE := Hid.mk' E
        clear E
        go_wp2
        go_ret
        exact ⟨ret_int (by rw [← HRR.out, HA.out, HE.out]; rfl), rfl⟩
  · have hF : folB s (i + 1) 128 143 = false := by simpa using hT
    rw [hF] at F1
    have E : TailB s i 4 128 143 = false := by unfold TailB; rw [hF]; rfl
    rw [E]
    clear hT hF E
    go_enter Tryz.func136, Tryz.ntmps136
    go_wp2_with fail
    refine (F1.out _).mono ?_
    rintro e _ ⟨rfl, rfl⟩
    go_wp2
    go_ret
    exact ⟨rfl, rfl⟩
set_option maxRecDepth 100000 in
set_option maxHeartbeats 1000000 in
theorem seq_hi (s : ByteArray) (i c : Nat) (w : World) (h0 : i < s.size) (hs : s.size ≤ 140737488355328) (hc : by8 s i = c) (ha : 245 ≤ c) (hb : c ≤ 255) :
    Calls Tryz.prog 136 #[.string s, .int .i64 (i : Int)] w fun e w' => e = .returned (.int .i64 0) ∧ w' = w := by
  have i0 := fun wx => index_str s i (i : Int) rfl wx h0
  rw [hc] at i0
  have hi0 : ¬ (i : Int) < 0 := by omega
  have hi1 : ¬ (s.size : Int) ≤ (i : Int) := by omega
  have q0 : ¬ ((c : Int) < 128) := by omega
  have g194 : ((194 : Int) ≤ (c : Int)) := by omega
  have l223 : ¬ ((c : Int) ≤ 223) := by omega
  have g224 : ((224 : Int) ≤ (c : Int)) := by omega
  have l239 : ¬ ((c : Int) ≤ 239) := by omega
  have g240 : ((240 : Int) ≤ (c : Int)) := by omega
  have l244 : ¬ ((c : Int) ≤ 244) := by omega
  have e224 : ¬ ((c : Int) = 224) := by omega
  have e237 : ¬ ((c : Int) = 237) := by omega
  have e240 : ¬ ((c : Int) = 240) := by omega
  have e244 : ¬ ((c : Int) = 244) := by omega
  clear hc ha hb h0
  go_enter Tryz.func136, Tryz.ntmps136
  go_wp2
  go_ret
  exact ⟨rfl, rfl⟩
end Go.Proofs.YtgiblfhajiakgaaGreatDoor.K

namespace Go.Proofs.YtgiblfhajiakgaaGreatDoor.K
open Go.RowKit
set_option linter.unusedVariables false
set_option linter.unusedSimpArgs false

/-- How many bytes the character at the front has; 0: none stands there. -/
def wdN (m b0 b1 b2 b3 : Nat) : Nat := if (Lib.decodeN m b0 b1 b2 b3).1 = 65533 ∧ (Lib.decodeN m b0 b1 b2 b3).2 = 1 then 0 else (Lib.decodeN m b0 b1 b2 b3).2
def wd (l : List UInt8) : Nat := wdN l.length (l.getD 0 0).toNat (l.getD 1 0).toNat (l.getD 2 0).toNat (l.getD 3 0).toNat
theorem wd_dec (l : List UInt8) : wd l = if (Lib.decodeL l).1 = 65533 ∧ (Lib.decodeL l).2 = 1 then 0 else (Lib.decodeL l).2 := by
  rw [Lib.decodeL_N]
  rfl
theorem wd_cls (m b0 b1 b2 b3 sz lo hi : Nat) (hs : sz = 2 ∨ sz = 3 ∨ sz = 4) (h : Lib.slowN m b0 b1 b2 b3 sz lo hi = Lib.decodeN m b0 b1 b2 b3) : wdN m b0 b1 b2 b3 = if (sz ≤ m ∧ (lo ≤ b1 ∧ b1 ≤ hi) ∧ (sz ≤ 2 ∨ (128 ≤ b2 ∧ b2 ≤ 191)) ∧ (sz ≤ 3 ∨ (128 ≤ b3 ∧ b3 ≤ 191))) then sz else 0 := by
  unfold wdN
  rw [← h]
  unfold Lib.slowN
  by_cases c1 : m < sz
  · rw [if_pos c1, if_pos ⟨rfl, rfl⟩, if_neg (by omega)]
  rw [if_neg c1]
  by_cases c2 : b1 < lo ∨ hi < b1
  · rw [if_pos c2, if_pos ⟨rfl, rfl⟩, if_neg (by omega)]
  rw [if_neg c2]
  by_cases c3 : sz ≤ 2
  · rw [if_pos c3, if_neg (by simp), if_pos (by omega)]
    simp only
    omega
  rw [if_neg c3]
  by_cases c4 : b2 < 128 ∨ 191 < b2
  · rw [if_pos c4, if_pos ⟨rfl, rfl⟩, if_neg (by omega)]
  rw [if_neg c4]
  by_cases c5 : sz ≤ 3
  · rw [if_pos c5, if_neg (by simp), if_pos (by omega)]
    simp only
    omega
  rw [if_neg c5]
  by_cases c6 : b3 < 128 ∨ 191 < b3
  · rw [if_pos c6, if_pos ⟨rfl, rfl⟩, if_neg (by omega)]
  rw [if_neg c6, if_neg (by simp), if_pos (by omega)]
  simp only
  omega
theorem wd_bad (m b0 b1 b2 b3 : Nat) (h : (128 ≤ b0 ∧ b0 < 194) ∨ (245 ≤ b0 ∧ b0 < 256)) : wdN m b0 b1 b2 b3 = 0 := by
  unfold wdN
  rw [Lib.decodeN_bad m b0 b1 b2 b3 h, if_pos ⟨rfl, rfl⟩]
theorem wd_asc (m b0 b1 b2 b3 : Nat) (h : b0 < 128) : wdN m b0 b1 b2 b3 = 1 := by
  have e : Lib.decodeN m b0 b1 b2 b3 = (b0, 1) := by unfold Lib.decodeN; rw [if_pos h]
  unfold wdN
  rw [e, if_neg (by simp; omega)]
theorem wd_le (m b0 b1 b2 b3 : Nat) (hm : 1 ≤ m) (h0 : b0 < 256) (h1 : b1 < 256) (h2 : b2 < 256) (h3 : b3 < 256) : wdN m b0 b1 b2 b3 ≤ m := by
  by_cases a : b0 < 128
  · rw [wd_asc _ _ _ _ _ a]; exact hm
  by_cases b : (128 ≤ b0 ∧ b0 < 194) ∨ (245 ≤ b0 ∧ b0 < 256)
  · rw [wd_bad _ _ _ _ _ b]; omega
  have hX : Lib.firstT b0 < 240 := by
    unfold Lib.firstT
    repeat' split
    all_goals omega
  have sz : Lib.firstT b0 % 8 = 2 ∨ Lib.firstT b0 % 8 = 3 ∨ Lib.firstT b0 % 8 = 4 := by
    rcases Lib.firstT_cases b0 with x | x | x | x | x | x | x | x | x <;> omega
  rw [wd_cls m b0 b1 b2 b3 _ _ _ sz (Lib.slow_eq m b0 b1 b2 b3 hm h1 h2 h3 hX)]
  split
  · rename_i h; exact h.1
  · omega
theorem wdl_le (l : List UInt8) (h : 0 < l.length) : wd l ≤ l.length := wd_le _ _ _ _ _ h (l.getD 0 0).toNat_lt (l.getD 1 0).toNat_lt (l.getD 2 0).toNat_lt (l.getD 3 0).toNat_lt
theorem wd_at (s : ByteArray) (i : Nat) : wd (s.data.toList.drop i) = wdN (s.size - i) (by8 s i) (by8 s (i + 1)) (by8 s (i + 2)) (by8 s (i + 3)) := by
  unfold wd by8
  rw [List.length_drop]
  simp only [List.getD_eq_getElem?_getD, List.getElem?_drop, Nat.add_zero]
  rfl
theorem tailB_iff (s : ByteArray) (i n lo hi : Nat) (hn : n = 2 ∨ n = 3 ∨ n = 4) : TailB s i n lo hi = true ↔ (n ≤ s.size - i ∧ (lo ≤ by8 s (i + 1) ∧ by8 s (i + 1) ≤ hi) ∧ (n ≤ 2 ∨ (128 ≤ by8 s (i + 2) ∧ by8 s (i + 2) ≤ 191)) ∧ (n ≤ 3 ∨ (128 ≤ by8 s (i + 3) ∧ by8 s (i + 3) ≤ 191))) := by
  unfold TailB folB
  simp only [Bool.and_eq_true, Bool.or_eq_true, decide_eq_true_eq]
  omega
theorem if_tail (s : ByteArray) (i n lo hi : Nat) (hn : n = 2 ∨ n = 3 ∨ n = 4) (b0 : Nat) (h : Lib.slowN (s.size - i) b0 (by8 s (i + 1)) (by8 s (i + 2)) (by8 s (i + 3)) n lo hi = Lib.decodeN (s.size - i) b0 (by8 s (i + 1)) (by8 s (i + 2)) (by8 s (i + 3))) (hb : by8 s i = b0) : ((wd (s.data.toList.drop i) : Nat) : Int) = if TailB s i n lo hi = true then (n : Int) else 0 := by
  rw [wd_at, hb, wd_cls _ _ _ _ _ n lo hi hn h]
  by_cases hT : TailB s i n lo hi = true
  · rw [if_pos hT, if_pos ((tailB_iff s i n lo hi hn).1 hT)]
  · rw [if_neg hT, if_neg (fun h => hT ((tailB_iff s i n lo hi hn).2 h))]
    rfl
set_option maxRecDepth 100000 in
set_option maxHeartbeats 1000000 in
theorem seq_asc (s : ByteArray) (i c : Nat) (w : World) (h0 : i < s.size) (hs : s.size ≤ 140737488355328) (hc : by8 s i = c) (ha : c < 128) :
    Calls Tryz.prog 136 #[.string s, .int .i64 (i : Int)] w fun e w' => e = .returned (.int .i64 1) ∧ w' = w := by
  have i0 := fun wx => index_str s i (i : Int) rfl wx h0
  rw [hc] at i0
  have hi0 : ¬ (i : Int) < 0 := by omega
  have hi1 : ¬ (s.size : Int) ≤ (i : Int) := by omega
  have q0 : (c : Int) < 128 := by omega
  clear hc ha h0
  go_enter Tryz.func136, Tryz.ntmps136
  go_wp2
  go_ret
  exact ⟨rfl, rfl⟩
theorem seq_any (s : ByteArray) (i : Nat) (w : World) (h0 : i < s.size) (hs : s.size ≤ 140737488355328) :
    Calls Tryz.prog 136 #[.string s, .int .i64 (i : Int)] w fun e w' => e = .returned (.int .i64 ((wd (s.data.toList.drop i) : Nat) : Int)) ∧ w' = w := by
  obtain ⟨c, hc⟩ : ∃ c, by8 s i = c := ⟨_, rfl⟩
  have hlt := by8_lt s i
  have l1 := by8_lt s (i + 1)
  have l2 := by8_lt s (i + 2)
  have l3 := by8_lt s (i + 3)
  have hm : 1 ≤ s.size - i := by omega
  rw [hc] at hlt
  by_cases q : c < 128
  · rw [wd_at, hc, wd_asc _ _ _ _ _ q]
    exact seq_asc s i c w h0 hs hc q
  by_cases q1 : c ≤ 193
  · rw [wd_at, hc, wd_bad _ _ _ _ _ (by omega)]
    exact seq_lo s i c w h0 hs hc (by omega) q1
  by_cases q2 : c ≤ 223
  · rw [if_tail s i 2 128 191 (by decide) c (Lib.slow_C2 _ _ _ _ _ hm l1 l2 l3 (by omega)) hc]
    exact seq_two s i c w h0 hs hc (by omega) q2
  by_cases q3 : c ≤ 224
  · rw [if_tail s i 3 160 191 (by decide) c (Lib.slow_E0 _ _ _ _ _ hm l1 l2 l3 (by omega)) hc]
    exact seq_e0 s i c w h0 hs hc (by omega) q3
  by_cases q4 : c ≤ 236
  · rw [if_tail s i 3 128 191 (by decide) c (Lib.slow_E1 _ _ _ _ _ hm l1 l2 l3 (by omega)) hc]
    exact seq_e1 s i c w h0 hs hc (by omega) q4
  by_cases q5 : c ≤ 237
  · rw [if_tail s i 3 128 159 (by decide) c (Lib.slow_ED _ _ _ _ _ hm l1 l2 l3 (by omega)) hc]
    exact seq_ed s i c w h0 hs hc (by omega) q5
  by_cases q6 : c ≤ 239
  · rw [if_tail s i 3 128 191 (by decide) c (Lib.slow_E1 _ _ _ _ _ hm l1 l2 l3 (by omega)) hc]
    exact seq_ee s i c w h0 hs hc (by omega) q6
  by_cases q7 : c ≤ 240
  · rw [if_tail s i 4 144 191 (by decide) c (Lib.slow_F0 _ _ _ _ _ hm l1 l2 l3 (by omega)) hc]
    exact seq_f0 s i c w h0 hs hc (by omega) q7
  by_cases q8 : c ≤ 243
  · rw [if_tail s i 4 128 191 (by decide) c (Lib.slow_F1 _ _ _ _ _ hm l1 l2 l3 (by omega)) hc]
    exact seq_f1 s i c w h0 hs hc (by omega) q8
  by_cases q9 : c ≤ 244
  · rw [if_tail s i 4 128 143 (by decide) c (Lib.slow_F4 _ _ _ _ _ hm l1 l2 l3 (by omega)) hc]
    exact seq_f4 s i c w h0 hs hc (by omega) q9
  rw [wd_at, hc, wd_bad _ _ _ _ _ (by omega)]
  exact seq_hi s i c w h0 hs hc (by omega) (by omega)
end Go.Proofs.YtgiblfhajiakgaaGreatDoor.K

namespace Go.Proofs.YtgiblfhajiakgaaGreatDoor.K
open Go.Shelf Go.RowKit
set_option linter.unusedVariables false
set_option linter.unusedSimpArgs false

/-- How many bytes stand ahead of the first with which no character begins. -/
def goodF : Nat → List UInt8 → Nat
  | 0, _ => 0
  | f + 1, l => if l.length = 0 then 0 else if wd l = 0 then 0 else wd l + goodF f (l.drop (wd l))
def good (l : List UInt8) : Nat := goodF l.length l
theorem goodF_le : ∀ (f : Nat) (l : List UInt8), goodF f l ≤ l.length
  | 0, l => Nat.zero_le _
  | f + 1, l => by
    unfold goodF
    split
    · omega
    · split
      · omega
      · rename_i h0 h1
        have := goodF_le f (l.drop (wd l))
        have := wdl_le l (by omega)
        rw [List.length_drop] at *
        omega
theorem goodF_end (f : Nat) (l : List UInt8) (h : l.length = 0) : goodF f l = 0 := by
  cases f with
  | zero => rfl
  | succ f => unfold goodF; rw [if_pos h]
theorem goodF_stop (f : Nat) (l : List UInt8) (h : wd l = 0) : goodF f l = 0 := by
  cases f with
  | zero => rfl
  | succ f => unfold goodF; split <;> first | rfl | (rw [if_pos h])
theorem goodF_on (f : Nat) (l : List UInt8) (h : 0 < l.length) (hf : l.length ≤ f) (h1 : wd l ≠ 0) : goodF f l = wd l + goodF (f - 1) (l.drop (wd l)) := by
  cases f with
  | zero => omega
  | succ f => unfold goodF; rw [if_neg (by omega), if_neg h1]; cases f <;> rfl
theorem decL_pos (l : List UInt8) : 1 ≤ (Lib.decodeL l).2 := by
  rw [Lib.decodeL_N]
  unfold Lib.decodeN
  repeat' split
  all_goals (simp only []; omega)
def Tabs (w : World) : Prop := Lib.Utf8Tabs 0 1 w
theorem Tabs.below {w w' : World} (h : Tabs w) (hb : Below w.heap.size w w') : Tabs w' :=
  ⟨fun c hc => (hb.cell (p := ⟨0, c, none⟩) (block_lt_of_cell (h.1 c hc))).trans (h.1 c hc), fun i hi => ⟨(hb.cell (p := ⟨1, 2 * i, none⟩) (block_lt_of_cell (h.2 i hi).1)).trans (h.2 i hi).1, (hb.cell (p := ⟨1, 2 * i + 1, none⟩) (block_lt_of_cell (h.2 i hi).2)).trans (h.2 i hi).2⟩⟩
theorem Tabs.fr {w w' : World} {r : Nat} (h : Tabs w) (hb : Fr r w w') (hr : 0 ≠ r ∧ 1 ≠ r) : Tabs w' :=
  ⟨fun c hc => hb.cell (p := ⟨0, c, none⟩) (by show 0 ≠ r; exact hr.1) (h.1 c hc), fun i hi => ⟨hb.cell (p := ⟨1, 2 * i, none⟩) (by show 1 ≠ r; exact hr.2) (h.2 i hi).1, hb.cell (p := ⟨1, 2 * i + 1, none⟩) (by show 1 ≠ r; exact hr.2) (h.2 i hi).2⟩⟩
theorem Tabs.ne {w : World} {r : Nat} (h : Tabs w) (hr : w.heap.size ≤ r) : 0 ≠ r ∧ 1 ≠ r := by
  have h1 : 0 < w.heap.size := block_lt_of_cell (h.1 0 (by decide))
  have h2 : 1 < w.heap.size := block_lt_of_cell (h.2 0 (by decide)).1
  exact ⟨by show _ ≠ _; omega, by show _ ≠ _; omega⟩
def laysD_ren : Go.Shelf.Ren := ⟨fun | 32 => 132 | 49 => 138 | n => n, fun | 25 => 121 | 30 => 25 | 33 => 199 | 66 => 193 | 68 => 195 | 69 => 196 | n => n, fun | 2 => 0 | 3 => 1 | n => n⟩
theorem laysD : Lays7.n32 Tryz.prog laysD_ren := {
  mixed := by kernel_rfl
  f32 := Tryz.func132.trans (congrArg some (by kernel_rfl))
  f49 := Tryz.func138.trans (congrArg some (by kernel_rfl))
  t0 := Tryz.underlying0
  a0 := Tryz.isAgg0
  z0 := Tryz.sizeOf0
  v0 := Tryz.zeroValue0
  i0 := by kernel_rfl
  t3 := Tryz.underlying3
  a3 := Tryz.isAgg3
  z3 := Tryz.sizeOf3
  v3 := Tryz.zeroValue3
  i3 := by kernel_rfl
  t4 := Tryz.underlying4
  a4 := Tryz.isAgg4
  z4 := Tryz.sizeOf4
  v4 := Tryz.zeroValue4
  i4 := by kernel_rfl
  t5 := Tryz.underlying5
  a5 := Tryz.isAgg5
  z5 := Tryz.sizeOf5
  v5 := Tryz.zeroValue5
  i5 := by kernel_rfl
  t21 := Tryz.underlying21
  a21 := Tryz.isAgg21
  z21 := Tryz.sizeOf21
  v21 := Tryz.zeroValue21
  i21 := by kernel_rfl
  t25 := Tryz.underlying121
  a25 := Tryz.isAgg121
  z25 := Tryz.sizeOf121
  v25 := Tryz.zeroValue121
  i25 := by kernel_rfl
  t30 := Tryz.underlying25
  a30 := Tryz.isAgg25
  z30 := Tryz.sizeOf25
  v30 := Tryz.zeroValue25
  i30 := by kernel_rfl
  t33 := Tryz.underlying199
  a33 := Tryz.isAgg199
  z33 := Tryz.sizeOf199
  v33 := Tryz.zeroValue199
  i33 := by kernel_rfl
  t66 := Tryz.underlying193
  a66 := Tryz.isAgg193
  z66 := Tryz.sizeOf193
  t68 := Tryz.underlying195
  a68 := Tryz.isAgg195
  z68 := Tryz.sizeOf195
  v68 := Tryz.zeroValue195
  i68 := by kernel_rfl
  t69 := Tryz.underlying196
  a69 := Tryz.isAgg196
  z69 := Tryz.sizeOf196
  v69 := Tryz.zeroValue196
  i69 := by kernel_rfl
  g2 := by kernel_rfl
  g3 := by kernel_rfl }
theorem decode_any (b off n cap : Nat) (l : List UInt8) (w : World) (hl : l.length = n) (h0 : 0 < n) (hb : Byt w (some ⟨b, off, none⟩) l) (hT : Tabs w) :
    Calls Tryz.prog 132 #[.slice (some ⟨b, off, none⟩) n cap] w fun e w' => e = .returned (.tuple #[.int .i32 ((Lib.decodeL l).1 : Nat), .int .i64 ((Lib.decodeL l).2 : Nat)]) ∧ Below w.heap.size w w' := by
  have hsz : (⟨l.toArray⟩ : ByteArray).size = n := by show l.toArray.size = n; simp [hl]
  have h := Any7.utf8_DecodeRune laysD ⟨l.toArray⟩ b off cap w hT (fun j hj => by
    rw [hsz] at hj
    rcases hb with rfl | ⟨b', off', e, hc⟩
    · simp at hl; omega
    · cases e
      rw [hc j (by omega)]
      unfold at8
      congr 2
      have : (⟨l.toArray⟩ : ByteArray).get! j = l.getD j 0 := by
        show l.toArray.getD j default = _
        simp [List.getD_eq_getElem?_getD]
        rfl
      rw [this])
  have e : Lib.decodeGo ⟨l.toArray⟩ = Lib.decodeL l := by
    unfold Lib.decodeGo
    rw [if_neg (by omega)]
    rfl
  rw [e, hsz] at h
  exact h
set_option maxRecDepth 100000 in
set_option maxHeartbeats 1000000 in
theorem goodText_any (b off n cap : Nat) (l : List UInt8) (w : World) (hl : l.length = n) (hn : n ≤ 140737488351232) (hcap : n ≤ cap) (hb : Byt w (some ⟨b, off, none⟩) l) (hT : Tabs w) :
    Calls Tryz.prog 108 #[.slice (some ⟨b, off, none⟩) n cap] w fun e w' => e = .returned (.int .i64 (good l : Int)) ∧ Below w.heap.size w w' := by
  obtain ⟨G, hG⟩ : ∃ G, good l = G := ⟨_, rfl⟩
  rw [hG]
  have HG : Hid (0 + goodF n (l.drop 0) = G) := by
    show _ = _
    rw [← hG, ← hl]
    simp [good]
  have HB := Hid.mk' hb
  have HT := Hid.mk' hT
  have HL := Hid.mk' hl
  have HZ : Hid (∀ j, (l.drop j).length = n - j) := fun j => by rw [List.length_drop, hl]
  have HW : Hid (∀ j, j < n → wd (l.drop j) ≤ n - j) := fun j hj => by
    have := wdl_le (l.drop j) (by rw [List.length_drop]; omega)
    rw [List.length_drop, hl] at this
    exact this
  clear hG hb hT hl
  go_enter Tryz.func108, Tryz.ntmps108
  go_wp2
  go_loopw [3] (fun i wr => ∃ j f : Nat, j ≤ n ∧ i = .int .i64 (j : Int) ∧ Hid (n - j ≤ f) ∧ Hid (j + goodF f (l.drop j) = G) ∧ Below w.heap.size w wr) (fun i _ => n - (intOf i).toNat)
  case atStart => exact ⟨0, n, by omega, rfl, Nat.le_refl _, HG, Below.refl _ _⟩
  case round =>
    clear HG
    obtain ⟨j, f, hj, rfl, HF, HG, bel⟩ := hrel
    by_cases hjn : j < n
    · have hjn' : (j : Int) < (n : Int) := by omega
      have s1 := sl_from (some ⟨b, off, none⟩) n cap j (j : Int) rfl hj
      have s2 := sl_from' (some ⟨b, off, none⟩) n cap j (j : Int) rfl hj
      have eA : from23 (some ⟨b, off, none⟩) cap j = some ⟨b, off + j, none⟩ := by
        unfold from23
        rw [if_neg (by omega)]
        simp [Addr.add_mid]
      rw [eA] at s1 s2
      have D := Hid.mk' (decode_any b (off + j) (n - j) (cap - j) (l.drop j) wr (HZ.out j) (by omega) (by
        have h1 := byt_from (byt_below HB.out bel) cap j (by rw [HL.out]; exact hcap)
        rw [eA] at h1
        exact h1) (HT.out.below bel))
      have wle := HW.out j hjn
      have wdd := wd_dec (l.drop j)
      have hpos := decL_pos (l.drop j)
      generalize Lib.decodeL (l.drop j) = d at *
      obtain ⟨d1, d2⟩ := d
      simp only at wdd D hpos
      clear eA
      generalize hnj : n - j = nj at *
      generalize cap - j = cj at *
      have HB2 := Hid.mk' bel
      by_cases hbad : d1 = 65533 ∧ d2 = 1
      · rw [if_pos hbad] at wdd
        have e0 : j = G := by rw [← HG.out, goodF_stop f (l.drop j) wdd]; rfl
        obtain ⟨rfl, rfl⟩ := hbad
        subst e0
        clear HG wdd bel
        go_wp2_with fail
        refine D.out.mono ?_
        rintro e w2 ⟨rfl, b2⟩
        have HB3 := Hid.mk' (HB2.out.trans (b2.mono (HB2.out.size)))
        clear b2
        go_wp2
        go_ret
        exact ⟨rfl, HB3.out⟩
      · rw [if_neg hbad] at wdd
        rw [wdd] at wle
        have HG2 : Hid (j + d2 + goodF (f - 1) (l.drop (j + d2)) = G) := by
          show _ = _
          have h1 := HG.out
          rw [goodF_on f (l.drop j) (by rw [HZ.out]; omega) (by rw [HZ.out]; have := HF.out; omega) (by omega), wdd, List.drop_drop] at h1
          omega
        have HF2 : Hid (n - (j + d2) ≤ f - 1) := by
          show _ ≤ _
          have := HF.out
          omega
        clear wdd HG HF bel
        by_cases h65 : d1 = 65533
        · have hd1 : ¬ d2 = 1 := fun h => hbad ⟨h65, h⟩
          have hd1' : ¬ (d2 : Int) = 1 := by omega
          subst h65
          clear hbad
          go_wp2_with fail
          refine D.out.mono ?_
          rintro e w2 ⟨rfl, b2⟩
          have HB3 := Hid.mk' (HB2.out.trans (b2.mono (HB2.out.size)))
          clear b2
          go_wp2
          exact ⟨⟨j + d2, f - 1, by omega, by go_num, HF2, HG2, HB3.out⟩, by simp [intOf]; omega⟩
        · have hd1' : ¬ (d1 : Int) = 65533 := by omega
          clear hbad
          go_wp2_with fail
          refine D.out.mono ?_
          rintro e w2 ⟨rfl, b2⟩
          have HB3 := Hid.mk' (HB2.out.trans (b2.mono (HB2.out.size)))
          clear b2
          go_wp2
          exact ⟨⟨j + d2, f - 1, by omega, by go_num, HF2, HG2, HB3.out⟩, by simp [intOf]; omega⟩
    · have e0 : j = G := by
        rw [← HG.out, goodF_end f (l.drop j) (by rw [HZ.out]; omega)]
        rfl
      have hjn' : ¬ (j : Int) < (n : Int) := by omega
      subst e0
      have HB3 := Hid.mk' bel
      clear HG bel
      go_wp2
      go_ret
      exact ⟨rfl, HB3.out⟩

set_option maxRecDepth 100000 in
set_option maxHeartbeats 1000000 in
theorem wrong_any (s : ByteArray) (w : World) (hs : s.size ≤ 140737488355328) :
    Calls Tryz.prog 119 #[.string s] w fun e w' => e = .returned (.int .i64 (good s.data.toList : Int)) ∧ w' = w := by
  have hl : s.data.toList.length = s.size := by simp
  obtain ⟨G, hG⟩ : ∃ G, good s.data.toList = G := ⟨_, rfl⟩
  rw [hG]
  have HG : Hid (0 + goodF s.size (s.data.toList.drop 0) = G) := by
    show _ = _
    rw [← hG, ← hl]
    simp [good]
  have HZ : Hid (∀ j, (s.data.toList.drop j).length = s.size - j) := fun j => by rw [List.length_drop, hl]
  have HW : Hid (∀ j, j < s.size → wd (s.data.toList.drop j) ≤ s.size - j) := fun j hj => by
    have := wdl_le (s.data.toList.drop j) (by rw [List.length_drop]; omega)
    rw [List.length_drop, hl] at this
    exact this
  clear hG hl
  go_enter Tryz.func119, Tryz.ntmps119
  go_wp2
  go_loopw [3] (fun i wr => ∃ j f : Nat, j ≤ s.size ∧ i = .int .i64 (j : Int) ∧ Hid (s.size - j ≤ f) ∧ Hid (j + goodF f (s.data.toList.drop j) = G) ∧ wr = w) (fun i _ => s.size - (intOf i).toNat)
  case atStart => exact ⟨0, s.size, by omega, rfl, Nat.le_refl _, HG, rfl⟩
  case round =>
    clear HG
    obtain ⟨j, f, hj, rfl, HF, HG, rfl⟩ := hrel
    by_cases hjn : j < s.size
    · have hjn' : (j : Int) < (s.size : Int) := by omega
      have D := Hid.mk' (fun wx => seq_any s j wx hjn hs)
      have wle := HW.out j hjn
      by_cases hz : wd (s.data.toList.drop j) = 0
      · have e0 : j = G := by rw [← HG.out, goodF_stop f _ hz]; rfl
        rw [hz] at D
        subst e0
        clear HG hz wle
        go_wp2_with fail
        refine (D.out _).mono ?_
        rintro e _ ⟨rfl, rfl⟩
        go_wp2
        go_ret
        exact ⟨rfl, rfl⟩
      · have h1 := HG.out
        rw [goodF_on f _ (by rw [HZ.out]; omega) (by rw [HZ.out]; have := HF.out; omega) hz, List.drop_drop] at h1
        have hF := HF.out
        generalize wd (s.data.toList.drop j) = d2 at *
        have HG2 : Hid (j + d2 + goodF (f - 1) (s.data.toList.drop (j + d2)) = G) := by
          show _ = _
          omega
        have HF2 : Hid (s.size - (j + d2) ≤ f - 1) := by
          show _ ≤ _
          omega
        have hd1' : ¬ (d2 : Int) = 0 := by omega
        clear h1 HG HF hF
        go_wp2_with fail
        refine (D.out _).mono ?_
        rintro e w2 ⟨rfl, rfl⟩
        go_wp2
        exact ⟨⟨j + d2, f - 1, by omega, by go_num, HF2, HG2, by trivial⟩, by simp [intOf]; omega⟩
    · have e0 : s.size = G := by
        rw [← HG.out, goodF_end f _ (by rw [HZ.out]; omega)]
        omega
      have hjn' : ¬ (j : Int) < (s.size : Int) := by omega
      have HE := Hid.mk' e0
      clear HG e0
      go_wp2
      go_ret
      exact ⟨ret_int (by rw [HE.out]), rfl⟩
end Go.Proofs.YtgiblfhajiakgaaGreatDoor.K

namespace Go.Proofs.YtgiblfhajiakgaaGreatDoor.K
open Go.RowKit Go.Shelf
set_option linter.unusedVariables false
set_option linter.unusedSimpArgs false
namespace V

def laysValid_ren : Go.Shelf.Ren := ⟨fun | 196 => 101 | 259 => 129 | n => n, fun | 9 => 9 | 4 => 4 | 3 => 3 | 5 => 5 | 12 => 12 | 119 => 193 | 0 => 0 | 46 => 121 | 139 => 196 | 138 => 195 | 53 => 33 | n => n, fun | 3 => 0 | 4 => 1 | n => n⟩
theorem laysValid : Lays.n196 Tryz.prog laysValid_ren := {
  mixed := by kernel_rfl
  f196 := Tryz.func101.trans (congrArg some (by kernel_rfl))
  f259 := Tryz.func129.trans (congrArg some (by kernel_rfl))
  t0 := Tryz.underlying0
  a0 := Tryz.isAgg0
  z0 := Tryz.sizeOf0
  v0 := Tryz.zeroValue0
  t3 := Tryz.underlying3
  a3 := Tryz.isAgg3
  z3 := Tryz.sizeOf3
  v3 := Tryz.zeroValue3
  t4 := Tryz.underlying4
  a4 := Tryz.isAgg4
  z4 := Tryz.sizeOf4
  v4 := Tryz.zeroValue4
  t5 := Tryz.underlying5
  a5 := Tryz.isAgg5
  z5 := Tryz.sizeOf5
  v5 := Tryz.zeroValue5
  t9 := Tryz.underlying9
  a9 := Tryz.isAgg9
  z9 := Tryz.sizeOf9
  v9 := Tryz.zeroValue9
  t12 := Tryz.underlying12
  a12 := Tryz.isAgg12
  z12 := Tryz.sizeOf12
  v12 := Tryz.zeroValue12
  t46 := Tryz.underlying121
  a46 := Tryz.isAgg121
  z46 := Tryz.sizeOf121
  v46 := Tryz.zeroValue121
  t53 := Tryz.underlying33
  a53 := Tryz.isAgg33
  z53 := Tryz.sizeOf33
  v53 := Tryz.zeroValue33
  t119 := Tryz.underlying193
  a119 := Tryz.isAgg193
  z119 := Tryz.sizeOf193
  t138 := Tryz.underlying195
  a138 := Tryz.isAgg195
  z138 := Tryz.sizeOf195
  v138 := Tryz.zeroValue195
  t139 := Tryz.underlying196
  a139 := Tryz.isAgg196
  z139 := Tryz.sizeOf196
  v139 := Tryz.zeroValue196
  g3 := by kernel_rfl
  g4 := by kernel_rfl }

theorem valid_any (s : ByteArray) (w : World) (hs : s.size ≤ 9223372036854775807) (hT : Tabs w) :
    Calls Tryz.prog 101 #[.string s] w fun e w' => e = .returned (.bool (Lib.validD s.data.toList)) ∧ Below w.heap.size w w' :=
  Any.utf8_ValidString laysValid s w hs hT
end V
end Go.Proofs.YtgiblfhajiakgaaGreatDoor.K

namespace Go.Proofs.YtgiblfhajiakgaaGreatDoor.K
open Go.RowKit
set_option linter.unusedVariables false
set_option linter.unusedSimpArgs false

variable {p : Nat} {g : Option Nat} {M : List UInt8} {e : Int}
/-- []byte of a text, as a step of a Writer's world. -/
theorem conv_sep (s : ByteArray) {T : TypeId} (w : World) (hw : WS w T p g M e) : ∃ cap C fr, (convert 9 25 (.string s)).run Tryz.prog w = .ok (.slice (some ⟨w.heap.size, 0, none⟩) s.size cap) (w.drew.alloc (.cells C 5 fr)) ∧ Byt (w.drew.alloc (.cells C 5 fr)) (some ⟨w.heap.size, 0, none⟩) s.data.toList ∧ WS (w.drew.alloc (.cells C 5 fr)) T p g M e ∧ Below w.heap.size w (w.drew.alloc (.cells C 5 fr)) ∧ w.heap.size ≠ p ∧ some w.heap.size ≠ g ∧ w.heap.size < (w.drew.alloc (.cells C 5 fr)).heap.size := by
  obtain ⟨cap, C, fr, h1, h2⟩ := conv_str s w
  have hb : Below w.heap.size w (w.drew.alloc (.cells C 5 fr)) := (below_drewN (Below.refl w.heap.size w) 1).alloc (by show w.heap.size ≤ w.heap.size; omega) _
  have hl : s.data.toList.length = s.size := by simp
  refine ⟨cap, C, fr, h1, .inr ⟨w.heap.size, 0, rfl, fun j hj => ?_⟩, hw.below hb, hb, by have := hw.lt; omega, fun h => by have := hw.glt h.symm; omega, by show w.heap.size < (w.heap.push _).size; simp⟩
  have hg : (w.drew.alloc (.cells C 5 fr)).heap[w.heap.size]? = some (.cells C 5 fr) := by
    show (w.heap.push (.cells C 5 fr))[w.heap.size]? = _
    simp
  rw [Nat.zero_add, cell_of_row _ w.heap.size j C 5 fr hg]
  exact h2 j (by omega)
set_option maxRecDepth 100000 in
set_option maxHeartbeats 1000000 in
theorem wtext_any (s : ByteArray) (hs : s.size ≤ 140737488355328) (hv : Lib.validD s.data.toList = true) (w : World) (hw : WS w 28 p g M e) (hT : Tabs w) (hsum : M.length + 64 + s.size ≤ 140737488355328) :
    Calls Tryz.prog 28 #[.pointer (some ⟨p, 0, none⟩), .string s] w fun x w' => x = .returned (.tuple #[]) ∧ Wr w w' 28 p g (wA M e (vint s.size ++ s.data.toList)) e := by
  have HV := Hid.mk' (V.valid_any s w (by omega) hT)
  rw [hv] at HV
  have hl : s.data.toList.length = s.size := by simp
  have HW := Hid.mk' hw
  clear hw hT hv
  go_enter Tryz.func28, Tryz.ntmps28
  go_wp2_with fail
  refine HV.out.mono ?_
  rintro x w1 ⟨rfl, b1⟩
  obtain ⟨cap, C, fr, hcv, hby, ws, hbl, n1, n2, n3⟩ := conv_sep s w1 (HW.out.below b1)
  have H := Hid.mk' ((wraw_any s.data.toList (some ⟨w1.heap.size, 0, none⟩) s.size cap _ ws hl hby (fun ad h => by cases h; exact ⟨n1, n2⟩) (fun ad h => by cases h; exact n3) (by rw [hl]; exact hsum)).mono fun x w' h => And.intro h.1 (Wr.pre b1 (Wr.pre hbl h.2)))
  clear b1 hby ws hbl n1 n2 n3 HW HV hl
  go_wp2_with fail
  refine H.out.mono ?_
  rintro x w2 ⟨rfl, a2⟩
  have A2 := Hid.mk' a2
  clear a2 hcv
  go_wp2
  go_end0
  exact ⟨rfl, A2.out⟩
end Go.Proofs.YtgiblfhajiakgaaGreatDoor.K

namespace Go.Proofs.YtgiblfhajiakgaaGreatDoor.K
open Go.RowKit
set_option linter.unusedVariables false
set_option linter.unusedSimpArgs false

set_option maxRecDepth 100000 in
set_option maxHeartbeats 1000000 in
theorem ntext (s : ByteArray) (hs : s.size ≤ 140737488355328) (w : World) (hT : Tabs w) :
    Calls Tryz.prog 28 #[.pointer none, .string s] w fun x w' => x = .returned (.tuple #[]) ∧ Below w.heap.size w w' := by
  have HV := Hid.mk' (V.valid_any s w (by omega) hT)
  have HR := Hid.mk' (fun a cap (w : World) => nraw a s.size cap (by omega) w)
  clear hT
  by_cases hv : Lib.validD s.data.toList = true
  · rw [hv] at HV
    go_enter Tryz.func28, Tryz.ntmps28
    go_wp2_with fail
    refine HV.out.mono ?_
    rintro x w1 ⟨rfl, b1⟩
    obtain ⟨cap, C, fr, hcv, _⟩ := conv_str s w1
    have b2 : Below w1.heap.size w1 (w1.drew.alloc (.cells C 5 fr)) := (below_drewN (Below.refl w1.heap.size w1) 1).alloc (by show w1.heap.size ≤ w1.heap.size; omega) _
    have B2 := Hid.mk' (b1.trans (b2.mono b1.size))
    clear b1 b2 HV
    go_wp2_with fail
    refine (HR.out _ _ _).mono ?_
    rintro x w2 ⟨rfl, a2⟩
    have A2 := Hid.mk' (B2.out.trans (a2.mono B2.out.size))
    clear a2 hcv
    go_wp2
    go_end0
    exact ⟨rfl, A2.out⟩
  · have hv : Lib.validD s.data.toList = false := by simpa using hv
    rw [hv] at HV
    go_enter Tryz.func28, Tryz.ntmps28
    go_wp2_with fail
    refine HV.out.mono ?_
    rintro x w1 ⟨rfl, b1⟩
    go_wp2_with fail
    refine (nfail _ _).mono ?_
    rintro x w2 ⟨rfl, hw2⟩
    subst hw2
    go_wp2
    exact bodyPost_ret (results_none Tryz.results28 _ _ _) rfl ⟨rfl, b1⟩
end Go.Proofs.YtgiblfhajiakgaaGreatDoor.K

namespace Go.Proofs.YtgiblfhajiakgaaGreatDoor.K
open Go.RowKit
set_option linter.unusedVariables false
set_option linter.unusedSimpArgs false

variable {p : Nat} {g : Option Nat} {M : List UInt8} {e : Int}
theorem WS.view {w : World} {T : TypeId} (h : WS w T p g M e) : ∃ a cv, w.cell? ⟨p, 0, none⟩ = some (.slice a M.length cv) ∧ w.cell? ⟨p, 1, none⟩ = some (.int .i64 e) ∧ Byt w a M ∧ (a = none ∧ M = [] ∧ cv = 0 ∨ ∃ b, a = some ⟨b, 0, none⟩) := by
  obtain ⟨v, hq, own, hg⟩ := h.ex
  have c0 := (cell_of_row w p 0 _ _ _ hq).trans (show (#[v, .int .i64 e] : Array Value)[0]? = some v from rfl)
  have c1 := (cell_of_row w p 1 _ _ _ hq).trans (show (#[v, .int .i64 e] : Array Value)[1]? = some (.int .i64 e) from rfl)
  obtain ⟨a, cv, rfl, h1, h2, h3⟩ := own.open
  refine ⟨a, cv, c0, c1, h2, ?_⟩
  rcases own.2 with ⟨hv, hn⟩ | ⟨gg, cap, cur, hv, _⟩
  · simp only [Value.slice.injEq] at hv
    exact .inl ⟨hv.1, List.eq_nil_of_length_eq_zero hn, hv.2.2⟩
  · simp only [Value.slice.injEq] at hv
    exact .inr ⟨_, hv.1⟩
set_option maxRecDepth 100000 in
set_option maxHeartbeats 1000000 in
/-- Done, where there is no error and something was written. -/
theorem wdone0 (w : World) (hw : WS w 28 p g M 0) (hM : 0 < M.length) (hl : M.length ≤ 140737488355328) :
    Calls Tryz.prog 11 #[.pointer (some ⟨p, 0, none⟩)] w fun x w' => ∃ b cv, x = .returned (.tuple #[.slice (some ⟨b, 0, none⟩) M.length cv, .int .i64 0]) ∧ OwnB w' w.heap.size (.slice (some ⟨b, 0, none⟩) M.length cv) M ∧ Below w.heap.size w w' := by
  obtain ⟨a, cv, c0, c1, hb, ha⟩ := hw.view
  clear hw
  rcases ha with ⟨rfl, rfl, rfl⟩ | ⟨b, rfl⟩
  · simp at hM
  · have HC : Hid (Calls Tryz.prog 54 #[.slice (some ⟨b, 0, none⟩) M.length cv] w fun x w' => ∃ b cv, x = .returned (.slice (some ⟨b, 0, none⟩) M.length cv) ∧ OwnB w' w.heap.size (.slice (some ⟨b, 0, none⟩) M.length cv) M ∧ Below w.heap.size w w') := (clone_any b 0 M.length cv M w rfl hl hb).mono fun x w' h => by
      obtain ⟨v, h1, h2, h3⟩ := h
      obtain ⟨g, cap, rfl, _⟩ := h2.open1 hM
      exact ⟨g, cap, h1, h2, h3⟩
    clear hb hl
    generalize M.length = n at *
    go_enter Tryz.func11, Tryz.ntmps11
    go_wp2_with fail
    refine HC.out.mono ?_
    rintro x w1 ⟨b1, cv1, rfl, h2, h3⟩
    have H2 : Hid (OwnB w1 w.heap.size (.slice (some ⟨b1, 0, none⟩) n cv1) M) := h2
    have H3 : Hid (Below w.heap.size w w1) := h3
    clear h2 h3
    go_wp2
    go_ret2
    exact ⟨_, _, rfl, H2.out, H3.out⟩

theorem rd_of_own {w : World} {T : TypeId} {v : Value} {l : List UInt8} {base : Nat} (own : OwnB w base v l) (hl : l.length ≤ 140737488351232) :
    ∃ a cap, v = .slice a l.length cap ∧ RD (w.alloc (.cells #[.slice a l.length cap, .int .i64 0, .int .i64 0, .int .i64 0] T)) T w.heap.size a cap l ⟨0, 0, 0⟩ ∧ (∀ ad, a = some ad → base ≤ ad.block ∧ ad.block < w.heap.size) := by
  have hop : ∃ a cap, v = .slice a l.length cap ∧ l.length ≤ cap ∧ Byt w a l ∧ (∀ ad, a = some ad → ad.spot = none ∧ base ≤ ad.block ∧ ad.block < w.heap.size) := by
    rcases own.2 with ⟨rfl, hn⟩ | ⟨g, cap, cur, rfl, hbg, hg, hnc, hcm, hcs, htake⟩
    · obtain rfl : l = [] := List.eq_nil_of_length_eq_zero hn
      exact ⟨none, 0, rfl, Nat.le_refl _, .inl rfl, fun _ e => by cases e⟩
    · obtain ⟨a', cap', e, hc, hb, _⟩ := own.open
      cases e
      exact ⟨_, _, rfl, hc, hb, fun ad e => by cases e; exact ⟨rfl, hbg, (Array.getElem?_eq_some_iff.1 hg).1⟩⟩
  obtain ⟨a, cap, rfl, hcap, hb, hp⟩ := hop
  refine ⟨a, cap, rfl, ⟨heap_alloc_new _ _, hcap, byt_below hb ((Below.refl _ _).alloc (Nat.le_refl _) _), fun ad e => ⟨(hp ad e).1, by have := (hp ad e).2.2; omega⟩, Nat.zero_le _, hl⟩, fun ad e => (hp ad e).2⟩
set_option maxRecDepth 100000 in
set_option maxHeartbeats 1000000 in
theorem new_any (b off n cap : Nat) (l : List UInt8) (w : World) (hl : l.length = n) (hn : n ≤ 140737488351232) (hb : Byt w (some ⟨b, off, none⟩) l) :
    Calls Tryz.prog 18 #[.slice (some ⟨b, off, none⟩) n cap] w fun e w' => ∃ r a c, e = .returned (.pointer (some ⟨r, 0, none⟩)) ∧ RD w' 108 r a c l ⟨0, 0, 0⟩ ∧ w.heap.size ≤ r ∧ Below w.heap.size w w' := by
  have HC : Hid (Calls Tryz.prog 54 #[.slice (some ⟨b, off, none⟩) n cap] w fun e w' => ∃ v, e = .returned v ∧ OwnB w' w.heap.size v l ∧ Below w.heap.size w w') := clone_any b off n cap l w hl (by omega) hb
  clear hb
  go_enter Tryz.func18, Tryz.ntmps18
  go_wp2_with fail
  refine HC.out.mono ?_
  rintro e w1 ⟨v, rfl, own, b1⟩
  obtain ⟨a, c, rfl, rd, hp⟩ := rd_of_own (w := w1) (T := 108) own (by omega)
  have z1 := b1.size
  have HRD : Hid (RD (w1.alloc (.cells #[.slice a l.length c, .int .i64 0, .int .i64 0, .int .i64 0] 108)) 108 w1.heap.size a c l ⟨0, 0, 0⟩) := rd
  have B2 : Hid (Below w.heap.size w (w1.alloc (.cells #[.slice a l.length c, .int .i64 0, .int .i64 0, .int .i64 0] 108))) := b1.alloc (by omega) (.cells #[.slice a l.length c, .int .i64 0, .int .i64 0, .int .i64 0] 108)
  rw [hl] at HRD B2
  clear own rd hp b1
  go_wp2
  go_ret
  exact ⟨_, a, c, rfl, HRD.out, z1, B2.out⟩

/-- A number is read as it was written. -/
theorem num_vint (len k : Nat) (t : List UInt8) : ∀ (f v i acc : Nat), v ≤ f → v * 2 ^ (7 * i) < 2 ^ 63 → (0 < i → 0 < v) → numL len k (vint v ++ t) i acc = ⟨acc + v * 2 ^ (7 * i), i + (vint v).length, 0, len⟩ := by
  intro f
  induction f with
  | zero =>
    intro v i acc hf hv h0
    obtain rfl : v = 0 := by omega
    have hi : i = 0 := by omega
    subst hi
    rw [vint_lt (by omega)]
    simp [numL]
  | succ f ih =>
    intro v i acc hf hv h0
    have h9 : i = 9 → v = 0 := fun e => by
      subst e
      have : v * 2 ^ 63 < 1 * 2 ^ 63 := by simpa using hv
      have := Nat.lt_of_mul_lt_mul_right this
      omega
    by_cases h : v < 128
    · rw [vint_lt h]
      have e1 : (UInt8.ofNat v).toNat = v := by simp; omega
      simp only [List.cons_append, List.nil_append, numL, e1]
      rw [if_neg (by omega), if_pos h]
      simp
    · rw [vint_ge h]
      have e1 : (UInt8.ofNat (v % 128 + 128)).toNat = v % 128 + 128 := by simp; omega
      simp only [List.cons_append, numL, e1]
      rw [if_neg (by omega), if_neg (by omega), ih (v / 128) (i + 1) _ (by omega) ?_ (fun _ => by omega)]
      · have e2 : 2 ^ (7 * (i + 1)) = 128 * 2 ^ (7 * i) := by rw [Nat.mul_add, Nat.pow_add]; omega
        have e3 : v * 2 ^ (7 * i) = (v % 128) * 2 ^ (7 * i) + v / 128 * (128 * 2 ^ (7 * i)) := by
          rw [← Nat.mul_assoc, ← Nat.add_mul]
          congr 1
          omega
        rw [e2, e3, Nat.add_sub_cancel]
        simp only [List.length_cons, Num.mk.injEq, and_true]
        exact ⟨by omega, by omega⟩
      · have e2 : 2 ^ (7 * (i + 1)) = 128 * 2 ^ (7 * i) := by rw [Nat.mul_add, Nat.pow_add]; omega
        rw [e2, ← Nat.mul_assoc]
        exact Nat.lt_of_le_of_lt (Nat.mul_le_mul_right _ (by omega)) hv
theorem num_front (v : Nat) (hv : v ≤ 4398046510976) (t : List UInt8) : num (vint v ++ t) 0 = ⟨v, (vint v).length, 0, (vint v ++ t).length⟩ := by
  unfold num
  rw [List.drop_zero, num_vint _ _ t v v 0 0 (Nat.le_refl _) (by simp; omega) (by omega)]
  simp
end Go.Proofs.YtgiblfhajiakgaaGreatDoor.K

namespace Go.Proofs.YtgiblfhajiakgaaGreatDoor.K
open Go.RowKit
set_option linter.unusedVariables false
set_option linter.unusedSimpArgs false

def rText (L : List UInt8) (most : Nat) (s : St) : List UInt8 × St :=
  if s.bad = 0 then (match rCnt L most s with | (some (n, hd), _) => (if good (cut L (s.k + hd) n) < n then ([], ⟨s.k, 21, (s.k : Int) + (hd : Int) + (good (cut L (s.k + hd) n) : Int)⟩) else (cut L (s.k + hd) n, ⟨s.k + hd + n, s.bad, s.wh⟩)) | (none, s') => ([], s')) else ([], s)
variable {T : TypeId} {r cap : Nat} {a : Option Addr} {L : List UInt8} {s : St}
set_option maxRecDepth 100000 in
set_option maxHeartbeats 2000000 in
theorem text_any (most : Nat) (hm : most ≤ 9223372036854775807) (w : World) (h : RD w T r a cap L s) (hT : Tabs w) (hr4 : 0 ≠ r ∧ 1 ≠ r) :
    Calls Tryz.prog 32 #[.pointer (some ⟨r, 0, none⟩), .int .i64 (most : Int)] w fun e w' => e = .returned (.string ⟨(rText L most s).1.toArray⟩) ∧ On w w' T r a cap L (rText L most s).2 := by
  have HS : Hid (Calls Tryz.prog 104 #[.pointer (some ⟨r, 0, none⟩)] w fun e w' => e = .returned (.bool (decide (s.bad ≠ 0))) ∧ w' = w) := stopped_any w h
  by_cases hb : s.bad = 0
  · have HS' : Hid (Calls Tryz.prog 104 #[.pointer (some ⟨r, 0, none⟩)] w fun e w' => e = .returned (.bool false) ∧ w' = w) := by have := HS.out; rw [show decide (s.bad ≠ 0) = false by simp [hb]] at this; exact this
    clear HS
    rcases hq : rCnt L most s with ⟨_ | ⟨n, hd⟩, s'⟩
    · have hE : rText L most s = ([], s') := by unfold rText; rw [if_pos hb, hq]
      rw [hE]
      have HC := Hid.mk' (counted_none most hm w h hb s' hq)
      clear h hE hq
      go_enter Tryz.func32, Tryz.ntmps32
      go_wp2_with fail
      refine HS'.out.mono ?_
      rintro e w1 ⟨rfl, hw1⟩
      subst hw1
      go_wp2_with fail
      refine HC.out.mono ?_
      rintro e w2 ⟨rfl, ho⟩
      have HO := Hid.mk' ho
      clear ho
      go_wp2
      go_ret
      exact ⟨rfl, HO.out⟩
    · have hE : rText L most s = (if good (cut L (s.k + hd) n) < n then ([], ⟨s.k, 21, (s.k : Int) + (hd : Int) + (good (cut L (s.k + hd) n) : Int)⟩) else (cut L (s.k + hd) n, ⟨s.k + hd + n, s.bad, s.wh⟩)) := by unfold rText; rw [if_pos hb, hq]
      rw [hE]
      obtain ⟨rfl, h1, h2, h3⟩ := rCnt_some hq h.at_le
      have HC := Hid.mk' (counted_some most hm w h hb n hd hq)
      obtain ⟨b, off, eA⟩ := h.some (by omega) (s'.k + hd)
      have hf := h.few
      have hroom := h.room
      rw [eA] at HC
      have HCut := Hid.mk' (fun (wx : World) (s2 : St) (hx : On w wx T r a cap L s2) => hx.1.cut (s'.k + hd) n)
      rw [eA] at HCut
      have hlen := cut_len L (s'.k + hd) n (by omega)
      have hgle : good (cut L (s'.k + hd) n) ≤ n := by have := goodF_le (cut L (s'.k + hd) n).length (cut L (s'.k + hd) n); rw [hlen] at this; unfold good; rw [hlen]; exact this
      have HGT := Hid.mk' (fun (wx : World) (hx : On w wx T r a cap L s') => goodText_any b off n (cap - (s'.k + hd)) (cut L (s'.k + hd) n) wx hlen (by omega) (by omega) (HCut.out wx s' hx) (hT.fr hx.2 hr4))
      have HCV := Hid.mk' (fun (wx : World) (s2 : St) (hx : On w wx T r a cap L s2) => byt_string (cap := cap - (s'.k + hd)) hlen (HCut.out wx s2 hx))
      clear h hE hq eA hT hlen HCut hroom
      generalize cap - (s'.k + hd) = c4 at *
      generalize good (cut L (s'.k + hd) n) = g at *
      generalize cut L (s'.k + hd) n = tx at *
      by_cases hg : g < n
      · rw [if_pos hg]
        have hg' : (g : Int) < (n : Int) := by omega
        have HK := Hid.mk' (keep_on (a := a) (cap := cap) (L := L) (T := T) (r := r) w hb 21 ((s'.k : Int) + (hd : Int) + (g : Int)) (by decide))
        have hw1 : IntKind.i64.wrap ((s'.k : Int) + (hd : Int)) = (s'.k : Int) + (hd : Int) := by rw [IntKind.wrap_i64]; omega
        have hw2 : IntKind.i64.wrap ((s'.k : Int) + (hd : Int) + (g : Int)) = (s'.k : Int) + (hd : Int) + (g : Int) := by rw [IntKind.wrap_i64]; omega
        go_enter Tryz.func32, Tryz.ntmps32
        go_wp2_with fail
        refine HS'.out.mono ?_
        rintro e w1 ⟨rfl, hw1⟩
        subst hw1
        go_wp2_with fail
        refine HC.out.mono ?_
        rintro e w2 ⟨rfl, ho⟩
        have HON := Hid.mk' ho
        clear ho
        go_wp2_with fail
        refine (HGT.out _ HON.out).mono ?_
        rintro e w3 ⟨rfl, bl⟩
        have HON2 := Hid.mk' (HON.out.below bl)
        have c1 := HON2.out.1.c1
        clear bl HON
        go_wp2
        go_region_held3 (fun w' => w'.cell? ⟨r, 1, none⟩ = some (.int .i64 (s'.k : Int))) (first | assumption | go_keep) (first
          | (go_at_call 106; refine (HK.out _ ?_).mono ?_; (first | exact HON2.out | exact HON2.out.drew _ | exact (HON2.out.drew _).drew 1); rintro e w4 ⟨rfl, ho⟩; have s1 := ho.1.c1; have HO2 := Hid.mk' ho; clear ho)
          | fail)
        go_wp2
        go_ret
        exact ⟨rfl, HO2.out⟩
      · rw [if_neg hg]
        have hg' : ¬ (g : Int) < (n : Int) := by omega
        go_enter Tryz.func32, Tryz.ntmps32
        go_wp2_with fail
        refine HS'.out.mono ?_
        rintro e w1 ⟨rfl, hw1⟩
        subst hw1
        go_wp2_with fail
        refine HC.out.mono ?_
        rintro e w2 ⟨rfl, ho⟩
        have HON := Hid.mk' ho
        clear ho
        go_wp2_with fail
        refine (HGT.out _ HON.out).mono ?_
        rintro e w3 ⟨rfl, bl⟩
        have HON2 := Hid.mk' (HON.out.below bl)
        have c1 := HON2.out.1.c1
        have f1 := HON2.out.1.fz 1
        have HO2 := Hid.mk' (HON2.out.set1 (s'.k + hd + n) ((s'.k : Int) + ((hd : Int) + (n : Int))) (by omega) (by omega))
        have cv := HCV.out _ _ HO2.out
        clear bl HON
        go_wp2
        go_ret
        exact ⟨rfl, HO2.out⟩
  · have HS' : Hid (Calls Tryz.prog 104 #[.pointer (some ⟨r, 0, none⟩)] w fun e w' => e = .returned (.bool true) ∧ w' = w) := by have := HS.out; rw [show decide (s.bad ≠ 0) = true by simp [hb]] at this; exact this
    have e0 : rText L most s = ([], s) := by unfold rText; rw [if_neg hb]
    rw [e0]
    have HO := Hid.mk' h.on
    clear HS h e0
    go_enter Tryz.func32, Tryz.ntmps32
    go_wp2_with fail
    refine HS'.out.mono ?_
    rintro e w1 ⟨rfl, hw1⟩
    subst hw1
    go_wp2
    go_ret
    exact ⟨rfl, HO.out⟩
end Go.Proofs.YtgiblfhajiakgaaGreatDoor.K

namespace Go.Proofs.YtgiblfhajiakgaaGreatDoor.K
open Go.RowKit
set_option linter.unusedVariables false
set_option linter.unusedSimpArgs false

theorem not64 (x : Nat) (h : x < 9223372036854775808) : wrap64 (bits .xor .u64 IntKind.u64.max (x : Int)) = -(x : Int) - 1 := by
  have e : bits .xor .u64 IntKind.u64.max (x : Int) = ((18446744073709551615 - x : Nat) : Int) := by
    show IntKind.u64.wrap ((BitVec.ofInt 64 IntKind.u64.max ^^^ BitVec.ofInt 64 (x : Int)).toNat : Int) = _
    rw [show BitVec.ofInt 64 IntKind.u64.max = BitVec.allOnes 64 by decide, BitVec.allOnes_xor, BitVec.toNat_not, BitVec.toNat_ofInt, IntKind.wrap_u64]
    omega
  rw [e]
  unfold wrap64
  omega
variable {T : TypeId} {r cap : Nat} {a : Option Addr} {L : List UInt8} {s : St}
set_option maxRecDepth 100000 in
set_option maxHeartbeats 1000000 in
theorem int_any (w : World) (h : RD w T r a cap L s) :
    Calls Tryz.prog 31 #[.pointer (some ⟨r, 0, none⟩)] w fun e w' => e = .returned (.int .i64 (rInt L s).1) ∧ On w w' T r a cap L (rInt L s).2 := by
  have HU := Hid.mk' (uint_any 18446744073709551615 (by decide) w h)
  have hlt := rUint_lt L 18446744073709551615 s h.at_le
  unfold rInt
  generalize rUint L 18446744073709551615 s = u at *
  obtain ⟨n, s'⟩ := u
  simp only at HU hlt ⊢
  clear h
  by_cases h2 : n % 2 = 1
  · have h2' : (n : Int) % 2 = 1 := by omega
    go_enter Tryz.func31, Tryz.ntmps31
    go_wp2_with fail
    refine HU.out.mono ?_
    rintro e w1 ⟨rfl, ho⟩
    have HO := Hid.mk' ho
    clear ho HU
    go_wp2
    go_ret
    exact ⟨ret_int (by unfold unzig; rw [if_pos h2, show (n : Int) / 2 = ((n / 2 : Nat) : Int) by omega]; exact not64 _ (by omega)), HO.out⟩
  · have h2' : (n : Int) % 2 = 0 := by omega
    go_enter Tryz.func31, Tryz.ntmps31
    go_wp2_with fail
    refine HU.out.mono ?_
    rintro e w1 ⟨rfl, ho⟩
    have HO := Hid.mk' ho
    clear ho HU
    go_wp2
    go_ret
    exact ⟨ret_int (by unfold unzig; rw [if_neg h2]; omega), HO.out⟩
end Go.Proofs.YtgiblfhajiakgaaGreatDoor.K

