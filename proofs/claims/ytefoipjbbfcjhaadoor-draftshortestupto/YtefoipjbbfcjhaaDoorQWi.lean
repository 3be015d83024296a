import Derived.Test.YtefoipjbbfcjhaaDoorQTa
namespace Go.Proofs.YtefoipjbbfcjhaaDoor.Q
open Go.RowKit
set_option linter.unusedVariables false
set_option linter.unusedSimpArgs false

/-- How many bytes the character at the front has, of a text that is not empty; 0: none stands there. -/
def wideN (s : ByteArray) : Nat :=
  if by8 s 0 < 128 then 1 else (Lib.checkN s.size (by8 s 1) (by8 s 2) (by8 s 3) (Lib.firstT (by8 s 0) % 8) (Lib.accLo (Lib.firstT (by8 s 0) / 16)) (Lib.accHi (Lib.firstT (by8 s 0) / 16))).getD 0
theorem tail_2 (s : ByteArray) (lo hi : Nat) : (TailP s 2 lo hi → Lib.checkN s.size (by8 s 1) (by8 s 2) (by8 s 3) 2 lo hi = some 2) ∧ (¬ TailP s 2 lo hi → Lib.checkN s.size (by8 s 1) (by8 s 2) (by8 s 3) 2 lo hi = none) := by
  unfold TailP Lib.checkN
  constructor
  · rintro ⟨h1, h2, h3, h4⟩
    rw [if_pos rfl, if_neg (by omega)]
  · intro h
    rw [if_pos rfl, if_pos]
    apply Classical.byContradiction
    intro hc
    exact h ⟨by omega, by omega, by omega, fun i _ _ => by omega⟩
theorem tail_3 (s : ByteArray) (lo hi : Nat) : (TailP s 3 lo hi → Lib.checkN s.size (by8 s 1) (by8 s 2) (by8 s 3) 3 lo hi = some 3) ∧ (¬ TailP s 3 lo hi → Lib.checkN s.size (by8 s 1) (by8 s 2) (by8 s 3) 3 lo hi = none) := by
  unfold TailP Lib.checkN
  constructor
  · rintro ⟨h1, h2, h3, h4⟩
    have := h4 2 (by omega) (by omega)
    rw [if_neg (by omega), if_pos rfl, if_neg (by omega)]
  · intro h
    rw [if_neg (by omega), if_pos rfl, if_pos]
    apply Classical.byContradiction
    intro hc
    refine h ⟨by omega, by omega, by omega, fun i h1 h2 => ?_⟩
    obtain rfl : i = 2 := by omega
    omega
theorem tail_4 (s : ByteArray) (lo hi : Nat) : (TailP s 4 lo hi → Lib.checkN s.size (by8 s 1) (by8 s 2) (by8 s 3) 4 lo hi = some 4) ∧ (¬ TailP s 4 lo hi → Lib.checkN s.size (by8 s 1) (by8 s 2) (by8 s 3) 4 lo hi = none) := by
  unfold TailP Lib.checkN
  constructor
  · rintro ⟨h1, h2, h3, h4⟩
    have := h4 2 (by omega) (by omega)
    have := h4 3 (by omega) (by omega)
    rw [if_neg (by omega), if_neg (by omega), if_pos rfl, if_neg (by omega)]
  · intro h
    rw [if_neg (by omega), if_neg (by omega), if_pos rfl, if_pos]
    apply Classical.byContradiction
    intro hc
    refine h ⟨by omega, by omega, by omega, fun i h1 h2 => ?_⟩
    rcases (show i = 2 ∨ i = 3 by omega) with rfl | rfl <;> omega
theorem tail_true {s : ByteArray} {n lo hi : Nat} (h : TailP s n lo hi) (hn : 2 ≤ n) (hn2 : n ≤ 4) (hlo : lo < 256) (hhi : hi < 256) (w : World) :
    Calls Tryd.prog 26 #[.string s, .int .i64 (n : Int), .int .u8 (lo : Int), .int .u8 (hi : Int)] w fun e w' => e = .returned (.bool true) ∧ w' = w :=
  (tail_any s n lo hi w hn hn2 hlo hhi).mono fun e w' ⟨b, he, hb, hw⟩ => ⟨by rw [he, hb.2 h], hw⟩
theorem tail_false {s : ByteArray} {n lo hi : Nat} (h : ¬ TailP s n lo hi) (hn : 2 ≤ n) (hn2 : n ≤ 4) (hlo : lo < 256) (hhi : hi < 256) (w : World) :
    Calls Tryd.prog 26 #[.string s, .int .i64 (n : Int), .int .u8 (lo : Int), .int .u8 (hi : Int)] w fun e w' => e = .returned (.bool false) ∧ w' = w :=
  (tail_any s n lo hi w hn hn2 hlo hhi).mono fun e w' ⟨b, he, hb, hw⟩ => ⟨by rw [he]; cases b with | false => rfl | true => exact absurd (hb.1 rfl) h, hw⟩
theorem not_empty (s : ByteArray) (h : 0 < s.size) : s.toList.isEmpty = false := by
  rw [ByteArray.toList_eq]
  cases hq : s.data.toList with
  | nil =>
    have : s.data.toList.length = s.size := by simp
    rw [hq] at this
    simp at this
    omega
  | cons => rfl

set_option maxRecDepth 100000 in
set_option maxHeartbeats 1000000 in
theorem wide_asc (s : ByteArray) (w : World) (h0 : 0 < s.size) (hc : by8 s 0 < 128) :
    Calls Tryd.prog 22 #[.string s] w fun e w' => e = .returned (.int .i64 1) ∧ w' = w := by
  have hne := not_empty s h0
  have i0 := index_str s 0 w h0
  simp only [Int.cast_ofNat_Int] at i0
  have c128 : (by8 s 0 : Int) < 128 := by omega
  go_enter Tryd.func22, Tryd.ntmps22
  go_wp2
  go_ret
  exact ⟨rfl, rfl⟩

set_option maxRecDepth 100000 in
set_option maxHeartbeats 1000000 in
theorem wide_lo (s : ByteArray) (w : World) (c : Nat) (h0 : 0 < s.size) (hc : by8 s 0 = c) (ha : 128 ≤ c) (hb : c ≤ 193) :
    Calls Tryd.prog 22 #[.string s] w fun e w' => e = .returned (.int .i64 0) ∧ w' = w := by
  have hne := not_empty s h0
  have i0 := index_str s 0 w h0
  simp only [Int.cast_ofNat_Int] at i0
  rw [hc] at i0
  have c128 : ¬ ((c : Int) < 128) := by omega
  have g194 : ¬ (194 ≤ (c : Int)) := by omega
  have l223 : ((c : Int) ≤ 223) := by omega
  have e224 : ¬ ((c : Int) = 224) := by omega
  have g225 : ¬ (225 ≤ (c : Int)) := by omega
  have l239 : ((c : Int) ≤ 239) := by omega
  have e237 : ¬ ((c : Int) = 237) := by omega
  have e240 : ¬ ((c : Int) = 240) := by omega
  have g241 : ¬ (241 ≤ (c : Int)) := by omega
  have l243 : ((c : Int) ≤ 243) := by omega
  have e244 : ¬ ((c : Int) = 244) := by omega
  clear hc ha hb h0
  go_enter Tryd.func22, Tryd.ntmps22
  go_wp2
  go_ret
  exact ⟨rfl, rfl⟩

set_option maxRecDepth 100000 in
set_option maxHeartbeats 1000000 in
theorem wide_two_t (s : ByteArray) (w : World) (c : Nat) (h0 : 0 < s.size) (hc : by8 s 0 = c) (ha : 194 ≤ c) (hb : c ≤ 223) (hT : TailP s 2 128 191) :
    Calls Tryd.prog 22 #[.string s] w fun e w' => e = .returned (.int .i64 2) ∧ w' = w := by
  have hne := not_empty s h0
  have i0 := index_str s 0 w h0
  simp only [Int.cast_ofNat_Int] at i0
  rw [hc] at i0
  have c128 : ¬ ((c : Int) < 128) := by omega
  have g194 : (194 ≤ (c : Int)) := by omega
  have l223 : ((c : Int) ≤ 223) := by omega
  have e224 : ¬ ((c : Int) = 224) := by omega
  have g225 : ¬ (225 ≤ (c : Int)) := by omega
  have l239 : ((c : Int) ≤ 239) := by omega
  have e237 : ¬ ((c : Int) = 237) := by omega
  have e240 : ¬ ((c : Int) = 240) := by omega
  have g241 : ¬ (241 ≤ (c : Int)) := by omega
  have l243 : ((c : Int) ≤ 243) := by omega
  have e244 : ¬ ((c : Int) = 244) := by omega
  have T : Hid (∀ wx, Calls Tryd.prog 26 #[.string s, .int .i64 2, .int .u8 128, .int .u8 191] wx fun e w' => e = .returned (.bool true) ∧ w' = wx) := fun wx => tail_true hT (by omega) (by omega) (by omega) (by omega) wx
  clear hT
  clear hc ha hb h0
  go_enter Tryd.func22, Tryd.ntmps22
  go_wp2_with (first | (go_at_call 26; refine (T.out _).mono ?_; rintro e _ ⟨rfl, rfl⟩) | fail)
  go_ret
  exact ⟨rfl, rfl⟩

set_option maxRecDepth 100000 in
set_option maxHeartbeats 1000000 in
theorem wide_two_f (s : ByteArray) (w : World) (c : Nat) (h0 : 0 < s.size) (hc : by8 s 0 = c) (ha : 194 ≤ c) (hb : c ≤ 223) (hT : ¬ TailP s 2 128 191) :
    Calls Tryd.prog 22 #[.string s] w fun e w' => e = .returned (.int .i64 0) ∧ w' = w := by
  have hne := not_empty s h0
  have i0 := index_str s 0 w h0
  simp only [Int.cast_ofNat_Int] at i0
  rw [hc] at i0
  have c128 : ¬ ((c : Int) < 128) := by omega
  have g194 : (194 ≤ (c : Int)) := by omega
  have l223 : ((c : Int) ≤ 223) := by omega
  have e224 : ¬ ((c : Int) = 224) := by omega
  have g225 : ¬ (225 ≤ (c : Int)) := by omega
  have l239 : ((c : Int) ≤ 239) := by omega
  have e237 : ¬ ((c : Int) = 237) := by omega
  have e240 : ¬ ((c : Int) = 240) := by omega
  have g241 : ¬ (241 ≤ (c : Int)) := by omega
  have l243 : ((c : Int) ≤ 243) := by omega
  have e244 : ¬ ((c : Int) = 244) := by omega
  have T : Hid (∀ wx, Calls Tryd.prog 26 #[.string s, .int .i64 2, .int .u8 128, .int .u8 191] wx fun e w' => e = .returned (.bool false) ∧ w' = wx) := fun wx => tail_false hT (by omega) (by omega) (by omega) (by omega) wx
  clear hT
  clear hc ha hb h0
  go_enter Tryd.func22, Tryd.ntmps22
  go_wp2_with (first | (go_at_call 26; refine (T.out _).mono ?_; rintro e _ ⟨rfl, rfl⟩) | fail)
  go_ret
  exact ⟨rfl, rfl⟩

set_option maxRecDepth 100000 in
set_option maxHeartbeats 1000000 in
theorem wide_e0_t (s : ByteArray) (w : World) (c : Nat) (h0 : 0 < s.size) (hc : by8 s 0 = c) (ha : 224 ≤ c) (hb : c ≤ 224) (hT : TailP s 3 160 191) :
    Calls Tryd.prog 22 #[.string s] w fun e w' => e = .returned (.int .i64 3) ∧ w' = w := by
  have hne := not_empty s h0
  have i0 := index_str s 0 w h0
  simp only [Int.cast_ofNat_Int] at i0
  rw [hc] at i0
  have c128 : ¬ ((c : Int) < 128) := by omega
  have g194 : (194 ≤ (c : Int)) := by omega
  have l223 : ¬ ((c : Int) ≤ 223) := by omega
  have e224 : ((c : Int) = 224) := by omega
  have g225 : ¬ (225 ≤ (c : Int)) := by omega
  have l239 : ((c : Int) ≤ 239) := by omega
  have e237 : ¬ ((c : Int) = 237) := by omega
  have e240 : ¬ ((c : Int) = 240) := by omega
  have g241 : ¬ (241 ≤ (c : Int)) := by omega
  have l243 : ((c : Int) ≤ 243) := by omega
  have e244 : ¬ ((c : Int) = 244) := by omega
  have T : Hid (∀ wx, Calls Tryd.prog 26 #[.string s, .int .i64 3, .int .u8 160, .int .u8 191] wx fun e w' => e = .returned (.bool true) ∧ w' = wx) := fun wx => tail_true hT (by omega) (by omega) (by omega) (by omega) wx
  clear hT
  clear hc ha hb h0
  go_enter Tryd.func22, Tryd.ntmps22
  go_wp2_with (first | (go_at_call 26; refine (T.out _).mono ?_; rintro e _ ⟨rfl, rfl⟩) | fail)
  go_ret
  exact ⟨rfl, rfl⟩

set_option maxRecDepth 100000 in
set_option maxHeartbeats 1000000 in
theorem wide_e0_f (s : ByteArray) (w : World) (c : Nat) (h0 : 0 < s.size) (hc : by8 s 0 = c) (ha : 224 ≤ c) (hb : c ≤ 224) (hT : ¬ TailP s 3 160 191) :
    Calls Tryd.prog 22 #[.string s] w fun e w' => e = .returned (.int .i64 0) ∧ w' = w := by
  have hne := not_empty s h0
  have i0 := index_str s 0 w h0
  simp only [Int.cast_ofNat_Int] at i0
  rw [hc] at i0
  have c128 : ¬ ((c : Int) < 128) := by omega
  have g194 : (194 ≤ (c : Int)) := by omega
  have l223 : ¬ ((c : Int) ≤ 223) := by omega
  have e224 : ((c : Int) = 224) := by omega
  have g225 : ¬ (225 ≤ (c : Int)) := by omega
  have l239 : ((c : Int) ≤ 239) := by omega
  have e237 : ¬ ((c : Int) = 237) := by omega
  have e240 : ¬ ((c : Int) = 240) := by omega
  have g241 : ¬ (241 ≤ (c : Int)) := by omega
  have l243 : ((c : Int) ≤ 243) := by omega
  have e244 : ¬ ((c : Int) = 244) := by omega
  have T : Hid (∀ wx, Calls Tryd.prog 26 #[.string s, .int .i64 3, .int .u8 160, .int .u8 191] wx fun e w' => e = .returned (.bool false) ∧ w' = wx) := fun wx => tail_false hT (by omega) (by omega) (by omega) (by omega) wx
  clear hT
  clear hc ha hb h0
  go_enter Tryd.func22, Tryd.ntmps22
  go_wp2_with (first | (go_at_call 26; refine (T.out _).mono ?_; rintro e _ ⟨rfl, rfl⟩) | fail)
  go_ret
  exact ⟨rfl, rfl⟩

set_option maxRecDepth 100000 in
set_option maxHeartbeats 1000000 in
theorem wide_e1_t (s : ByteArray) (w : World) (c : Nat) (h0 : 0 < s.size) (hc : by8 s 0 = c) (ha : 225 ≤ c) (hb : c ≤ 236) (hT : TailP s 3 128 191) :
    Calls Tryd.prog 22 #[.string s] w fun e w' => e = .returned (.int .i64 3) ∧ w' = w := by
  have hne := not_empty s h0
  have i0 := index_str s 0 w h0
  simp only [Int.cast_ofNat_Int] at i0
  rw [hc] at i0
  have c128 : ¬ ((c : Int) < 128) := by omega
  have g194 : (194 ≤ (c : Int)) := by omega
  have l223 : ¬ ((c : Int) ≤ 223) := by omega
  have e224 : ¬ ((c : Int) = 224) := by omega
  have g225 : (225 ≤ (c : Int)) := by omega
  have l239 : ((c : Int) ≤ 239) := by omega
  have e237 : ¬ ((c : Int) = 237) := by omega
  have e240 : ¬ ((c : Int) = 240) := by omega
  have g241 : ¬ (241 ≤ (c : Int)) := by omega
  have l243 : ((c : Int) ≤ 243) := by omega
  have e244 : ¬ ((c : Int) = 244) := by omega
  have T : Hid (∀ wx, Calls Tryd.prog 26 #[.string s, .int .i64 3, .int .u8 128, .int .u8 191] wx fun e w' => e = .returned (.bool true) ∧ w' = wx) := fun wx => tail_true hT (by omega) (by omega) (by omega) (by omega) wx
  clear hT
  clear hc ha hb h0
  go_enter Tryd.func22, Tryd.ntmps22
  go_wp2_with (first | (go_at_call 26; refine (T.out _).mono ?_; rintro e _ ⟨rfl, rfl⟩) | fail)
  go_ret
  exact ⟨rfl, rfl⟩

set_option maxRecDepth 100000 in
set_option maxHeartbeats 1000000 in
theorem wide_e1_f (s : ByteArray) (w : World) (c : Nat) (h0 : 0 < s.size) (hc : by8 s 0 = c) (ha : 225 ≤ c) (hb : c ≤ 236) (hT : ¬ TailP s 3 128 191) :
    Calls Tryd.prog 22 #[.string s] w fun e w' => e = .returned (.int .i64 0) ∧ w' = w := by
  have hne := not_empty s h0
  have i0 := index_str s 0 w h0
  simp only [Int.cast_ofNat_Int] at i0
  rw [hc] at i0
  have c128 : ¬ ((c : Int) < 128) := by omega
  have g194 : (194 ≤ (c : Int)) := by omega
  have l223 : ¬ ((c : Int) ≤ 223) := by omega
  have e224 : ¬ ((c : Int) = 224) := by omega
  have g225 : (225 ≤ (c : Int)) := by omega
  have l239 : ((c : Int) ≤ 239) := by omega
  have e237 : ¬ ((c : Int) = 237) := by omega
  have e240 : ¬ ((c : Int) = 240) := by omega
  have g241 : ¬ (241 ≤ (c : Int)) := by omega
  have l243 : ((c : Int) ≤ 243) := by omega
  have e244 : ¬ ((c : Int) = 244) := by omega
  have T : Hid (∀ wx, Calls Tryd.prog 26 #[.string s, .int .i64 3, .int .u8 128, .int .u8 191] wx fun e w' => e = .returned (.bool false) ∧ w' = wx) := fun wx => tail_false hT (by omega) (by omega) (by omega) (by omega) wx
  clear hT
  clear hc ha hb h0
  go_enter Tryd.func22, Tryd.ntmps22
  go_wp2_with (first | (go_at_call 26; refine (T.out _).mono ?_; rintro e _ ⟨rfl, rfl⟩) | fail)
  go_ret
  exact ⟨rfl, rfl⟩

set_option maxRecDepth 100000 in
set_option maxHeartbeats 1000000 in
theorem wide_ed_t (s : ByteArray) (w : World) (c : Nat) (h0 : 0 < s.size) (hc : by8 s 0 = c) (ha : 237 ≤ c) (hb : c ≤ 237) (hT : TailP s 3 128 159) :
    Calls Tryd.prog 22 #[.string s] w fun e w' => e = .returned (.int .i64 3) ∧ w' = w := by
  have hne := not_empty s h0
  have i0 := index_str s 0 w h0
  simp only [Int.cast_ofNat_Int] at i0
  rw [hc] at i0
  have c128 : ¬ ((c : Int) < 128) := by omega
  have g194 : (194 ≤ (c : Int)) := by omega
  have l223 : ¬ ((c : Int) ≤ 223) := by omega
  have e224 : ¬ ((c : Int) = 224) := by omega
  have g225 : (225 ≤ (c : Int)) := by omega
  have l239 : ((c : Int) ≤ 239) := by omega
  have e237 : ((c : Int) = 237) := by omega
  have e240 : ¬ ((c : Int) = 240) := by omega
  have g241 : ¬ (241 ≤ (c : Int)) := by omega
  have l243 : ((c : Int) ≤ 243) := by omega
  have e244 : ¬ ((c : Int) = 244) := by omega
  have T : Hid (∀ wx, Calls Tryd.prog 26 #[.string s, .int .i64 3, .int .u8 128, .int .u8 159] wx fun e w' => e = .returned (.bool true) ∧ w' = wx) := fun wx => tail_true hT (by omega) (by omega) (by omega) (by omega) wx
  clear hT
  clear hc ha hb h0
  go_enter Tryd.func22, Tryd.ntmps22
  go_wp2_with (first | (go_at_call 26; refine (T.out _).mono ?_; rintro e _ ⟨rfl, rfl⟩) | fail)
  go_ret
  exact ⟨rfl, rfl⟩

set_option maxRecDepth 100000 in
set_option maxHeartbeats 1000000 in
theorem wide_ed_f (s : ByteArray) (w : World) (c : Nat) (h0 : 0 < s.size) (hc : by8 s 0 = c) (ha : 237 ≤ c) (hb : c ≤ 237) (hT : ¬ TailP s 3 128 159) :
    Calls Tryd.prog 22 #[.string s] w fun e w' => e = .returned (.int .i64 0) ∧ w' = w := by
  have hne := not_empty s h0
  have i0 := index_str s 0 w h0
  simp only [Int.cast_ofNat_Int] at i0
  rw [hc] at i0
  have c128 : ¬ ((c : Int) < 128) := by omega
  have g194 : (194 ≤ (c : Int)) := by omega
  have l223 : ¬ ((c : Int) ≤ 223) := by omega
  have e224 : ¬ ((c : Int) = 224) := by omega
  have g225 : (225 ≤ (c : Int)) := by omega
  have l239 : ((c : Int) ≤ 239) := by omega
  have e237 : ((c : Int) = 237) := by omega
  have e240 : ¬ ((c : Int) = 240) := by omega
  have g241 : ¬ (241 ≤ (c : Int)) := by omega
  have l243 : ((c : Int) ≤ 243) := by omega
  have e244 : ¬ ((c : Int) = 244) := by omega
  have T : Hid (∀ wx, Calls Tryd.prog 26 #[.string s, .int .i64 3, .int .u8 128, .int .u8 159] wx fun e w' => e = .returned (.bool false) ∧ w' = wx) := fun wx => tail_false hT (by omega) (by omega) (by omega) (by omega) wx
  clear hT
  clear hc ha hb h0
  go_enter Tryd.func22, Tryd.ntmps22
  go_wp2_with (first | (go_at_call 26; refine (T.out _).mono ?_; rintro e _ ⟨rfl, rfl⟩) | fail)
  go_ret
  exact ⟨rfl, rfl⟩

set_option maxRecDepth 100000 in
set_option maxHeartbeats 1000000 in
theorem wide_ee_t (s : ByteArray) (w : World) (c : Nat) (h0 : 0 < s.size) (hc : by8 s 0 = c) (ha : 238 ≤ c) (hb : c ≤ 239) (hT : TailP s 3 128 191) :
    Calls Tryd.prog 22 #[.string s] w fun e w' => e = .returned (.int .i64 3) ∧ w' = w := by
  have hne := not_empty s h0
  have i0 := index_str s 0 w h0
  simp only [Int.cast_ofNat_Int] at i0
  rw [hc] at i0
  have c128 : ¬ ((c : Int) < 128) := by omega
  have g194 : (194 ≤ (c : Int)) := by omega
  have l223 : ¬ ((c : Int) ≤ 223) := by omega
  have e224 : ¬ ((c : Int) = 224) := by omega
  have g225 : (225 ≤ (c : Int)) := by omega
  have l239 : ((c : Int) ≤ 239) := by omega
  have e237 : ¬ ((c : Int) = 237) := by omega
  have e240 : ¬ ((c : Int) = 240) := by omega
  have g241 : ¬ (241 ≤ (c : Int)) := by omega
  have l243 : ((c : Int) ≤ 243) := by omega
  have e244 : ¬ ((c : Int) = 244) := by omega
  have T : Hid (∀ wx, Calls Tryd.prog 26 #[.string s, .int .i64 3, .int .u8 128, .int .u8 191] wx fun e w' => e = .returned (.bool true) ∧ w' = wx) := fun wx => tail_true hT (by omega) (by omega) (by omega) (by omega) wx
  clear hT
  clear hc ha hb h0
  go_enter Tryd.func22, Tryd.ntmps22
  go_wp2_with (first | (go_at_call 26; refine (T.out _).mono ?_; rintro e _ ⟨rfl, rfl⟩) | fail)
  go_ret
  exact ⟨rfl, rfl⟩

set_option maxRecDepth 100000 in
set_option maxHeartbeats 1000000 in
theorem wide_ee_f (s : ByteArray) (w : World) (c : Nat) (h0 : 0 < s.size) (hc : by8 s 0 = c) (ha : 238 ≤ c) (hb : c ≤ 239) (hT : ¬ TailP s 3 128 191) :
    Calls Tryd.prog 22 #[.string s] w fun e w' => e = .returned (.int .i64 0) ∧ w' = w := by
  have hne := not_empty s h0
  have i0 := index_str s 0 w h0
  simp only [Int.cast_ofNat_Int] at i0
  rw [hc] at i0
  have c128 : ¬ ((c : Int) < 128) := by omega
  have g194 : (194 ≤ (c : Int)) := by omega
  have l223 : ¬ ((c : Int) ≤ 223) := by omega
  have e224 : ¬ ((c : Int) = 224) := by omega
  have g225 : (225 ≤ (c : Int)) := by omega
  have l239 : ((c : Int) ≤ 239) := by omega
  have e237 : ¬ ((c : Int) = 237) := by omega
  have e240 : ¬ ((c : Int) = 240) := by omega
  have g241 : ¬ (241 ≤ (c : Int)) := by omega
  have l243 : ((c : Int) ≤ 243) := by omega
  have e244 : ¬ ((c : Int) = 244) := by omega
  have T : Hid (∀ wx, Calls Tryd.prog 26 #[.string s, .int .i64 3, .int .u8 128, .int .u8 191] wx fun e w' => e = .returned (.bool false) ∧ w' = wx) := fun wx => tail_false hT (by omega) (by omega) (by omega) (by omega) wx
  clear hT
  clear hc ha hb h0
  go_enter Tryd.func22, Tryd.ntmps22
  go_wp2_with (first | (go_at_call 26; refine (T.out _).mono ?_; rintro e _ ⟨rfl, rfl⟩) | fail)
  go_ret
  exact ⟨rfl, rfl⟩

set_option maxRecDepth 100000 in
set_option maxHeartbeats 1000000 in
theorem wide_f0_t (s : ByteArray) (w : World) (c : Nat) (h0 : 0 < s.size) (hc : by8 s 0 = c) (ha : 240 ≤ c) (hb : c ≤ 240) (hT : TailP s 4 144 191) :
    Calls Tryd.prog 22 #[.string s] w fun e w' => e = .returned (.int .i64 4) ∧ w' = w := by
  have hne := not_empty s h0
  have i0 := index_str s 0 w h0
  simp only [Int.cast_ofNat_Int] at i0
  rw [hc] at i0
  have c128 : ¬ ((c : Int) < 128) := by omega
  have g194 : (194 ≤ (c : Int)) := by omega
  have l223 : ¬ ((c : Int) ≤ 223) := by omega
  have e224 : ¬ ((c : Int) = 224) := by omega
  have g225 : (225 ≤ (c : Int)) := by omega
  have l239 : ¬ ((c : Int) ≤ 239) := by omega
  have e237 : ¬ ((c : Int) = 237) := by omega
  have e240 : ((c : Int) = 240) := by omega
  have g241 : ¬ (241 ≤ (c : Int)) := by omega
  have l243 : ((c : Int) ≤ 243) := by omega
  have e244 : ¬ ((c : Int) = 244) := by omega
  have T : Hid (∀ wx, Calls Tryd.prog 26 #[.string s, .int .i64 4, .int .u8 144, .int .u8 191] wx fun e w' => e = .returned (.bool true) ∧ w' = wx) := fun wx => tail_true hT (by omega) (by omega) (by omega) (by omega) wx
  clear hT
  clear hc ha hb h0
  go_enter Tryd.func22, Tryd.ntmps22
  go_wp2_with (first | (go_at_call 26; refine (T.out _).mono ?_; rintro e _ ⟨rfl, rfl⟩) | fail)
  go_ret
  exact ⟨rfl, rfl⟩

set_option maxRecDepth 100000 in
set_option maxHeartbeats 1000000 in
theorem wide_f0_f (s : ByteArray) (w : World) (c : Nat) (h0 : 0 < s.size) (hc : by8 s 0 = c) (ha : 240 ≤ c) (hb : c ≤ 240) (hT : ¬ TailP s 4 144 191) :
    Calls Tryd.prog 22 #[.string s] w fun e w' => e = .returned (.int .i64 0) ∧ w' = w := by
  have hne := not_empty s h0
  have i0 := index_str s 0 w h0
  simp only [Int.cast_ofNat_Int] at i0
  rw [hc] at i0
  have c128 : ¬ ((c : Int) < 128) := by omega
  have g194 : (194 ≤ (c : Int)) := by omega
  have l223 : ¬ ((c : Int) ≤ 223) := by omega
  have e224 : ¬ ((c : Int) = 224) := by omega
  have g225 : (225 ≤ (c : Int)) := by omega
  have l239 : ¬ ((c : Int) ≤ 239) := by omega
  have e237 : ¬ ((c : Int) = 237) := by omega
  have e240 : ((c : Int) = 240) := by omega
  have g241 : ¬ (241 ≤ (c : Int)) := by omega
  have l243 : ((c : Int) ≤ 243) := by omega
  have e244 : ¬ ((c : Int) = 244) := by omega
  have T : Hid (∀ wx, Calls Tryd.prog 26 #[.string s, .int .i64 4, .int .u8 144, .int .u8 191] wx fun e w' => e = .returned (.bool false) ∧ w' = wx) := fun wx => tail_false hT (by omega) (by omega) (by omega) (by omega) wx
  clear hT
  clear hc ha hb h0
  go_enter Tryd.func22, Tryd.ntmps22
  go_wp2_with (first | (go_at_call 26; refine (T.out _).mono ?_; rintro e _ ⟨rfl, rfl⟩) | fail)
  go_ret
  exact ⟨rfl, rfl⟩

set_option maxRecDepth 100000 in
set_option maxHeartbeats 1000000 in
theorem wide_f1_t (s : ByteArray) (w : World) (c : Nat) (h0 : 0 < s.size) (hc : by8 s 0 = c) (ha : 241 ≤ c) (hb : c ≤ 243) (hT : TailP s 4 128 191) :
    Calls Tryd.prog 22 #[.string s] w fun e w' => e = .returned (.int .i64 4) ∧ w' = w := by
  have hne := not_empty s h0
  have i0 := index_str s 0 w h0
  simp only [Int.cast_ofNat_Int] at i0
  rw [hc] at i0
  have c128 : ¬ ((c : Int) < 128) := by omega
  have g194 : (194 ≤ (c : Int)) := by omega
  have l223 : ¬ ((c : Int) ≤ 223) := by omega
  have e224 : ¬ ((c : Int) = 224) := by omega
  have g225 : (225 ≤ (c : Int)) := by omega
  have l239 : ¬ ((c : Int) ≤ 239) := by omega
  have e237 : ¬ ((c : Int) = 237) := by omega
  have e240 : ¬ ((c : Int) = 240) := by omega
  have g241 : (241 ≤ (c : Int)) := by omega
  have l243 : ((c : Int) ≤ 243) := by omega
  have e244 : ¬ ((c : Int) = 244) := by omega
  have T : Hid (∀ wx, Calls Tryd.prog 26 #[.string s, .int .i64 4, .int .u8 128, .int .u8 191] wx fun e w' => e = .returned (.bool true) ∧ w' = wx) := fun wx => tail_true hT (by omega) (by omega) (by omega) (by omega) wx
  clear hT
  clear hc ha hb h0
  go_enter Tryd.func22, Tryd.ntmps22
  go_wp2_with (first | (go_at_call 26; refine (T.out _).mono ?_; rintro e _ ⟨rfl, rfl⟩) | fail)
  go_ret
  exact ⟨rfl, rfl⟩

set_option maxRecDepth 100000 in
set_option maxHeartbeats 1000000 in
theorem wide_f1_f (s : ByteArray) (w : World) (c : Nat) (h0 : 0 < s.size) (hc : by8 s 0 = c) (ha : 241 ≤ c) (hb : c ≤ 243) (hT : ¬ TailP s 4 128 191) :
    Calls Tryd.prog 22 #[.string s] w fun e w' => e = .returned (.int .i64 0) ∧ w' = w := by
  have hne := not_empty s h0
  have i0 := index_str s 0 w h0
  simp only [Int.cast_ofNat_Int] at i0
  rw [hc] at i0
  have c128 : ¬ ((c : Int) < 128) := by omega
  have g194 : (194 ≤ (c : Int)) := by omega
  have l223 : ¬ ((c : Int) ≤ 223) := by omega
  have e224 : ¬ ((c : Int) = 224) := by omega
  have g225 : (225 ≤ (c : Int)) := by omega
  have l239 : ¬ ((c : Int) ≤ 239) := by omega
  have e237 : ¬ ((c : Int) = 237) := by omega
  have e240 : ¬ ((c : Int) = 240) := by omega
  have g241 : (241 ≤ (c : Int)) := by omega
  have l243 : ((c : Int) ≤ 243) := by omega
  have e244 : ¬ ((c : Int) = 244) := by omega
  have T : Hid (∀ wx, Calls Tryd.prog 26 #[.string s, .int .i64 4, .int .u8 128, .int .u8 191] wx fun e w' => e = .returned (.bool false) ∧ w' = wx) := fun wx => tail_false hT (by omega) (by omega) (by omega) (by omega) wx
  clear hT
  clear hc ha hb h0
  go_enter Tryd.func22, Tryd.ntmps22
  go_wp2_with (first | (go_at_call 26; refine (T.out _).mono ?_; rintro e _ ⟨rfl, rfl⟩) | fail)
  go_ret
  exact ⟨rfl, rfl⟩

set_option maxRecDepth 100000 in
set_option maxHeartbeats 1000000 in
theorem wide_f4_t (s : ByteArray) (w : World) (c : Nat) (h0 : 0 < s.size) (hc : by8 s 0 = c) (ha : 244 ≤ c) (hb : c ≤ 244) (hT : TailP s 4 128 143) :
    Calls Tryd.prog 22 #[.string s] w fun e w' => e = .returned (.int .i64 4) ∧ w' = w := by
  have hne := not_empty s h0
  have i0 := index_str s 0 w h0
  simp only [Int.cast_ofNat_Int] at i0
  rw [hc] at i0
  have c128 : ¬ ((c : Int) < 128) := by omega
  have g194 : (194 ≤ (c : Int)) := by omega
  have l223 : ¬ ((c : Int) ≤ 223) := by omega
  have e224 : ¬ ((c : Int) = 224) := by omega
  have g225 : (225 ≤ (c : Int)) := by omega
  have l239 : ¬ ((c : Int) ≤ 239) := by omega
  have e237 : ¬ ((c : Int) = 237) := by omega
  have e240 : ¬ ((c : Int) = 240) := by omega
  have g241 : (241 ≤ (c : Int)) := by omega
  have l243 : ¬ ((c : Int) ≤ 243) := by omega
  have e244 : ((c : Int) = 244) := by omega
  have T : Hid (∀ wx, Calls Tryd.prog 26 #[.string s, .int .i64 4, .int .u8 128, .int .u8 143] wx fun e w' => e = .returned (.bool true) ∧ w' = wx) := fun wx => tail_true hT (by omega) (by omega) (by omega) (by omega) wx
  clear hT
  clear hc ha hb h0
  go_enter Tryd.func22, Tryd.ntmps22
  go_wp2_with (first | (go_at_call 26; refine (T.out _).mono ?_; rintro e _ ⟨rfl, rfl⟩) | fail)
  go_ret
  exact ⟨rfl, rfl⟩

set_option maxRecDepth 100000 in
set_option maxHeartbeats 1000000 in
theorem wide_f4_f (s : ByteArray) (w : World) (c : Nat) (h0 : 0 < s.size) (hc : by8 s 0 = c) (ha : 244 ≤ c) (hb : c ≤ 244) (hT : ¬ TailP s 4 128 143) :
    Calls Tryd.prog 22 #[.string s] w fun e w' => e = .returned (.int .i64 0) ∧ w' = w := by
  have hne := not_empty s h0
  have i0 := index_str s 0 w h0
  simp only [Int.cast_ofNat_Int] at i0
  rw [hc] at i0
  have c128 : ¬ ((c : Int) < 128) := by omega
  have g194 : (194 ≤ (c : Int)) := by omega
  have l223 : ¬ ((c : Int) ≤ 223) := by omega
  have e224 : ¬ ((c : Int) = 224) := by omega
  have g225 : (225 ≤ (c : Int)) := by omega
  have l239 : ¬ ((c : Int) ≤ 239) := by omega
  have e237 : ¬ ((c : Int) = 237) := by omega
  have e240 : ¬ ((c : Int) = 240) := by omega
  have g241 : (241 ≤ (c : Int)) := by omega
  have l243 : ¬ ((c : Int) ≤ 243) := by omega
  have e244 : ((c : Int) = 244) := by omega
  have T : Hid (∀ wx, Calls Tryd.prog 26 #[.string s, .int .i64 4, .int .u8 128, .int .u8 143] wx fun e w' => e = .returned (.bool false) ∧ w' = wx) := fun wx => tail_false hT (by omega) (by omega) (by omega) (by omega) wx
  clear hT
  clear hc ha hb h0
  go_enter Tryd.func22, Tryd.ntmps22
  go_wp2_with (first | (go_at_call 26; refine (T.out _).mono ?_; rintro e _ ⟨rfl, rfl⟩) | fail)
  go_ret
  exact ⟨rfl, rfl⟩

set_option maxRecDepth 100000 in
set_option maxHeartbeats 1000000 in
theorem wide_hi (s : ByteArray) (w : World) (c : Nat) (h0 : 0 < s.size) (hc : by8 s 0 = c) (ha : 245 ≤ c) (hb : c ≤ 255) :
    Calls Tryd.prog 22 #[.string s] w fun e w' => e = .returned (.int .i64 0) ∧ w' = w := by
  have hne := not_empty s h0
  have i0 := index_str s 0 w h0
  simp only [Int.cast_ofNat_Int] at i0
  rw [hc] at i0
  have c128 : ¬ ((c : Int) < 128) := by omega
  have g194 : (194 ≤ (c : Int)) := by omega
  have l223 : ¬ ((c : Int) ≤ 223) := by omega
  have e224 : ¬ ((c : Int) = 224) := by omega
  have g225 : (225 ≤ (c : Int)) := by omega
  have l239 : ¬ ((c : Int) ≤ 239) := by omega
  have e237 : ¬ ((c : Int) = 237) := by omega
  have e240 : ¬ ((c : Int) = 240) := by omega
  have g241 : (241 ≤ (c : Int)) := by omega
  have l243 : ¬ ((c : Int) ≤ 243) := by omega
  have e244 : ¬ ((c : Int) = 244) := by omega
  clear hc ha hb h0
  go_enter Tryd.func22, Tryd.ntmps22
  go_wp2
  go_ret
  exact ⟨rfl, rfl⟩
end Go.Proofs.YtefoipjbbfcjhaaDoor.Q
