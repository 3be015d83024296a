import Derived.Test.YtepkanibcljdkaaDoorQQc
import Derived.Lib.MapLaws
import Derived.Lib.ValidLaws
import Derived.Test.YtepkanibcljdkaaDoorGQOb
namespace Go.Proofs.YtepkanibcljdkaaDoor.Q
open Go.RowKit
set_option linter.unusedVariables false
set_option linter.unusedSimpArgs false

/-- A byte, as the document writes it in quotes. -/
def escB (c : UInt8) : List UInt8 :=
  if c = 34 ∨ c = 92 then [92, c] else if c = 10 then [92, 110] else if c = 13 then [92, 114] else if c = 9 then [92, 116]
  else if c.toNat < 32 ∨ c = 127 then [92, 117, 48, 48, hx ((c.toNat : Int) / 16), hx ((c.toNat : Int) % 16)] else [c]
theorem escB_len (c : UInt8) : 1 ≤ (escB c).length ∧ (escB c).length ≤ 6 := by
  unfold escB
  repeat' split
  all_goals simp
theorem escB_high (c : UInt8) (h : 128 ≤ c.toNat) : escB c = [c] := by
  unfold escB
  have e : ∀ k : Nat, k < 128 → c ≠ UInt8.ofNat k := fun k hk e => by
    rw [e, UInt8.toNat_ofNat'] at h
    omega
  have e34 : c ≠ 34 := e 34 (by omega)
  have e92 : c ≠ 92 := e 92 (by omega)
  have e10 : c ≠ 10 := e 10 (by omega)
  have e13 : c ≠ 13 := e 13 (by omega)
  have e9 : c ≠ 9 := e 9 (by omega)
  have e127 : c ≠ 127 := e 127 (by omega)
  rw [if_neg (by rintro (h | h); exact e34 h; exact e92 h), if_neg e10, if_neg e13, if_neg e9, if_neg (by rintro (h | h); omega; exact e127 h)]
theorem esc_low : ∀ x : Fin 128, escB (UInt8.ofNat x.val) = escR ((x.val : Nat) : Int) := by decide +kernel
theorem esc_flat (l : List UInt8) (h : ∀ b ∈ l, 128 ≤ b.toNat) : l.flatMap escB = l := by
  induction l with
  | nil => rfl
  | cons b t ih =>
    rw [List.flatMap_cons, escB_high b (h b (by simp)), ih (fun c hc => h c (by simp [hc]))]
    rfl
theorem enc_high (r : Int) (h : 128 ≤ r) (h1 : r ≤ 1114111) : ∀ b ∈ Lib.encodeRune r, 128 ≤ b.toNat := by
  intro b hb
  unfold Lib.encodeRune at hb
  rw [List.mem_map] at hb
  obtain ⟨x, hx, rfl⟩ := hb
  have hb : 128 ≤ x ∧ x < 256 := by
    unfold Lib.encodeRuneZ at hx
    split at hx
    · omega
    · split at hx
      · simp at hx; omega
      · split at hx
        · simp at hx; omega
        · split at hx
          · simp at hx; omega
          · simp at hx; omega
  rw [Nat.toUInt8, UInt8.toNat_ofNat']
  omega
theorem decode_le (l : List UInt8) : (Lib.decodeL l).1 ≤ 1114111 := by
  rw [Lib.decodeL_N]
  unfold Lib.decodeN
  have b0 := (l.getD 0 0).toNat_lt
  have b1 := (l.getD 1 0).toNat_lt
  have b2 := (l.getD 2 0).toNat_lt
  have b3 := (l.getD 3 0).toNat_lt
  repeat' split
  all_goals (simp only []; omega)
/-- A character at the front: quoted by its bytes it is what Quote writes of it. -/
theorem esc_step (l : List UInt8) (hne : l ≠ []) (hv : ¬ ((Lib.decodeL l).1 = 65533 ∧ (Lib.decodeL l).2 = 1)) :
    l.flatMap escB = escR ((Lib.decodeL l).1 : Int) ++ (l.drop (Lib.decodeL l).2).flatMap escB := by
  have he := Lib.encode_decode l hne hv
  have hle := decode_le l
  generalize (Lib.decodeL l).1 = r at *
  generalize (Lib.decodeL l).2 = n at *
  have key : (l.take n).flatMap escB = escR (r : Int) := by
    rw [← he]
    by_cases h : r < 128
    · have e : Lib.encodeRune (r : Int) = [UInt8.ofNat r] := by
        unfold Lib.encodeRune
        rw [Lib.encodeRuneZ_one (by omega) (by omega)]
        simp [Nat.toUInt8]
      rw [e]
      have := esc_low ⟨r, h⟩
      simp only [List.flatMap_cons, List.flatMap_nil, List.append_nil]
      exact this
    · rw [esc_flat _ (enc_high _ (by omega) (by omega))]
      unfold escR
      have h1 : signN (r : Int) = 0 := by
        unfold signN
        rw [if_neg (by omega), if_neg (by omega), if_neg (by omega), if_neg (by omega)]
      have h2 : hidB (r : Int) = false := by
        unfold hidB
        rw [decide_eq_false (by omega), decide_eq_false (by omega)]
        rfl
      rw [if_neg (by rw [h1]; simp), if_neg (by rw [h2]; simp)]
  rw [← key, ← List.flatMap_append, List.take_append_drop]
theorem esc_total (l : List UInt8) : (l.flatMap escB).length ≤ 6 * l.length := by
  induction l with
  | nil => simp
  | cons b t ih =>
    have := escB_len b
    rw [List.flatMap_cons, List.length_append, List.length_cons]
    omega
theorem valid_next (l : List UInt8) (hne : l ≠ []) (hv : Lib.validD l = true) : ¬ ((Lib.decodeL l).1 = 65533 ∧ (Lib.decodeL l).2 = 1) ∧ Lib.validD (l.drop (Lib.decodeL l).2) = true := by
  rw [Lib.validD_step l hne] at hv
  split at hv
  · cases hv
  · rename_i h
    exact ⟨h, hv⟩
theorem decode_pos (l : List UInt8) : 1 ≤ (Lib.decodeL l).2 := by
  rw [Lib.decodeL_N]
  unfold Lib.decodeN
  repeat' split
  all_goals simp
theorem decode_len (l : List UInt8) (hne : l ≠ []) (hv : ¬ ((Lib.decodeL l).1 = 65533 ∧ (Lib.decodeL l).2 = 1)) : (Lib.decodeL l).2 ≤ l.length := by
  have hl : 0 < l.length := List.length_pos_iff.2 hne
  revert hv
  rw [Lib.decodeL_N]
  unfold Lib.decodeN
  repeat' split
  all_goals (intro hv; first | (simp at hv ⊢; omega) | simp at hv ⊢)
theorem get_getD (s : ByteArray) (i : Nat) : s.get! i = s.data.toList.getD i 0 := (Lib.getD_get!' s i).symm
theorem decode_drop (s : ByteArray) (k : Nat) : Utf8.decode s k = Lib.decodeL (s.data.toList.drop k) := by
  rw [Lib.decode_at, Lib.decodeL_N, get_getD, get_getD, get_getD, get_getD]
  have e : ∀ j, (s.data.toList.drop k).getD j 0 = s.data.toList.getD (k + j) 0 := fun j => by simp [List.getD_eq_getElem?_getD]
  rw [e, e, e, e]
  congr 1
  simp
end Go.Proofs.YtepkanibcljdkaaDoor.Q

namespace Go.Proofs.YtepkanibcljdkaaDoor.Q
open Go.RowKit
set_option linter.unusedVariables false
set_option linter.unusedSimpArgs false

/-- How many bytes the character at the front has, of a text that is not empty; 0: none stands there. -/
def wideN (s : ByteArray) : Nat :=
  if by8 s 0 < 128 then 1 else (Lib.checkN s.size (by8 s 1) (by8 s 2) (by8 s 3) (Lib.firstT (by8 s 0) % 8) (Lib.accLo (Lib.firstT (by8 s 0) / 16)) (Lib.accHi (Lib.firstT (by8 s 0) / 16))).getD 0
theorem tail_2 (s : ByteArray) (lo hi : Nat) : (TailP s 2 lo hi → Lib.checkN s.size (by8 s 1) (by8 s 2) (by8 s 3) 2 lo hi = some 2) ∧ (¬ TailP s 2 lo hi → Lib.checkN s.size (by8 s 1) (by8 s 2) (by8 s 3) 2 lo hi = none) := by
  unfold TailP Lib.checkN
  constructor
  · rintro ⟨h1, h2, h3, h4⟩
    rw [if_pos rfl, if_neg (by omega)]
  · intro h
    rw [if_pos rfl, if_pos]
    apply Classical.byContradiction
    intro hc
    exact h ⟨by omega, by omega, by omega, fun i _ _ => by omega⟩
theorem tail_3 (s : ByteArray) (lo hi : Nat) : (TailP s 3 lo hi → Lib.checkN s.size (by8 s 1) (by8 s 2) (by8 s 3) 3 lo hi = some 3) ∧ (¬ TailP s 3 lo hi → Lib.checkN s.size (by8 s 1) (by8 s 2) (by8 s 3) 3 lo hi = none) := by
  unfold TailP Lib.checkN
  constructor
  · rintro ⟨h1, h2, h3, h4⟩
    have := h4 2 (by omega) (by omega)
    rw [if_neg (by omega), if_pos rfl, if_neg (by omega)]
  · intro h
    rw [if_neg (by omega), if_pos rfl, if_pos]
    apply Classical.byContradiction
    intro hc
    refine h ⟨by omega, by omega, by omega, fun i h1 h2 => ?_⟩
    obtain rfl : i = 2 := by omega
    omega
theorem tail_4 (s : ByteArray) (lo hi : Nat) : (TailP s 4 lo hi → Lib.checkN s.size (by8 s 1) (by8 s 2) (by8 s 3) 4 lo hi = some 4) ∧ (¬ TailP s 4 lo hi → Lib.checkN s.size (by8 s 1) (by8 s 2) (by8 s 3) 4 lo hi = none) := by
  unfold TailP Lib.checkN
  constructor
  · rintro ⟨h1, h2, h3, h4⟩
    have := h4 2 (by omega) (by omega)
    have := h4 3 (by omega) (by omega)
    rw [if_neg (by omega), if_neg (by omega), if_pos rfl, if_neg (by omega)]
  · intro h
    rw [if_neg (by omega), if_neg (by omega), if_pos rfl, if_pos]
    apply Classical.byContradiction
    intro hc
    refine h ⟨by omega, by omega, by omega, fun i h1 h2 => ?_⟩
    rcases (show i = 2 ∨ i = 3 by omega) with rfl | rfl <;> omega
theorem tail_true {s : ByteArray} {n lo hi : Nat} (h : TailP s n lo hi) (hn : 2 ≤ n) (hn2 : n ≤ 4) (hlo : lo < 256) (hhi : hi < 256) (w : World) :
    Calls Tryd.prog 64 #[.string s, .int .i64 (n : Int), .int .u8 (lo : Int), .int .u8 (hi : Int)] w fun e w' => e = .returned (.bool true) ∧ w' = w :=
  (tail_any s n lo hi w hn hn2 hlo hhi).mono fun e w' ⟨b, he, hb, hw⟩ => ⟨by rw [he, hb.2 h], hw⟩
theorem tail_false {s : ByteArray} {n lo hi : Nat} (h : ¬ TailP s n lo hi) (hn : 2 ≤ n) (hn2 : n ≤ 4) (hlo : lo < 256) (hhi : hi < 256) (w : World) :
    Calls Tryd.prog 64 #[.string s, .int .i64 (n : Int), .int .u8 (lo : Int), .int .u8 (hi : Int)] w fun e w' => e = .returned (.bool false) ∧ w' = w :=
  (tail_any s n lo hi w hn hn2 hlo hhi).mono fun e w' ⟨b, he, hb, hw⟩ => ⟨by rw [he]; cases b with | false => rfl | true => exact absurd (hb.1 rfl) h, hw⟩
theorem not_empty (s : ByteArray) (h : 0 < s.size) : s.toList.isEmpty = false := by
  rw [ByteArray.toList_eq]
  cases hq : s.data.toList with
  | nil =>
    have : s.data.toList.length = s.size := by simp
    rw [hq] at this
    simp at this
    omega
  | cons => rfl

set_option maxRecDepth 100000 in
set_option maxHeartbeats 1000000 in
theorem wide_asc (s : ByteArray) (w : World) (h0 : 0 < s.size) (hc : by8 s 0 < 128) :
    Calls Tryd.prog 47 #[.string s] w fun e w' => e = .returned (.int .i64 1) ∧ w' = w := by
  have hne := not_empty s h0
  have i0 := index_str s 0 w h0
  simp only [Int.cast_ofNat_Int] at i0
  have c128 : (by8 s 0 : Int) < 128 := by omega
  go_enter Tryd.func47, Tryd.ntmps47
  go_wp2
  go_ret
  exact ⟨rfl, rfl⟩

set_option maxRecDepth 100000 in
set_option maxHeartbeats 1000000 in
theorem wide_lo (s : ByteArray) (w : World) (c : Nat) (h0 : 0 < s.size) (hc : by8 s 0 = c) (ha : 128 ≤ c) (hb : c ≤ 193) :
    Calls Tryd.prog 47 #[.string s] w fun e w' => e = .returned (.int .i64 0) ∧ w' = w := by
  have hne := not_empty s h0
  have i0 := index_str s 0 w h0
  simp only [Int.cast_ofNat_Int] at i0
  rw [hc] at i0
  have c128 : ¬ ((c : Int) < 128) := by omega
  have g194 : ¬ (194 ≤ (c : Int)) := by omega
  have l223 : ((c : Int) ≤ 223) := by omega
  have e224 : ¬ ((c : Int) = 224) := by omega
  have g225 : ¬ (225 ≤ (c : Int)) := by omega
  have l239 : ((c : Int) ≤ 239) := by omega
  have e237 : ¬ ((c : Int) = 237) := by omega
  have e240 : ¬ ((c : Int) = 240) := by omega
  have g241 : ¬ (241 ≤ (c : Int)) := by omega
  have l243 : ((c : Int) ≤ 243) := by omega
  have e244 : ¬ ((c : Int) = 244) := by omega
  clear hc ha hb h0
  go_enter Tryd.func47, Tryd.ntmps47
  go_wp2
  go_ret
  exact ⟨rfl, rfl⟩

set_option maxRecDepth 100000 in
set_option maxHeartbeats 1000000 in
theorem wide_two_t (s : ByteArray) (w : World) (c : Nat) (h0 : 0 < s.size) (hc : by8 s 0 = c) (ha : 194 ≤ c) (hb : c ≤ 223) (hT : TailP s 2 128 191) :
    Calls Tryd.prog 47 #[.string s] w fun e w' => e = .returned (.int .i64 2) ∧ w' = w := by
  have hne := not_empty s h0
  have i0 := index_str s 0 w h0
  simp only [Int.cast_ofNat_Int] at i0
  rw [hc] at i0
  have c128 : ¬ ((c : Int) < 128) := by omega
  have g194 : (194 ≤ (c : Int)) := by omega
  have l223 : ((c : Int) ≤ 223) := by omega
  have e224 : ¬ ((c : Int) = 224) := by omega
  have g225 : ¬ (225 ≤ (c : Int)) := by omega
  have l239 : ((c : Int) ≤ 239) := by omega
  have e237 : ¬ ((c : Int) = 237) := by omega
  have e240 : ¬ ((c : Int) = 240) := by omega
  have g241 : ¬ (241 ≤ (c : Int)) := by omega
  have l243 : ((c : Int) ≤ 243) := by omega
  have e244 : ¬ ((c : Int) = 244) := by omega
  have T : Hid (∀ wx, Calls Tryd.prog 64 #[.string s, .int .i64 2, .int .u8 128, .int .u8 191] wx fun e w' => e = .returned (.bool true) ∧ w' = wx) := fun wx => tail_true hT (by omega) (by omega) (by omega) (by omega) wx
  clear hT
  clear hc ha hb h0
  go_enter Tryd.func47, Tryd.ntmps47
  go_wp2_with (first | (go_at_call 64; refine (T.out _).mono ?_; rintro e _ ⟨rfl, rfl⟩) | fail)
  go_ret
  exact ⟨rfl, rfl⟩

set_option maxRecDepth 100000 in
set_option maxHeartbeats 1000000 in
theorem wide_two_f (s : ByteArray) (w : World) (c : Nat) (h0 : 0 < s.size) (hc : by8 s 0 = c) (ha : 194 ≤ c) (hb : c ≤ 223) (hT : ¬ TailP s 2 128 191) :
    Calls Tryd.prog 47 #[.string s] w fun e w' => e = .returned (.int .i64 0) ∧ w' = w := by
  have hne := not_empty s h0
  have i0 := index_str s 0 w h0
  simp only [Int.cast_ofNat_Int] at i0
  rw [hc] at i0
  have c128 : ¬ ((c : Int) < 128) := by omega
  have g194 : (194 ≤ (c : Int)) := by omega
  have l223 : ((c : Int) ≤ 223) := by omega
  have e224 : ¬ ((c : Int) = 224) := by omega
  have g225 : ¬ (225 ≤ (c : Int)) := by omega
  have l239 : ((c : Int) ≤ 239) := by omega
  have e237 : ¬ ((c : Int) = 237) := by omega
  have e240 : ¬ ((c : Int) = 240) := by omega
  have g241 : ¬ (241 ≤ (c : Int)) := by omega
  have l243 : ((c : Int) ≤ 243) := by omega
  have e244 : ¬ ((c : Int) = 244) := by omega
  have T : Hid (∀ wx, Calls Tryd.prog 64 #[.string s, .int .i64 2, .int .u8 128, .int .u8 191] wx fun e w' => e = .returned (.bool false) ∧ w' = wx) := fun wx => tail_false hT (by omega) (by omega) (by omega) (by omega) wx
  clear hT
  clear hc ha hb h0
  go_enter Tryd.func47, Tryd.ntmps47
  go_wp2_with (first | (go_at_call 64; refine (T.out _).mono ?_; rintro e _ ⟨rfl, rfl⟩) | fail)
  go_ret
  exact ⟨rfl, rfl⟩

set_option maxRecDepth 100000 in
set_option maxHeartbeats 1000000 in
theorem wide_e0_t (s : ByteArray) (w : World) (c : Nat) (h0 : 0 < s.size) (hc : by8 s 0 = c) (ha : 224 ≤ c) (hb : c ≤ 224) (hT : TailP s 3 160 191) :
    Calls Tryd.prog 47 #[.string s] w fun e w' => e = .returned (.int .i64 3) ∧ w' = w := by
  have hne := not_empty s h0
  have i0 := index_str s 0 w h0
  simp only [Int.cast_ofNat_Int] at i0
  rw [hc] at i0
  have c128 : ¬ ((c : Int) < 128) := by omega
  have g194 : (194 ≤ (c : Int)) := by omega
  have l223 : ¬ ((c : Int) ≤ 223) := by omega
  have e224 : ((c : Int) = 224) := by omega
  have g225 : ¬ (225 ≤ (c : Int)) := by omega
  have l239 : ((c : Int) ≤ 239) := by omega
  have e237 : ¬ ((c : Int) = 237) := by omega
  have e240 : ¬ ((c : Int) = 240) := by omega
  have g241 : ¬ (241 ≤ (c : Int)) := by omega
  have l243 : ((c : Int) ≤ 243) := by omega
  have e244 : ¬ ((c : Int) = 244) := by omega
  have T : Hid (∀ wx, Calls Tryd.prog 64 #[.string s, .int .i64 3, .int .u8 160, .int .u8 191] wx fun e w' => e = .returned (.bool true) ∧ w' = wx) := fun wx => tail_true hT (by omega) (by omega) (by omega) (by omega) wx
  clear hT
  clear hc ha hb h0
  go_enter Tryd.func47, Tryd.ntmps47
  go_wp2_with (first | (go_at_call 64; refine (T.out _).mono ?_; rintro e _ ⟨rfl, rfl⟩) | fail)
  go_ret
  exact ⟨rfl, rfl⟩

set_option maxRecDepth 100000 in
set_option maxHeartbeats 1000000 in
theorem wide_e0_f (s : ByteArray) (w : World) (c : Nat) (h0 : 0 < s.size) (hc : by8 s 0 = c) (ha : 224 ≤ c) (hb : c ≤ 224) (hT : ¬ TailP s 3 160 191) :
    Calls Tryd.prog 47 #[.string s] w fun e w' => e = .returned (.int .i64 0) ∧ w' = w := by
  have hne := not_empty s h0
  have i0 := index_str s 0 w h0
  simp only [Int.cast_ofNat_Int] at i0
  rw [hc] at i0
  have c128 : ¬ ((c : Int) < 128) := by omega
  have g194 : (194 ≤ (c : Int)) := by omega
  have l223 : ¬ ((c : Int) ≤ 223) := by omega
  have e224 : ((c : Int) = 224) := by omega
  have g225 : ¬ (225 ≤ (c : Int)) := by omega
  have l239 : ((c : Int) ≤ 239) := by omega
  have e237 : ¬ ((c : Int) = 237) := by omega
  have e240 : ¬ ((c : Int) = 240) := by omega
  have g241 : ¬ (241 ≤ (c : Int)) := by omega
  have l243 : ((c : Int) ≤ 243) := by omega
  have e244 : ¬ ((c : Int) = 244) := by omega
  have T : Hid (∀ wx, Calls Tryd.prog 64 #[.string s, .int .i64 3, .int .u8 160, .int .u8 191] wx fun e w' => e = .returned (.bool false) ∧ w' = wx) := fun wx => tail_false hT (by omega) (by omega) (by omega) (by omega) wx
  clear hT
  clear hc ha hb h0
  go_enter Tryd.func47, Tryd.ntmps47
  go_wp2_with (first | (go_at_call 64; refine (T.out _).mono ?_; rintro e _ ⟨rfl, rfl⟩) | fail)
  go_ret
  exact ⟨rfl, rfl⟩

set_option maxRecDepth 100000 in
set_option maxHeartbeats 1000000 in
theorem wide_e1_t (s : ByteArray) (w : World) (c : Nat) (h0 : 0 < s.size) (hc : by8 s 0 = c) (ha : 225 ≤ c) (hb : c ≤ 236) (hT : TailP s 3 128 191) :
    Calls Tryd.prog 47 #[.string s] w fun e w' => e = .returned (.int .i64 3) ∧ w' = w := by
  have hne := not_empty s h0
  have i0 := index_str s 0 w h0
  simp only [Int.cast_ofNat_Int] at i0
  rw [hc] at i0
  have c128 : ¬ ((c : Int) < 128) := by omega
  have g194 : (194 ≤ (c : Int)) := by omega
  have l223 : ¬ ((c : Int) ≤ 223) := by omega
  have e224 : ¬ ((c : Int) = 224) := by omega
  have g225 : (225 ≤ (c : Int)) := by omega
  have l239 : ((c : Int) ≤ 239) := by omega
  have e237 : ¬ ((c : Int) = 237) := by omega
  have e240 : ¬ ((c : Int) = 240) := by omega
  have g241 : ¬ (241 ≤ (c : Int)) := by omega
  have l243 : ((c : Int) ≤ 243) := by omega
  have e244 : ¬ ((c : Int) = 244) := by omega
  have T : Hid (∀ wx, Calls Tryd.prog 64 #[.string s, .int .i64 3, .int .u8 128, .int .u8 191] wx fun e w' => e = .returned (.bool true) ∧ w' = wx) := fun wx => tail_true hT (by omega) (by omega) (by omega) (by omega) wx
  clear hT
  clear hc ha hb h0
  go_enter Tryd.func47, Tryd.ntmps47
  go_wp2_with (first | (go_at_call 64; refine (T.out _).mono ?_; rintro e _ ⟨rfl, rfl⟩) | fail)
  go_ret
  exact ⟨rfl, rfl⟩

set_option maxRecDepth 100000 in
set_option maxHeartbeats 1000000 in
theorem wide_e1_f (s : ByteArray) (w : World) (c : Nat) (h0 : 0 < s.size) (hc : by8 s 0 = c) (ha : 225 ≤ c) (hb : c ≤ 236) (hT : ¬ TailP s 3 128 191) :
    Calls Tryd.prog 47 #[.string s] w fun e w' => e = .returned (.int .i64 0) ∧ w' = w := by
  have hne := not_empty s h0
  have i0 := index_str s 0 w h0
  simp only [Int.cast_ofNat_Int] at i0
  rw [hc] at i0
  have c128 : ¬ ((c : Int) < 128) := by omega
  have g194 : (194 ≤ (c : Int)) := by omega
  have l223 : ¬ ((c : Int) ≤ 223) := by omega
  have e224 : ¬ ((c : Int) = 224) := by omega
  have g225 : (225 ≤ (c : Int)) := by omega
  have l239 : ((c : Int) ≤ 239) := by omega
  have e237 : ¬ ((c : Int) = 237) := by omega
  have e240 : ¬ ((c : Int) = 240) := by omega
  have g241 : ¬ (241 ≤ (c : Int)) := by omega
  have l243 : ((c : Int) ≤ 243) := by omega
  have e244 : ¬ ((c : Int) = 244) := by omega
  have T : Hid (∀ wx, Calls Tryd.prog 64 #[.string s, .int .i64 3, .int .u8 128, .int .u8 191] wx fun e w' => e = .returned (.bool false) ∧ w' = wx) := fun wx => tail_false hT (by omega) (by omega) (by omega) (by omega) wx
  clear hT
  clear hc ha hb h0
  go_enter Tryd.func47, Tryd.ntmps47
  go_wp2_with (first | (go_at_call 64; refine (T.out _).mono ?_; rintro e _ ⟨rfl, rfl⟩) | fail)
  go_ret
  exact ⟨rfl, rfl⟩

set_option maxRecDepth 100000 in
set_option maxHeartbeats 1000000 in
theorem wide_ed_t (s : ByteArray) (w : World) (c : Nat) (h0 : 0 < s.size) (hc : by8 s 0 = c) (ha : 237 ≤ c) (hb : c ≤ 237) (hT : TailP s 3 128 159) :
    Calls Tryd.prog 47 #[.string s] w fun e w' => e = .returned (.int .i64 3) ∧ w' = w := by
  have hne := not_empty s h0
  have i0 := index_str s 0 w h0
  simp only [Int.cast_ofNat_Int] at i0
  rw [hc] at i0
  have c128 : ¬ ((c : Int) < 128) := by omega
  have g194 : (194 ≤ (c : Int)) := by omega
  have l223 : ¬ ((c : Int) ≤ 223) := by omega
  have e224 : ¬ ((c : Int) = 224) := by omega
  have g225 : (225 ≤ (c : Int)) := by omega
  have l239 : ((c : Int) ≤ 239) := by omega
  have e237 : ((c : Int) = 237) := by omega
  have e240 : ¬ ((c : Int) = 240) := by omega
  have g241 : ¬ (241 ≤ (c : Int)) := by omega
  have l243 : ((c : Int) ≤ 243) := by omega
  have e244 : ¬ ((c : Int) = 244) := by omega
  have T : Hid (∀ wx, Calls Tryd.prog 64 #[.string s, .int .i64 3, .int .u8 128, .int .u8 159] wx fun e w' => e = .returned (.bool true) ∧ w' = wx) := fun wx => tail_true hT (by omega) (by omega) (by omega) (by omega) wx
  clear hT
  clear hc ha hb h0
  go_enter Tryd.func47, Tryd.ntmps47
  go_wp2_with (first | (go_at_call 64; refine (T.out _).mono ?_; rintro e _ ⟨rfl, rfl⟩) | fail)
  go_ret
  exact ⟨rfl, rfl⟩

set_option maxRecDepth 100000 in
set_option maxHeartbeats 1000000 in
theorem wide_ed_f (s : ByteArray) (w : World) (c : Nat) (h0 : 0 < s.size) (hc : by8 s 0 = c) (ha : 237 ≤ c) (hb : c ≤ 237) (hT : ¬ TailP s 3 128 159) :
    Calls Tryd.prog 47 #[.string s] w fun e w' => e = .returned (.int .i64 0) ∧ w' = w := by
  have hne := not_empty s h0
  have i0 := index_str s 0 w h0
  simp only [Int.cast_ofNat_Int] at i0
  rw [hc] at i0
  have c128 : ¬ ((c : Int) < 128) := by omega
  have g194 : (194 ≤ (c : Int)) := by omega
  have l223 : ¬ ((c : Int) ≤ 223) := by omega
  have e224 : ¬ ((c : Int) = 224) := by omega
  have g225 : (225 ≤ (c : Int)) := by omega
  have l239 : ((c : Int) ≤ 239) := by omega
  have e237 : ((c : Int) = 237) := by omega
  have e240 : ¬ ((c : Int) = 240) := by omega
  have g241 : ¬ (241 ≤ (c : Int)) := by omega
  have l243 : ((c : Int) ≤ 243) := by omega
  have e244 : ¬ ((c : Int) = 244) := by omega
  have T : Hid (∀ wx, Calls Tryd.prog 64 #[.string s, .int .i64 3, .int .u8 128, .int .u8 159] wx fun e w' => e = .returned (.bool false) ∧ w' = wx) := fun wx => tail_false hT (by omega) (by omega) (by omega) (by omega) wx
  clear hT
  clear hc ha hb h0
  go_enter Tryd.func47, Tryd.ntmps47
  go_wp2_with (first | (go_at_call 64; refine (T.out _).mono ?_; rintro e _ ⟨rfl, rfl⟩) | fail)
  go_ret
  exact ⟨rfl, rfl⟩

set_option maxRecDepth 100000 in
set_option maxHeartbeats 1000000 in
theorem wide_ee_t (s : ByteArray) (w : World) (c : Nat) (h0 : 0 < s.size) (hc : by8 s 0 = c) (ha : 238 ≤ c) (hb : c ≤ 239) (hT : TailP s 3 128 191) :
    Calls Tryd.prog 47 #[.string s] w fun e w' => e = .returned (.int .i64 3) ∧ w' = w := by
  have hne := not_empty s h0
  have i0 := index_str s 0 w h0
  simp only [Int.cast_ofNat_Int] at i0
  rw [hc] at i0
  have c128 : ¬ ((c : Int) < 128) := by omega
  have g194 : (194 ≤ (c : Int)) := by omega
  have l223 : ¬ ((c : Int) ≤ 223) := by omega
  have e224 : ¬ ((c : Int) = 224) := by omega
  have g225 : (225 ≤ (c : Int)) := by omega
  have l239 : ((c : Int) ≤ 239) := by omega
  have e237 : ¬ ((c : Int) = 237) := by omega
  have e240 : ¬ ((c : Int) = 240) := by omega
  have g241 : ¬ (241 ≤ (c : Int)) := by omega
  have l243 : ((c : Int) ≤ 243) := by omega
  have e244 : ¬ ((c : Int) = 244) := by omega
  have T : Hid (∀ wx, Calls Tryd.prog 64 #[.string s, .int .i64 3, .int .u8 128, .int .u8 191] wx fun e w' => e = .returned (.bool true) ∧ w' = wx) := fun wx => tail_true hT (by omega) (by omega) (by omega) (by omega) wx
  clear hT
  clear hc ha hb h0
  go_enter Tryd.func47, Tryd.ntmps47
  go_wp2_with (first | (go_at_call 64; refine (T.out _).mono ?_; rintro e _ ⟨rfl, rfl⟩) | fail)
  go_ret
  exact ⟨rfl, rfl⟩

set_option maxRecDepth 100000 in
set_option maxHeartbeats 1000000 in
theorem wide_ee_f (s : ByteArray) (w : World) (c : Nat) (h0 : 0 < s.size) (hc : by8 s 0 = c) (ha : 238 ≤ c) (hb : c ≤ 239) (hT : ¬ TailP s 3 128 191) :
    Calls Tryd.prog 47 #[.string s] w fun e w' => e = .returned (.int .i64 0) ∧ w' = w := by
  have hne := not_empty s h0
  have i0 := index_str s 0 w h0
  simp only [Int.cast_ofNat_Int] at i0
  rw [hc] at i0
  have c128 : ¬ ((c : Int) < 128) := by omega
  have g194 : (194 ≤ (c : Int)) := by omega
  have l223 : ¬ ((c : Int) ≤ 223) := by omega
  have e224 : ¬ ((c : Int) = 224) := by omega
  have g225 : (225 ≤ (c : Int)) := by omega
  have l239 : ((c : Int) ≤ 239) := by omega
  have e237 : ¬ ((c : Int) = 237) := by omega
  have e240 : ¬ ((c : Int) = 240) := by omega
  have g241 : ¬ (241 ≤ (c : Int)) := by omega
  have l243 : ((c : Int) ≤ 243) := by omega
  have e244 : ¬ ((c : Int) = 244) := by omega
  have T : Hid (∀ wx, Calls Tryd.prog 64 #[.string s, .int .i64 3, .int .u8 128, .int .u8 191] wx fun e w' => e = .returned (.bool false) ∧ w' = wx) := fun wx => tail_false hT (by omega) (by omega) (by omega) (by omega) wx
  clear hT
  clear hc ha hb h0
  go_enter Tryd.func47, Tryd.ntmps47
  go_wp2_with (first | (go_at_call 64; refine (T.out _).mono ?_; rintro e _ ⟨rfl, rfl⟩) | fail)
  go_ret
  exact ⟨rfl, rfl⟩

set_option maxRecDepth 100000 in
set_option maxHeartbeats 1000000 in
theorem wide_f0_t (s : ByteArray) (w : World) (c : Nat) (h0 : 0 < s.size) (hc : by8 s 0 = c) (ha : 240 ≤ c) (hb : c ≤ 240) (hT : TailP s 4 144 191) :
    Calls Tryd.prog 47 #[.string s] w fun e w' => e = .returned (.int .i64 4) ∧ w' = w := by
  have hne := not_empty s h0
  have i0 := index_str s 0 w h0
  simp only [Int.cast_ofNat_Int] at i0
  rw [hc] at i0
  have c128 : ¬ ((c : Int) < 128) := by omega
  have g194 : (194 ≤ (c : Int)) := by omega
  have l223 : ¬ ((c : Int) ≤ 223) := by omega
  have e224 : ¬ ((c : Int) = 224) := by omega
  have g225 : (225 ≤ (c : Int)) := by omega
  have l239 : ¬ ((c : Int) ≤ 239) := by omega
  have e237 : ¬ ((c : Int) = 237) := by omega
  have e240 : ((c : Int) = 240) := by omega
  have g241 : ¬ (241 ≤ (c : Int)) := by omega
  have l243 : ((c : Int) ≤ 243) := by omega
  have e244 : ¬ ((c : Int) = 244) := by omega
  have T : Hid (∀ wx, Calls Tryd.prog 64 #[.string s, .int .i64 4, .int .u8 144, .int .u8 191] wx fun e w' => e = .returned (.bool true) ∧ w' = wx) := fun wx => tail_true hT (by omega) (by omega) (by omega) (by omega) wx
  clear hT
  clear hc ha hb h0
  go_enter Tryd.func47, Tryd.ntmps47
  go_wp2_with (first | (go_at_call 64; refine (T.out _).mono ?_; rintro e _ ⟨rfl, rfl⟩) | fail)
  go_ret
  exact ⟨rfl, rfl⟩

set_option maxRecDepth 100000 in
set_option maxHeartbeats 1000000 in
theorem wide_f0_f (s : ByteArray) (w : World) (c : Nat) (h0 : 0 < s.size) (hc : by8 s 0 = c) (ha : 240 ≤ c) (hb : c ≤ 240) (hT : ¬ TailP s 4 144 191) :
    Calls Tryd.prog 47 #[.string s] w fun e w' => e = .returned (.int .i64 0) ∧ w' = w := by
  have hne := not_empty s h0
  have i0 := index_str s 0 w h0
  simp only [Int.cast_ofNat_Int] at i0
  rw [hc] at i0
  have c128 : ¬ ((c : Int) < 128) := by omega
  have g194 : (194 ≤ (c : Int)) := by omega
  have l223 : ¬ ((c : Int) ≤ 223) := by omega
  have e224 : ¬ ((c : Int) = 224) := by omega
  have g225 : (225 ≤ (c : Int)) := by omega
  have l239 : ¬ ((c : Int) ≤ 239) := by omega
  have e237 : ¬ ((c : Int) = 237) := by omega
  have e240 : ((c : Int) = 240) := by omega
  have g241 : ¬ (241 ≤ (c : Int)) := by omega
  have l243 : ((c : Int) ≤ 243) := by omega
  have e244 : ¬ ((c : Int) = 244) := by omega
  have T : Hid (∀ wx, Calls Tryd.prog 64 #[.string s, .int .i64 4, .int .u8 144, .int .u8 191] wx fun e w' => e = .returned (.bool false) ∧ w' = wx) := fun wx => tail_false hT (by omega) (by omega) (by omega) (by omega) wx
  clear hT
  clear hc ha hb h0
  go_enter Tryd.func47, Tryd.ntmps47
  go_wp2_with (first | (go_at_call 64; refine (T.out _).mono ?_; rintro e _ ⟨rfl, rfl⟩) | fail)
  go_ret
  exact ⟨rfl, rfl⟩

set_option maxRecDepth 100000 in
set_option maxHeartbeats 1000000 in
theorem wide_f1_t (s : ByteArray) (w : World) (c : Nat) (h0 : 0 < s.size) (hc : by8 s 0 = c) (ha : 241 ≤ c) (hb : c ≤ 243) (hT : TailP s 4 128 191) :
    Calls Tryd.prog 47 #[.string s] w fun e w' => e = .returned (.int .i64 4) ∧ w' = w := by
  have hne := not_empty s h0
  have i0 := index_str s 0 w h0
  simp only [Int.cast_ofNat_Int] at i0
  rw [hc] at i0
  have c128 : ¬ ((c : Int) < 128) := by omega
  have g194 : (194 ≤ (c : Int)) := by omega
  have l223 : ¬ ((c : Int) ≤ 223) := by omega
  have e224 : ¬ ((c : Int) = 224) := by omega
  have g225 : (225 ≤ (c : Int)) := by omega
  have l239 : ¬ ((c : Int) ≤ 239) := by omega
  have e237 : ¬ ((c : Int) = 237) := by omega
  have e240 : ¬ ((c : Int) = 240) := by omega
  have g241 : (241 ≤ (c : Int)) := by omega
  have l243 : ((c : Int) ≤ 243) := by omega
  have e244 : ¬ ((c : Int) = 244) := by omega
  have T : Hid (∀ wx, Calls Tryd.prog 64 #[.string s, .int .i64 4, .int .u8 128, .int .u8 191] wx fun e w' => e = .returned (.bool true) ∧ w' = wx) := fun wx => tail_true hT (by omega) (by omega) (by omega) (by omega) wx
  clear hT
  clear hc ha hb h0
  go_enter Tryd.func47, Tryd.ntmps47
  go_wp2_with (first | (go_at_call 64; refine (T.out _).mono ?_; rintro e _ ⟨rfl, rfl⟩) | fail)
  go_ret
  exact ⟨rfl, rfl⟩

set_option maxRecDepth 100000 in
set_option maxHeartbeats 1000000 in
theorem wide_f1_f (s : ByteArray) (w : World) (c : Nat) (h0 : 0 < s.size) (hc : by8 s 0 = c) (ha : 241 ≤ c) (hb : c ≤ 243) (hT : ¬ TailP s 4 128 191) :
    Calls Tryd.prog 47 #[.string s] w fun e w' => e = .returned (.int .i64 0) ∧ w' = w := by
  have hne := not_empty s h0
  have i0 := index_str s 0 w h0
  simp only [Int.cast_ofNat_Int] at i0
  rw [hc] at i0
  have c128 : ¬ ((c : Int) < 128) := by omega
  have g194 : (194 ≤ (c : Int)) := by omega
  have l223 : ¬ ((c : Int) ≤ 223) := by omega
  have e224 : ¬ ((c : Int) = 224) := by omega
  have g225 : (225 ≤ (c : Int)) := by omega
  have l239 : ¬ ((c : Int) ≤ 239) := by omega
  have e237 : ¬ ((c : Int) = 237) := by omega
  have e240 : ¬ ((c : Int) = 240) := by omega
  have g241 : (241 ≤ (c : Int)) := by omega
  have l243 : ((c : Int) ≤ 243) := by omega
  have e244 : ¬ ((c : Int) = 244) := by omega
  have T : Hid (∀ wx, Calls Tryd.prog 64 #[.string s, .int .i64 4, .int .u8 128, .int .u8 191] wx fun e w' => e = .returned (.bool false) ∧ w' = wx) := fun wx => tail_false hT (by omega) (by omega) (by omega) (by omega) wx
  clear hT
  clear hc ha hb h0
  go_enter Tryd.func47, Tryd.ntmps47
  go_wp2_with (first | (go_at_call 64; refine (T.out _).mono ?_; rintro e _ ⟨rfl, rfl⟩) | fail)
  go_ret
  exact ⟨rfl, rfl⟩

set_option maxRecDepth 100000 in
set_option maxHeartbeats 1000000 in
theorem wide_f4_t (s : ByteArray) (w : World) (c : Nat) (h0 : 0 < s.size) (hc : by8 s 0 = c) (ha : 244 ≤ c) (hb : c ≤ 244) (hT : TailP s 4 128 143) :
    Calls Tryd.prog 47 #[.string s] w fun e w' => e = .returned (.int .i64 4) ∧ w' = w := by
  have hne := not_empty s h0
  have i0 := index_str s 0 w h0
  simp only [Int.cast_ofNat_Int] at i0
  rw [hc] at i0
  have c128 : ¬ ((c : Int) < 128) := by omega
  have g194 : (194 ≤ (c : Int)) := by omega
  have l223 : ¬ ((c : Int) ≤ 223) := by omega
  have e224 : ¬ ((c : Int) = 224) := by omega
  have g225 : (225 ≤ (c : Int)) := by omega
  have l239 : ¬ ((c : Int) ≤ 239) := by omega
  have e237 : ¬ ((c : Int) = 237) := by omega
  have e240 : ¬ ((c : Int) = 240) := by omega
  have g241 : (241 ≤ (c : Int)) := by omega
  have l243 : ¬ ((c : Int) ≤ 243) := by omega
  have e244 : ((c : Int) = 244) := by omega
  have T : Hid (∀ wx, Calls Tryd.prog 64 #[.string s, .int .i64 4, .int .u8 128, .int .u8 143] wx fun e w' => e = .returned (.bool true) ∧ w' = wx) := fun wx => tail_true hT (by omega) (by omega) (by omega) (by omega) wx
  clear hT
  clear hc ha hb h0
  go_enter Tryd.func47, Tryd.ntmps47
  go_wp2_with (first | (go_at_call 64; refine (T.out _).mono ?_; rintro e _ ⟨rfl, rfl⟩) | fail)
  go_ret
  exact ⟨rfl, rfl⟩

set_option maxRecDepth 100000 in
set_option maxHeartbeats 1000000 in
theorem wide_f4_f (s : ByteArray) (w : World) (c : Nat) (h0 : 0 < s.size) (hc : by8 s 0 = c) (ha : 244 ≤ c) (hb : c ≤ 244) (hT : ¬ TailP s 4 128 143) :
    Calls Tryd.prog 47 #[.string s] w fun e w' => e = .returned (.int .i64 0) ∧ w' = w := by
  have hne := not_empty s h0
  have i0 := index_str s 0 w h0
  simp only [Int.cast_ofNat_Int] at i0
  rw [hc] at i0
  have c128 : ¬ ((c : Int) < 128) := by omega
  have g194 : (194 ≤ (c : Int)) := by omega
  have l223 : ¬ ((c : Int) ≤ 223) := by omega
  have e224 : ¬ ((c : Int) = 224) := by omega
  have g225 : (225 ≤ (c : Int)) := by omega
  have l239 : ¬ ((c : Int) ≤ 239) := by omega
  have e237 : ¬ ((c : Int) = 237) := by omega
  have e240 : ¬ ((c : Int) = 240) := by omega
  have g241 : (241 ≤ (c : Int)) := by omega
  have l243 : ¬ ((c : Int) ≤ 243) := by omega
  have e244 : ((c : Int) = 244) := by omega
  have T : Hid (∀ wx, Calls Tryd.prog 64 #[.string s, .int .i64 4, .int .u8 128, .int .u8 143] wx fun e w' => e = .returned (.bool false) ∧ w' = wx) := fun wx => tail_false hT (by omega) (by omega) (by omega) (by omega) wx
  clear hT
  clear hc ha hb h0
  go_enter Tryd.func47, Tryd.ntmps47
  go_wp2_with (first | (go_at_call 64; refine (T.out _).mono ?_; rintro e _ ⟨rfl, rfl⟩) | fail)
  go_ret
  exact ⟨rfl, rfl⟩

set_option maxRecDepth 100000 in
set_option maxHeartbeats 1000000 in
theorem wide_hi (s : ByteArray) (w : World) (c : Nat) (h0 : 0 < s.size) (hc : by8 s 0 = c) (ha : 245 ≤ c) (hb : c ≤ 255) :
    Calls Tryd.prog 47 #[.string s] w fun e w' => e = .returned (.int .i64 0) ∧ w' = w := by
  have hne := not_empty s h0
  have i0 := index_str s 0 w h0
  simp only [Int.cast_ofNat_Int] at i0
  rw [hc] at i0
  have c128 : ¬ ((c : Int) < 128) := by omega
  have g194 : (194 ≤ (c : Int)) := by omega
  have l223 : ¬ ((c : Int) ≤ 223) := by omega
  have e224 : ¬ ((c : Int) = 224) := by omega
  have g225 : (225 ≤ (c : Int)) := by omega
  have l239 : ¬ ((c : Int) ≤ 239) := by omega
  have e237 : ¬ ((c : Int) = 237) := by omega
  have e240 : ¬ ((c : Int) = 240) := by omega
  have g241 : (241 ≤ (c : Int)) := by omega
  have l243 : ¬ ((c : Int) ≤ 243) := by omega
  have e244 : ¬ ((c : Int) = 244) := by omega
  clear hc ha hb h0
  go_enter Tryd.func47, Tryd.ntmps47
  go_wp2
  go_ret
  exact ⟨rfl, rfl⟩
end Go.Proofs.YtepkanibcljdkaaDoor.Q

