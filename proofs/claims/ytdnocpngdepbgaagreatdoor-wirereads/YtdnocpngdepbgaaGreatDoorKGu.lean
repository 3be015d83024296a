import Derived.Test.YtdnocpngdepbgaaGreatDoorKGt
import Derived.Lib.TrimUEq
import Derived.Lib.DecodeNEq
import Derived.Lib.ValidLaws
import Derived.Shelf.Spec.DecodeRune
namespace Go.Proofs.YtdnocpngdepbgaaGreatDoor.K
open Go.RowKit
set_option linter.unusedVariables false
set_option linter.unusedSimpArgs false

/-- How many bytes the character at the front has; 0: none stands there. -/
def wdN (m b0 b1 b2 b3 : Nat) : Nat := if (Lib.decodeN m b0 b1 b2 b3).1 = 65533 ∧ (Lib.decodeN m b0 b1 b2 b3).2 = 1 then 0 else (Lib.decodeN m b0 b1 b2 b3).2
def wd (l : List UInt8) : Nat := wdN l.length (l.getD 0 0).toNat (l.getD 1 0).toNat (l.getD 2 0).toNat (l.getD 3 0).toNat
theorem wd_dec (l : List UInt8) : wd l = if (Lib.decodeL l).1 = 65533 ∧ (Lib.decodeL l).2 = 1 then 0 else (Lib.decodeL l).2 := by
  rw [Lib.decodeL_N]
  rfl
theorem wd_cls (m b0 b1 b2 b3 sz lo hi : Nat) (hs : sz = 2 ∨ sz = 3 ∨ sz = 4) (h : Lib.slowN m b0 b1 b2 b3 sz lo hi = Lib.decodeN m b0 b1 b2 b3) : wdN m b0 b1 b2 b3 = if (sz ≤ m ∧ (lo ≤ b1 ∧ b1 ≤ hi) ∧ (sz ≤ 2 ∨ (128 ≤ b2 ∧ b2 ≤ 191)) ∧ (sz ≤ 3 ∨ (128 ≤ b3 ∧ b3 ≤ 191))) then sz else 0 := by
  unfold wdN
  rw [← h]
  unfold Lib.slowN
  by_cases c1 : m < sz
  · rw [if_pos c1, if_pos ⟨rfl, rfl⟩, if_neg (by omega)]
  rw [if_neg c1]
  by_cases c2 : b1 < lo ∨ hi < b1
  · rw [if_pos c2, if_pos ⟨rfl, rfl⟩, if_neg (by omega)]
  rw [if_neg c2]
  by_cases c3 : sz ≤ 2
  · rw [if_pos c3, if_neg (by simp), if_pos (by omega)]
    simp only
    omega
  rw [if_neg c3]
  by_cases c4 : b2 < 128 ∨ 191 < b2
  · rw [if_pos c4, if_pos ⟨rfl, rfl⟩, if_neg (by omega)]
  rw [if_neg c4]
  by_cases c5 : sz ≤ 3
  · rw [if_pos c5, if_neg (by simp), if_pos (by omega)]
    simp only
    omega
  rw [if_neg c5]
  by_cases c6 : b3 < 128 ∨ 191 < b3
  · rw [if_pos c6, if_pos ⟨rfl, rfl⟩, if_neg (by omega)]
  rw [if_neg c6, if_neg (by simp), if_pos (by omega)]
  simp only
  omega
theorem wd_bad (m b0 b1 b2 b3 : Nat) (h : (128 ≤ b0 ∧ b0 < 194) ∨ (245 ≤ b0 ∧ b0 < 256)) : wdN m b0 b1 b2 b3 = 0 := by
  unfold wdN
  rw [Lib.decodeN_bad m b0 b1 b2 b3 h, if_pos ⟨rfl, rfl⟩]
theorem wd_asc (m b0 b1 b2 b3 : Nat) (h : b0 < 128) : wdN m b0 b1 b2 b3 = 1 := by
  have e : Lib.decodeN m b0 b1 b2 b3 = (b0, 1) := by unfold Lib.decodeN; rw [if_pos h]
  unfold wdN
  rw [e, if_neg (by simp; omega)]
theorem wd_le (m b0 b1 b2 b3 : Nat) (hm : 1 ≤ m) (h0 : b0 < 256) (h1 : b1 < 256) (h2 : b2 < 256) (h3 : b3 < 256) : wdN m b0 b1 b2 b3 ≤ m := by
  by_cases a : b0 < 128
  · rw [wd_asc _ _ _ _ _ a]; exact hm
  by_cases b : (128 ≤ b0 ∧ b0 < 194) ∨ (245 ≤ b0 ∧ b0 < 256)
  · rw [wd_bad _ _ _ _ _ b]; omega
  have hX : Lib.firstT b0 < 240 := by
    unfold Lib.firstT
    repeat' split
    all_goals omega
  have sz : Lib.firstT b0 % 8 = 2 ∨ Lib.firstT b0 % 8 = 3 ∨ Lib.firstT b0 % 8 = 4 := by
    rcases Lib.firstT_cases b0 with x | x | x | x | x | x | x | x | x <;> omega
  rw [wd_cls m b0 b1 b2 b3 _ _ _ sz (Lib.slow_eq m b0 b1 b2 b3 hm h1 h2 h3 hX)]
  split
  · rename_i h; exact h.1
  · omega
theorem wdl_le (l : List UInt8) (h : 0 < l.length) : wd l ≤ l.length := wd_le _ _ _ _ _ h (l.getD 0 0).toNat_lt (l.getD 1 0).toNat_lt (l.getD 2 0).toNat_lt (l.getD 3 0).toNat_lt
theorem wd_at (s : ByteArray) (i : Nat) : wd (s.data.toList.drop i) = wdN (s.size - i) (by8 s i) (by8 s (i + 1)) (by8 s (i + 2)) (by8 s (i + 3)) := by
  unfold wd by8
  rw [List.length_drop]
  simp only [List.getD_eq_getElem?_getD, List.getElem?_drop, Nat.add_zero]
  rfl
theorem tailB_iff (s : ByteArray) (i n lo hi : Nat) (hn : n = 2 ∨ n = 3 ∨ n = 4) : TailB s i n lo hi = true ↔ (n ≤ s.size - i ∧ (lo ≤ by8 s (i + 1) ∧ by8 s (i + 1) ≤ hi) ∧ (n ≤ 2 ∨ (128 ≤ by8 s (i + 2) ∧ by8 s (i + 2) ≤ 191)) ∧ (n ≤ 3 ∨ (128 ≤ by8 s (i + 3) ∧ by8 s (i + 3) ≤ 191))) := by
  unfold TailB folB
  simp only [Bool.and_eq_true, Bool.or_eq_true, decide_eq_true_eq]
  omega
theorem if_tail (s : ByteArray) (i n lo hi : Nat) (hn : n = 2 ∨ n = 3 ∨ n = 4) (b0 : Nat) (h : Lib.slowN (s.size - i) b0 (by8 s (i + 1)) (by8 s (i + 2)) (by8 s (i + 3)) n lo hi = Lib.decodeN (s.size - i) b0 (by8 s (i + 1)) (by8 s (i + 2)) (by8 s (i + 3))) (hb : by8 s i = b0) : ((wd (s.data.toList.drop i) : Nat) : Int) = if TailB s i n lo hi = true then (n : Int) else 0 := by
  rw [wd_at, hb, wd_cls _ _ _ _ _ n lo hi hn h]
  by_cases hT : TailB s i n lo hi = true
  · rw [if_pos hT, if_pos ((tailB_iff s i n lo hi hn).1 hT)]
  · rw [if_neg hT, if_neg (fun h => hT ((tailB_iff s i n lo hi hn).2 h))]
    rfl
set_option maxRecDepth 100000 in
set_option maxHeartbeats 1000000 in
theorem seq_asc (s : ByteArray) (i c : Nat) (w : World) (h0 : i < s.size) (hs : s.size ≤ 140737488355328) (hc : by8 s i = c) (ha : c < 128) :
    Calls Tryz.prog 136 #[.string s, .int .i64 (i : Int)] w fun e w' => e = .returned (.int .i64 1) ∧ w' = w := by
  have i0 := fun wx => index_str s i (i : Int) rfl wx h0
  rw [hc] at i0
  have hi0 : ¬ (i : Int) < 0 := by omega
  have hi1 : ¬ (s.size : Int) ≤ (i : Int) := by omega
  have q0 : (c : Int) < 128 := by omega
  clear hc ha h0
  go_enter Tryz.func136, Tryz.ntmps136
  go_wp2
  go_ret
  exact ⟨rfl, rfl⟩
theorem seq_any (s : ByteArray) (i : Nat) (w : World) (h0 : i < s.size) (hs : s.size ≤ 140737488355328) :
    Calls Tryz.prog 136 #[.string s, .int .i64 (i : Int)] w fun e w' => e = .returned (.int .i64 ((wd (s.data.toList.drop i) : Nat) : Int)) ∧ w' = w := by
  obtain ⟨c, hc⟩ : ∃ c, by8 s i = c := ⟨_, rfl⟩
  have hlt := by8_lt s i
  have l1 := by8_lt s (i + 1)
  have l2 := by8_lt s (i + 2)
  have l3 := by8_lt s (i + 3)
  have hm : 1 ≤ s.size - i := by omega
  rw [hc] at hlt
  by_cases q : c < 128
  · rw [wd_at, hc, wd_asc _ _ _ _ _ q]
    exact seq_asc s i c w h0 hs hc q
  by_cases q1 : c ≤ 193
  · rw [wd_at, hc, wd_bad _ _ _ _ _ (by omega)]
    exact seq_lo s i c w h0 hs hc (by omega) q1
  by_cases q2 : c ≤ 223
  · rw [if_tail s i 2 128 191 (by decide) c (Lib.slow_C2 _ _ _ _ _ hm l1 l2 l3 (by omega)) hc]
    exact seq_two s i c w h0 hs hc (by omega) q2
  by_cases q3 : c ≤ 224
  · rw [if_tail s i 3 160 191 (by decide) c (Lib.slow_E0 _ _ _ _ _ hm l1 l2 l3 (by omega)) hc]
    exact seq_e0 s i c w h0 hs hc (by omega) q3
  by_cases q4 : c ≤ 236
  · rw [if_tail s i 3 128 191 (by decide) c (Lib.slow_E1 _ _ _ _ _ hm l1 l2 l3 (by omega)) hc]
    exact seq_e1 s i c w h0 hs hc (by omega) q4
  by_cases q5 : c ≤ 237
  · rw [if_tail s i 3 128 159 (by decide) c (Lib.slow_ED _ _ _ _ _ hm l1 l2 l3 (by omega)) hc]
    exact seq_ed s i c w h0 hs hc (by omega) q5
  by_cases q6 : c ≤ 239
  · rw [if_tail s i 3 128 191 (by decide) c (Lib.slow_E1 _ _ _ _ _ hm l1 l2 l3 (by omega)) hc]
    exact seq_ee s i c w h0 hs hc (by omega) q6
  by_cases q7 : c ≤ 240
  · rw [if_tail s i 4 144 191 (by decide) c (Lib.slow_F0 _ _ _ _ _ hm l1 l2 l3 (by omega)) hc]
    exact seq_f0 s i c w h0 hs hc (by omega) q7
  by_cases q8 : c ≤ 243
  · rw [if_tail s i 4 128 191 (by decide) c (Lib.slow_F1 _ _ _ _ _ hm l1 l2 l3 (by omega)) hc]
    exact seq_f1 s i c w h0 hs hc (by omega) q8
  by_cases q9 : c ≤ 244
  · rw [if_tail s i 4 128 143 (by decide) c (Lib.slow_F4 _ _ _ _ _ hm l1 l2 l3 (by omega)) hc]
    exact seq_f4 s i c w h0 hs hc (by omega) q9
  rw [wd_at, hc, wd_bad _ _ _ _ _ (by omega)]
  exact seq_hi s i c w h0 hs hc (by omega) (by omega)
end Go.Proofs.YtdnocpngdepbgaaGreatDoor.K
