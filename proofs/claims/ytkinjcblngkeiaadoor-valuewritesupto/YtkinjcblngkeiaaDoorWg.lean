import Derived.Test.YtkinjcblngkeiaaDoorVh
import Derived.Test.YtkinjcblngkeiaaDoorGv
namespace Go.Proofs.YtkinjcblngkeiaaDoor
open Go.RowKit
set_option linter.unusedVariables false
set_option linter.unusedSimpArgs false

namespace V
def wideB (n b0 b1 b2 b3 : Nat) : Nat :=
  if b0 < 128 then 1 else (Lib.checkN n b1 b2 b3 (Lib.firstT b0 % 8) (Lib.accLo (Lib.firstT b0 / 16)) (Lib.accHi (Lib.firstT b0 / 16))).getD 0
theorem wideN_B (s : ByteArray) : wideN s = wideB s.size (by8 s 0) (by8 s 1) (by8 s 2) (by8 s 3) := rfl
theorem decL (t : ByteArray) : Lib.decodeL t.data.toList = Lib.decodeN t.size (by8 t 0) (by8 t 1) (by8 t 2) (by8 t 3) := by
  rw [Lib.decodeL_N]
  unfold by8
  congr 1
theorem decN_high (n b0 b1 b2 b3 : Nat) (h : 128 ≤ b0) : 128 ≤ (Lib.decodeN n b0 b1 b2 b3).1 := by
  unfold Lib.decodeN
  repeat' split
  all_goals (simp only []; omega)
theorem wide_dec (t : ByteArray) (h0 : 0 < t.size) :
    (by8 t 0 < 128 ∧ wideN t = 1 ∧ Lib.decodeL t.data.toList = (by8 t 0, 1)) ∨
    (128 ≤ by8 t 0 ∧ wideN t = 0 ∧ Lib.decodeL t.data.toList = (65533, 1)) ∨
    (128 ≤ by8 t 0 ∧ 2 ≤ wideN t ∧ (Lib.decodeL t.data.toList).2 = wideN t ∧ 128 ≤ (Lib.decodeL t.data.toList).1) := by
  rw [decL, wideN_B]
  have l0 := by8_lt t 0
  have l1 := by8_lt t 1
  have l2 := by8_lt t 2
  have l3 := by8_lt t 3
  generalize by8 t 0 = b0 at *
  generalize by8 t 1 = b1 at *
  generalize by8 t 2 = b2 at *
  generalize by8 t 3 = b3 at *
  generalize t.size = n at *
  by_cases h : b0 < 128
  · left
    refine ⟨h, by unfold wideB; rw [if_pos h], by unfold Lib.decodeN; rw [if_pos h]⟩
  · have h128 : 128 ≤ b0 := by omega
    have hi := decN_high n b0 b1 b2 b3 h128
    right
    by_cases hX : Lib.firstT b0 < 240
    · have e := Lib.slow_eq n b0 b1 b2 b3 (by omega) l1 l2 l3 hX
      have sz : Lib.firstT b0 % 8 = 2 ∨ Lib.firstT b0 % 8 = 3 ∨ Lib.firstT b0 % 8 = 4 := by
        rcases Lib.firstT_cases b0 with x | x | x | x | x | x | x | x | x <;> omega
      rcases Lib.check_slow n b0 b1 b2 b3 (Lib.firstT b0 % 8) (Lib.accLo (Lib.firstT b0 / 16)) (Lib.accHi (Lib.firstT b0 / 16)) sz with ⟨c, d⟩ | ⟨c, d⟩
      · left
        refine ⟨h128, by unfold wideB; rw [if_neg h, c]; rfl, by rw [← e, d]⟩
      · right
        have ew : wideB n b0 b1 b2 b3 = Lib.firstT b0 % 8 := by unfold wideB; rw [if_neg h, c]; rfl
        exact ⟨h128, by rw [ew]; omega, by rw [ew, ← e, d], hi⟩
    · left
      have x1 : Lib.firstT b0 = 241 := by
        rcases Lib.firstT_cases b0 with x | x | x | x | x | x | x | x | x <;> first | omega | skip
        exfalso
        unfold Lib.firstT at x
        rw [if_neg h] at x
        repeat' split at x
        all_goals omega
      have hb : (128 ≤ b0 ∧ b0 < 194) ∨ (245 ≤ b0 ∧ b0 < 256) := by
        unfold Lib.firstT at x1
        rw [if_neg h] at x1
        repeat' split at x1
        all_goals omega
      refine ⟨h128, ?_, Lib.decodeN_bad n b0 b1 b2 b3 hb⟩
      unfold wideB
      rw [if_neg h, x1, check_none _ _ _ _ _ _ _ (by decide) (by decide) (by decide)]
      rfl
end V

theorem wd_wide (t : ByteArray) (h0 : 0 < t.size) : wd t.data.toList = V.wideN t := by
  rw [wd_dec]
  rcases V.wide_dec t h0 with ⟨h1, h2, h3⟩ | ⟨h1, h2, h3⟩ | ⟨h1, h2, h3, h4⟩
  · rw [h3, h2, if_neg (fun h => by have := h.1; simp only at this; omega)]
  · rw [h3, h2, if_pos ⟨rfl, rfl⟩]
  · rw [if_neg (fun h => by have := h.2; omega), h3]
theorem valid_wd (l : List UInt8) (h0 : 0 < l.length) (hv : Lib.validD l = true) : wd l ≠ 0 ∧ Lib.validD (l.drop (wd l)) = true := by
  have hz : (⟨l.toArray⟩ : ByteArray).size = l.length := by show l.toArray.size = _; simp
  have h1 := V.valid_wide ⟨l.toArray⟩ (by omega)
  have h2 := wd_wide ⟨l.toArray⟩ (by omega)
  have e : (⟨l.toArray⟩ : ByteArray).data.toList = l := rfl
  rw [e] at h1 h2
  rw [← h2, hv] at h1
  by_cases hw : wd l = 0
  · rw [if_pos hw] at h1
    cases h1
  · rw [if_neg hw] at h1
    exact ⟨hw, h1.symm⟩
theorem good_valid : ∀ (f : Nat) (l : List UInt8), l.length ≤ f → Lib.validD l = true → goodF f l = l.length
  | 0, l, h, _ => by
    have : l.length = 0 := by omega
    rw [this]; rfl
  | f + 1, l, h, hv => by
    by_cases h0 : l.length = 0
    · rw [goodF_end _ _ h0, h0]
    · obtain ⟨h1, h2⟩ := valid_wd l (by omega) hv
      have hle := wdl_le l (by omega)
      rw [goodF_on (f + 1) l (by omega) h h1, Nat.add_sub_cancel, good_valid f (l.drop (wd l)) (by rw [List.length_drop]; omega) h2, List.length_drop]
      omega
end Go.Proofs.YtkinjcblngkeiaaDoor
