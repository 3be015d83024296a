import Derived.Test.YtnbjelpnpnppmaaDoorTornM
namespace Go.Proofs.YtnbjelpnpnppmaaDoor
open Go.RowKit
set_option linter.unusedVariables false
set_option linter.unusedSimpArgs false

theorem open_tornT (k : UInt8) (b t : List UInt8) (i : Nat) (v : UInt8) (h : b.length ≤ 16777216) (hi0 : i < (frame k b).length) (ho : openE ((frame k b ++ t).set i v) = 0) : (frame k b ++ t).getD i 0 = v := by
  have e5 := frame_rd5 k b t
  have e1 := frame_rd1 k b t h
  have eE := frame_rdE k b t
  have hf : (frame k b ++ t).length = b.length + 13 + t.length := by rw [List.length_append, frame_len]
  have hi : i < (frame k b ++ t).length := by rw [List.length_append]; omega
  have hi13 : i < b.length + 13 := by rw [frame_len] at hi0; exact hi0
  generalize frame k b ++ t = F at *
  unfold openE at ho
  rw [List.length_set] at ho
  rw [if_neg (by omega)] at ho
  by_cases c5 : rd (F.set i v) 5 = (crc ((F.set i v).take 5)).toNat
  · rw [if_neg (fun e => e c5)] at ho
    by_cases i5 : i < 5
    · rw [rd_other F i 5 v hi (by omega), e5, List.take_set] at c5
      have := crc_set (F.take 5) i v (by rw [List.length_take]; omega) (UInt32.toNat_inj.1 c5.symm)
      rw [← this]
      simp [List.getElem?_take, i5]
    · by_cases i9 : i < 9
      · have et : (F.set i v).take 5 = F.take 5 := by rw [List.take_set, List.set_eq_of_length_le (by rw [List.length_take]; omega)]
        rw [et, ← e5] at c5
        exact rd_same F i 5 v hi (by omega) (by omega) c5
      · have e1' : rd (F.set i v) 1 = b.length := by rw [rd_other F i 1 v hi (by omega)]; exact e1
        rw [e1', if_neg (by omega), if_neg (by omega)] at ho
        by_cases cE : rd (F.set i v) (9 + b.length) = (crc ((F.set i v).take (9 + b.length))).toNat
        · by_cases iE : i < 9 + b.length
          · rw [rd_other F i _ v hi (by omega), eE, List.take_set] at cE
            have := crc_set (F.take (9 + b.length)) i v (by rw [List.length_take]; omega) (UInt32.toNat_inj.1 cE.symm)
            rw [← this]
            simp [List.getElem?_take, iE]
          · have et : (F.set i v).take (9 + b.length) = F.take (9 + b.length) := by rw [List.take_set, List.set_eq_of_length_le (by rw [List.length_take]; omega)]
            rw [et, ← eE] at cE
            exact rd_same F i _ v hi (by omega) (by omega) cE
        · rw [if_pos cE] at ho; omega
  · rw [if_pos c5] at ho; omega
theorem open_tail (k : UInt8) (b t : List UInt8) (i : Nat) (v : UInt8) (h : b.length ≤ 16777216) (hi : i < (frame k b).length) (ho : openE ((frame k b).set i v ++ t) = 0) : (frame k b).getD i 0 = v := by
  have e : (frame k b).set i v ++ t = (frame k b ++ t).set i v := (List.set_append_left i v hi).symm
  rw [e] at ho
  have := open_tornT k b t i v h hi ho
  rw [← this]
  simp [List.getElem?_append_left hi]
theorem open_cutS (k : UInt8) (b : List UInt8) (i : Nat) (v : UInt8) (n : Nat) (h : b.length ≤ 16777216) (hn : n < (frame k b).length) : openE (((frame k b).set i v).take n) ≠ 0 := by
  by_cases hi : i < (frame k b).length
  · by_cases hv : (frame k b).getD i 0 = v
    · have : (frame k b).set i v = frame k b := by
        rw [← hv]
        simp [List.getElem?_eq_getElem hi]
      rw [this]
      exact open_cut k b n h hn
    · intro ho
      apply hv
      have e5 := frame_rd5 k b []
      have e1 := frame_rd1 k b [] h
      rw [List.append_nil] at e5 e1
      have hf := frame_len k b
      generalize frame k b = F at *
      have hl : ((F.set i v).take n).length = n := by rw [List.length_take, List.length_set]; omega
      unfold openE at ho
      rw [hl] at ho
      by_cases h9 : n < 9
      · rw [if_pos h9] at ho; omega
      rw [if_neg h9, rd_take _ _ 5 (by omega), rd_take _ _ 1 (by omega), List.take_take, Nat.min_eq_left (by omega)] at ho
      by_cases c5 : rd (F.set i v) 5 = (crc ((F.set i v).take 5)).toNat
      · rw [if_neg (fun e => e c5)] at ho
        by_cases i5 : i < 5
        · rw [rd_other F i 5 v hi (by omega), e5, List.take_set] at c5
          have := crc_set (F.take 5) i v (by rw [List.length_take]; omega) (UInt32.toNat_inj.1 c5.symm)
          rw [← this]
          simp [List.getElem?_take, i5]
        · by_cases i9 : i < 9
          · have et : (F.set i v).take 5 = F.take 5 := by rw [List.take_set, List.set_eq_of_length_le (by rw [List.length_take]; omega)]
            rw [et, ← e5] at c5
            exact rd_same F i 5 v hi (by omega) (by omega) c5
          · have e1' : rd (F.set i v) 1 = b.length := by rw [rd_other F i 1 v hi (by omega)]; exact e1
            rw [e1', if_neg (by omega), if_pos (by omega)] at ho
            omega
      · rw [if_pos c5] at ho; omega
  · rw [List.set_eq_of_length_le (by omega)]
    exact open_cut k b n h hn
end Go.Proofs.YtnbjelpnpnppmaaDoor
