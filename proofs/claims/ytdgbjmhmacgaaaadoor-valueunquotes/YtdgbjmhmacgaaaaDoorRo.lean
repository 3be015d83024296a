import Derived.Test.YtdgbjmhmacgaaaaDoorRn
import Derived.Test.YtdgbjmhmacgaaaaDoorQd
import Derived.Test.YtdgbjmhmacgaaaaDoorUu
namespace Go.Proofs.YtdgbjmhmacgaaaaDoor
open Go.RowKit
set_option linter.unusedVariables false
set_option linter.unusedSimpArgs false

theorem decL (t : ByteArray) : Lib.decodeL t.data.toList = Lib.decodeN t.size (by8 t 0) (by8 t 1) (by8 t 2) (by8 t 3) := by
  rw [Lib.decodeL_N]
  unfold by8
  congr 1
theorem decN_high (n b0 b1 b2 b3 : Nat) (h : 128 ≤ b0) : 128 ≤ (Lib.decodeN n b0 b1 b2 b3).1 := by
  unfold Lib.decodeN
  repeat' split
  all_goals (simp only []; omega)
theorem wide_dec (t : ByteArray) (h0 : 0 < t.size) :
    (by8 t 0 < 128 ∧ wideN t = 1 ∧ Lib.decodeL t.data.toList = (by8 t 0, 1)) ∨
    (128 ≤ by8 t 0 ∧ wideN t = 0 ∧ Lib.decodeL t.data.toList = (65533, 1)) ∨
    (128 ≤ by8 t 0 ∧ 2 ≤ wideN t ∧ (Lib.decodeL t.data.toList).2 = wideN t ∧ 128 ≤ (Lib.decodeL t.data.toList).1) := by
  rw [decL, wideN_B]
  have l0 := by8_lt t 0
  have l1 := by8_lt t 1
  have l2 := by8_lt t 2
  have l3 := by8_lt t 3
  generalize by8 t 0 = b0 at *
  generalize by8 t 1 = b1 at *
  generalize by8 t 2 = b2 at *
  generalize by8 t 3 = b3 at *
  generalize t.size = n at *
  by_cases h : b0 < 128
  · left
    refine ⟨h, by unfold wideB; rw [if_pos h], by unfold Lib.decodeN; rw [if_pos h]⟩
  · have h128 : 128 ≤ b0 := by omega
    have hi := decN_high n b0 b1 b2 b3 h128
    right
    by_cases hX : Lib.firstT b0 < 240
    · have e := Lib.slow_eq n b0 b1 b2 b3 (by omega) l1 l2 l3 hX
      have sz : Lib.firstT b0 % 8 = 2 ∨ Lib.firstT b0 % 8 = 3 ∨ Lib.firstT b0 % 8 = 4 := by
        rcases Lib.firstT_cases b0 with x | x | x | x | x | x | x | x | x <;> omega
      rcases Lib.check_slow n b0 b1 b2 b3 (Lib.firstT b0 % 8) (Lib.accLo (Lib.firstT b0 / 16)) (Lib.accHi (Lib.firstT b0 / 16)) sz with ⟨c, d⟩ | ⟨c, d⟩
      · left
        refine ⟨h128, by unfold wideB; rw [if_neg h, c]; rfl, by rw [← e, d]⟩
      · right
        have ew : wideB n b0 b1 b2 b3 = Lib.firstT b0 % 8 := by unfold wideB; rw [if_neg h, c]; rfl
        exact ⟨h128, by rw [ew]; omega, by rw [ew, ← e, d], hi⟩
    · left
      have x1 : Lib.firstT b0 = 241 := by
        rcases Lib.firstT_cases b0 with x | x | x | x | x | x | x | x | x <;> first | omega | skip
        exfalso
        unfold Lib.firstT at x
        rw [if_neg h] at x
        repeat' split at x
        all_goals omega
      have hb : (128 ≤ b0 ∧ b0 < 194) ∨ (245 ≤ b0 ∧ b0 < 256) := by
        unfold Lib.firstT at x1
        rw [if_neg h] at x1
        repeat' split at x1
        all_goals omega
      refine ⟨h128, ?_, Lib.decodeN_bad n b0 b1 b2 b3 hb⟩
      unfold wideB
      rw [if_neg h, x1, check_none _ _ _ _ _ _ _ (by decide) (by decide) (by decide)]
      rfl
theorem byteArray_ext {a b : ByteArray} (h : a.data.toList = b.data.toList) : a = b := by
  cases a; cases b
  simp only [ByteArray.mk.injEq]
  exact Array.toList_inj.1 h
theorem ext_next (s : ByteArray) (k : Nat) : s.extract (k + 1) s.size = (s.extract k s.size).extract 1 (s.extract k s.size).size := by
  apply byteArray_ext
  rw [Lib.ext_list, Lib.ext_list, Lib.ext_list, List.drop_drop, Nat.add_comm]
theorem ext_by8_from (s : ByteArray) (k i : Nat) : by8 (s.extract k s.size) i = by8 s (k + i) := by
  unfold by8
  rw [Lib.ext_list, List.getD_eq_getElem?_getD, List.getD_eq_getElem?_getD, List.getElem?_drop]
theorem ext_take (s : ByteArray) (k m : Nat) : (s.extract k (k + m)).data.toList = (s.extract k s.size).data.toList.take m := by
  rw [Lib.ext_list]
  simp [ByteArray.data_extract, List.take_drop]
theorem own_string {w : World} {base : Nat} {v : Value} {L : List UInt8} (h : OwnB w base v L) : (convert 48 9 v).run Tryd.prog w = .ok (.string ⟨L.toArray⟩) w := by
  by_cases h0 : 0 < L.length
  · obtain ⟨g1, c1, rfl, hc1, hcl, _, _⟩ := h.open1 h0
    exact run_convert_bytes_back (P := Tryd.prog) w 48 9 5 ⟨g1, 0, none⟩ c1 L Tryd.underlying48 Tryd.underlying5 Tryd.underlying9 (fun j hj => by
      have e : (⟨g1, 0, none⟩ : Addr).add j = ⟨g1, j, none⟩ := by simpa using Addr.add_mid g1 0 j
      rw [e, hcl j hj]
      simp [at8, List.getElem?_eq_getElem hj])
  · have hL : L = [] := List.eq_nil_of_length_eq_zero (by omega)
    subst hL
    rcases h.2 with ⟨rfl, hn⟩ | ⟨g, cap, cur, rfl, hbg, hg, hnc, hcm, hcs, htake⟩
    · rw [run_convert_bytes_string w 48 9 5 none 0 0 Tryd.underlying48 Tryd.underlying5 Tryd.underlying9]
      rfl
    · exact run_convert_bytes_back (P := Tryd.prog) w 48 9 5 ⟨g, 0, none⟩ cap [] Tryd.underlying48 Tryd.underlying5 Tryd.underlying9 (fun j hj => by simp at hj)
end Go.Proofs.YtdgbjmhmacgaaaaDoor
