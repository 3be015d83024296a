import Derived.Test.YtdgbjmhmacgaaaaDoorRg
import Derived.Test.YtdgbjmhmacgaaaaDoorUm
namespace Go.Proofs.YtdgbjmhmacgaaaaDoor
open Go.RowKit
set_option linter.unusedVariables false
set_option linter.unusedSimpArgs false

def wideB (n b0 b1 b2 b3 : Nat) : Nat :=
  if b0 < 128 then 1 else (Lib.checkN n b1 b2 b3 (Lib.firstT b0 % 8) (Lib.accLo (Lib.firstT b0 / 16)) (Lib.accHi (Lib.firstT b0 / 16))).getD 0
theorem wideN_B (s : ByteArray) : wideN s = wideB s.size (by8 s 0) (by8 s 1) (by8 s 2) (by8 s 3) := rfl
/-- Of j + 1 bytes and c bytes x behind them, byte i. -/
def qB (b : Nat) (j c x i : Nat) : Nat := if i < j + 1 then b else if i < j + 1 + c then x else 0
def okN (j b0 b1 b2 b3 c x : Nat) : Bool := decide (wideB (j + 1 + c) b0 (qB b1 j c x 1) (qB b2 j c x 2) (qB b3 j c x 3) = j + 1 + c)
def okAll (j b0 b1 b2 b3 : Nat) : Prop := ∃ c, c < 4 ∧ (okN j b0 b1 b2 b3 c 128 || okN j b0 b1 b2 b3 c 191) = true
theorem okAll_four (j b0 b1 b2 b3 : Nat) : okAll j b0 b1 b2 b3 ↔ (okN j b0 b1 b2 b3 0 128 = true ∨ okN j b0 b1 b2 b3 0 191 = true) ∨ (okN j b0 b1 b2 b3 1 128 = true ∨ okN j b0 b1 b2 b3 1 191 = true) ∨ (okN j b0 b1 b2 b3 2 128 = true ∨ okN j b0 b1 b2 b3 2 191 = true) ∨ (okN j b0 b1 b2 b3 3 128 = true ∨ okN j b0 b1 b2 b3 3 191 = true) := by
  unfold okAll
  constructor
  · rintro ⟨c, hc, h⟩
    rw [Bool.or_eq_true] at h
    match c, hc with
    | 0, _ => exact .inl h
    | 1, _ => exact .inr (.inl h)
    | 2, _ => exact .inr (.inr (.inl h))
    | 3, _ => exact .inr (.inr (.inr h))
  · rintro (h | h | h | h)
    · exact ⟨0, by omega, by rw [Bool.or_eq_true]; exact h⟩
    · exact ⟨1, by omega, by rw [Bool.or_eq_true]; exact h⟩
    · exact ⟨2, by omega, by rw [Bool.or_eq_true]; exact h⟩
    · exact ⟨3, by omega, by rw [Bool.or_eq_true]; exact h⟩
theorem gd_iff (p : Prop) [Decidable p] (k m : Nat) : ((if p then (none : Option Nat) else some k).getD 0 = m) ↔ (p ∧ m = 0) ∨ (¬ p ∧ m = k) := by
  split
  · rename_i h
    simp [h]
    omega
  · rename_i h
    simp [h]
    omega
set_option maxHeartbeats 4000000 in
theorem num_ok (j b0 b1 b2 b3 : Nat) (hj : j < 4) (h128 : 128 ≤ b0) (hne : okN j b0 b1 b2 b3 0 128 = false) : okAll j b0 b1 b2 b3 ↔ fullB (j + 1) b0 b1 b2 = false := by
  have e0 : okN j b0 b1 b2 b3 0 191 = okN j b0 b1 b2 b3 0 128 := by
    unfold okN qB
    simp only [Nat.add_zero]
    congr 3 <;> (repeat' split) <;> first | rfl | omega
  rw [okAll_four, e0, hne]
  have hn : ¬ b0 < 128 := by omega
  rcases Lib.firstT_cases b0 with hX | hX | hX | hX | hX | hX | hX | hX | hX
  · exfalso
    unfold Lib.firstT at hX
    rw [if_neg hn] at hX
    repeat' split at hX
    all_goals omega
  all_goals (
    match j, hj with
    | 0, _ => simp [okN, qB, wideB, hn, hX, Lib.checkN, fullB, Lib.accLo, Lib.accHi, gd_iff] at hne ⊢ <;> omega
    | 1, _ => simp [okN, qB, wideB, hn, hX, Lib.checkN, fullB, Lib.accLo, Lib.accHi, gd_iff] at hne ⊢ <;> omega
    | 2, _ => simp [okN, qB, wideB, hn, hX, Lib.checkN, fullB, Lib.accLo, Lib.accHi, gd_iff] at hne ⊢ <;> omega
    | 3, _ => simp [okN, qB, wideB, hn, hX, Lib.checkN, fullB, Lib.accLo, Lib.accHi, gd_iff] at hne ⊢ <;> omega)
set_option maxHeartbeats 4000000 in
theorem num_pre (j n b0 b1 b2 b3 : Nat) (hj : j < 4) (h128 : 128 ≤ b0) (hn0 : j + 1 ≤ n) (h : okN j b0 b1 b2 b3 0 128 = true) : wideB n b0 b1 b2 b3 ≠ 0 := by
  have hn : ¬ b0 < 128 := by omega
  have k2 : ¬ n < j + 1 := by omega
  rcases Lib.firstT_cases b0 with hX | hX | hX | hX | hX | hX | hX | hX | hX
  · exfalso
    unfold Lib.firstT at hX
    rw [if_neg hn] at hX
    repeat' split at hX
    all_goals omega
  all_goals (
    match j, hj with
    | 0, _ => simp [okN, qB, wideB, hn, hX, Lib.checkN, Lib.accLo, Lib.accHi, gd_iff] at h ⊢ <;> omega
    | 1, _ => simp [okN, qB, wideB, hn, hX, Lib.checkN, Lib.accLo, Lib.accHi, gd_iff] at h ⊢ <;> omega
    | 2, _ => simp [okN, qB, wideB, hn, hX, Lib.checkN, Lib.accLo, Lib.accHi, gd_iff] at h ⊢ <;> omega
    | 3, _ => simp [okN, qB, wideB, hn, hX, Lib.checkN, Lib.accLo, Lib.accHi, gd_iff] at h ⊢ <;> omega)
theorem pad_by8 (s : ByteArray) (j c i : Nat) (x : UInt8) (hj : j < s.size) : by8 (padB (s.extract 0 (j + 1)) x c) i = qB (by8 s i) j c x.toNat i := by
  unfold by8 qB
  have e : (s.extract 0 (j + 1)).data.toList = s.data.toList.take (j + 1) := by simp [ByteArray.data_extract]
  have hl : s.data.toList.length = s.size := by simp
  rw [padB_list, e, List.getD_eq_getElem?_getD, List.getD_eq_getElem?_getD]
  have hl2 : (s.data.toList.take (j + 1)).length = j + 1 := by rw [List.length_take]; omega
  by_cases h1 : i < j + 1
  · rw [if_pos h1, List.getElem?_append_left (by omega), List.getElem?_take, if_pos h1]
  · rw [if_neg h1, List.getElem?_append_right (by omega), hl2, List.getElem?_replicate]
    by_cases h2 : i < j + 1 + c
    · rw [if_pos h2, if_pos (by omega)]; rfl
    · rw [if_neg h2, if_neg (by omega)]; rfl
theorem wide_pad (s : ByteArray) (j c : Nat) (x : UInt8) (hj : j < s.size) : wideN (padB (s.extract 0 (j + 1)) x c) = wideB (j + 1 + c) (by8 s 0) (qB (by8 s 1) j c x.toNat 1) (qB (by8 s 2) j c x.toNat 2) (qB (by8 s 3) j c x.toNat 3) := by
  rw [wideN_B, padB_size, pad_by8 s j c 0 x hj, pad_by8 s j c 1 x hj, pad_by8 s j c 2 x hj, pad_by8 s j c 3 x hj]
  have e : (s.extract 0 (j + 1)).size = j + 1 := by rw [ByteArray.size_extract]; omega
  rw [e]
  have e0 : qB (by8 s 0) j c x.toNat 0 = by8 s 0 := by unfold qB; rw [if_pos (by omega)]
  rw [e0]
theorem okAt_num (s : ByteArray) (j : Nat) (hj : j < s.size) : OkAt s j ↔ okAll j (by8 s 0) (by8 s 1) (by8 s 2) (by8 s 3) := by
  unfold OkAt okAll
  have e : (s.extract 0 (j + 1)).size = j + 1 := by rw [ByteArray.size_extract]; omega
  have k : ∀ c, fullOk (s.extract 0 (j + 1)) c = (okN j (by8 s 0) (by8 s 1) (by8 s 2) (by8 s 3) c 128 || okN j (by8 s 0) (by8 s 1) (by8 s 2) (by8 s 3) c 191) := fun c => by
    unfold fullOk okN
    rw [wide_pad s j c 128 hj, wide_pad s j c 191 hj, e]
    rfl
  constructor
  · rintro ⟨c, hc, h⟩
    exact ⟨c, hc, by rw [← k]; exact h⟩
  · rintro ⟨c, hc, h⟩
    exact ⟨c, hc, by rw [k]; exact h⟩
theorem pre_num (s : ByteArray) (j : Nat) (hj : j < s.size) (h : wideN (s.extract 0 (j + 1)) = j + 1) : okN j (by8 s 0) (by8 s 1) (by8 s 2) (by8 s 3) 0 128 = true := by
  unfold okN
  have := wide_pad s j 0 128 hj
  rw [show padB (s.extract 0 (j + 1)) 128 0 = s.extract 0 (j + 1) from rfl, h] at this
  rw [decide_eq_true_iff]
  exact this.symm
theorem num_pre' (s : ByteArray) (j : Nat) (hj : j < s.size) (h : okN j (by8 s 0) (by8 s 1) (by8 s 2) (by8 s 3) 0 128 = true) : wideN (s.extract 0 (j + 1)) = j + 1 := by
  unfold okN at h
  rw [decide_eq_true_iff] at h
  have := wide_pad s j 0 128 hj
  rw [show padB (s.extract 0 (j + 1)) 128 0 = s.extract 0 (j + 1) from rfl] at this
  rw [this]
  exact h
theorem beg_of_go {s : ByteArray} {n : Nat} (h0 : 0 < s.size) (hw : wideN s = 0) (g : GoP s n) : BegP s n := by
  have h128 : 128 ≤ by8 s 0 := by
    rcases Nat.lt_or_ge (by8 s 0) 128 with h | h
    · unfold wideN at hw
      rw [if_pos h] at hw
      cases hw
    · exact h
  have hne : ∀ j, j < 4 → j < s.size → okN j (by8 s 0) (by8 s 1) (by8 s 2) (by8 s 3) 0 128 = false := fun j h4 hj => by
    cases hq : okN j (by8 s 0) (by8 s 1) (by8 s 2) (by8 s 3) 0 128 with
    | false => rfl
    | true =>
      have := num_pre j s.size _ _ _ _ h4 h128 (by omega) hq
      rw [← wideN_B] at this
      exact absurd hw this
  have key : ∀ j, j < 4 → j < s.size → (OkAt s j ↔ fullAt s (j + 1) = false) := fun j h4 hj => by
    rw [okAt_num s j hj, num_ok j _ _ _ _ h4 h128 (hne j h4 hj)]
    rfl
  have l4 := g.le4
  have ls := g.le
  refine ⟨g.le, fun j hj => (key j (by omega) (by omega)).1 (g.ok j hj), fun hlt => ?_⟩
  rcases g.fin with ⟨a, b, c⟩ | ⟨a, b⟩ | a | a
  · cases hq : fullAt s (n + 1) with
    | true => rfl
    | false => exact absurd ((key n b a).2 hq) c
  · obtain ⟨m, rfl⟩ : ∃ m, n = m + 1 := ⟨n - 1, by omega⟩
    have := pre_num s m (by omega) b
    rw [hne m (by omega) (by omega)] at this
    cases this
  · omega
  · subst a
    have h3 := (key 3 (by omega) (by omega)).1 (g.ok 3 (by omega))
    unfold fullAt fullB at h3
    rw [if_pos (by rcases Lib.firstT_cases (by8 s 0) with hX | hX | hX | hX | hX | hX | hX | hX | hX <;> omega)] at h3
    cases h3
end Go.Proofs.YtdgbjmhmacgaaaaDoor
