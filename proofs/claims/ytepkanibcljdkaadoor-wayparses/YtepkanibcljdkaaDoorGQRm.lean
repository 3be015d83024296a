import Derived.Test.YtepkanibcljdkaaDoorGQRa
import Derived.Test.YtepkanibcljdkaaDoorGQUm
import Derived.Test.YtepkanibcljdkaaDoorQQh
import Derived.Test.YtepkanibcljdkaaDoorGQOb
namespace Go.Proofs.YtepkanibcljdkaaDoor.Q
open Go.RowKit
set_option linter.unusedVariables false
set_option linter.unusedSimpArgs false

def wideB (n b0 b1 b2 b3 : Nat) : Nat :=
  if b0 < 128 then 1 else (Lib.checkN n b1 b2 b3 (Lib.firstT b0 % 8) (Lib.accLo (Lib.firstT b0 / 16)) (Lib.accHi (Lib.firstT b0 / 16))).getD 0
theorem wideN_B (s : ByteArray) : wideN s = wideB s.size (by8 s 0) (by8 s 1) (by8 s 2) (by8 s 3) := rfl
/-- Of j + 1 bytes and c bytes x behind them, byte i. -/
def qB (b : Nat) (j c x i : Nat) : Nat := if i < j + 1 then b else if i < j + 1 + c then x else 0
def okN (j b0 b1 b2 b3 c x : Nat) : Bool := decide (wideB (j + 1 + c) b0 (qB b1 j c x 1) (qB b2 j c x 2) (qB b3 j c x 3) = j + 1 + c)
def okAll (j b0 b1 b2 b3 : Nat) : Prop := ∃ c, c < 4 ∧ (okN j b0 b1 b2 b3 c 128 || okN j b0 b1 b2 b3 c 191) = true
theorem okAll_four (j b0 b1 b2 b3 : Nat) : okAll j b0 b1 b2 b3 ↔ (okN j b0 b1 b2 b3 0 128 = true ∨ okN j b0 b1 b2 b3 0 191 = true) ∨ (okN j b0 b1 b2 b3 1 128 = true ∨ okN j b0 b1 b2 b3 1 191 = true) ∨ (okN j b0 b1 b2 b3 2 128 = true ∨ okN j b0 b1 b2 b3 2 191 = true) ∨ (okN j b0 b1 b2 b3 3 128 = true ∨ okN j b0 b1 b2 b3 3 191 = true) := by
  unfold okAll
  constructor
  · rintro ⟨c, hc, h⟩
    rw [Bool.or_eq_true] at h
    match c, hc with
    | 0, _ => exact .inl h
    | 1, _ => exact .inr (.inl h)
    | 2, _ => exact .inr (.inr (.inl h))
    | 3, _ => exact .inr (.inr (.inr h))
  · rintro (h | h | h | h)
    · exact ⟨0, by omega, by rw [Bool.or_eq_true]; exact h⟩
    · exact ⟨1, by omega, by rw [Bool.or_eq_true]; exact h⟩
    · exact ⟨2, by omega, by rw [Bool.or_eq_true]; exact h⟩
    · exact ⟨3, by omega, by rw [Bool.or_eq_true]; exact h⟩
theorem gd_iff (p : Prop) [Decidable p] (k m : Nat) : ((if p then (none : Option Nat) else some k).getD 0 = m) ↔ (p ∧ m = 0) ∨ (¬ p ∧ m = k) := by
  split
  · rename_i h
    simp [h]
    omega
  · rename_i h
    simp [h]
    omega
set_option maxHeartbeats 4000000 in
theorem num_ok (j b0 b1 b2 b3 : Nat) (hj : j < 4) (h128 : 128 ≤ b0) (hne : okN j b0 b1 b2 b3 0 128 = false) : okAll j b0 b1 b2 b3 ↔ fullB (j + 1) b0 b1 b2 = false := by
  have e0 : okN j b0 b1 b2 b3 0 191 = okN j b0 b1 b2 b3 0 128 := by
    unfold okN qB
    simp only [Nat.add_zero]
    congr 3 <;> (repeat' split) <;> first | rfl | omega
  rw [okAll_four, e0, hne]
  have hn : ¬ b0 < 128 := by omega
  rcases Lib.firstT_cases b0 with hX | hX | hX | hX | hX | hX | hX | hX | hX
  · exfalso
    unfold Lib.firstT at hX
    rw [if_neg hn] at hX
    repeat' split at hX
    all_goals omega
  all_goals (
    match j, hj with
    | 0, _ => simp [okN, qB, wideB, hn, hX, Lib.checkN, fullB, Lib.accLo, Lib.accHi, gd_iff] at hne ⊢ <;> omega
    | 1, _ => simp [okN, qB, wideB, hn, hX, Lib.checkN, fullB, Lib.accLo, Lib.accHi, gd_iff] at hne ⊢ <;> omega
    | 2, _ => simp [okN, qB, wideB, hn, hX, Lib.checkN, fullB, Lib.accLo, Lib.accHi, gd_iff] at hne ⊢ <;> omega
    | 3, _ => simp [okN, qB, wideB, hn, hX, Lib.checkN, fullB, Lib.accLo, Lib.accHi, gd_iff] at hne ⊢ <;> omega)
set_option maxHeartbeats 4000000 in
theorem num_pre (j n b0 b1 b2 b3 : Nat) (hj : j < 4) (h128 : 128 ≤ b0) (hn0 : j + 1 ≤ n) (h : okN j b0 b1 b2 b3 0 128 = true) : wideB n b0 b1 b2 b3 ≠ 0 := by
  have hn : ¬ b0 < 128 := by omega
  have k2 : ¬ n < j + 1 := by omega
  rcases Lib.firstT_cases b0 with hX | hX | hX | hX | hX | hX | hX | hX | hX
  · exfalso
    unfold Lib.firstT at hX
    rw [if_neg hn] at hX
    repeat' split at hX
    all_goals omega
  all_goals (
    match j, hj with
    | 0, _ => simp [okN, qB, wideB, hn, hX, Lib.checkN, Lib.accLo, Lib.accHi, gd_iff] at h ⊢ <;> omega
    | 1, _ => simp [okN, qB, wideB, hn, hX, Lib.checkN, Lib.accLo, Lib.accHi, gd_iff] at h ⊢ <;> omega
    | 2, _ => simp [okN, qB, wideB, hn, hX, Lib.checkN, Lib.accLo, Lib.accHi, gd_iff] at h ⊢ <;> omega
    | 3, _ => simp [okN, qB, wideB, hn, hX, Lib.checkN, Lib.accLo, Lib.accHi, gd_iff] at h ⊢ <;> omega)
theorem pad_by8 (s : ByteArray) (j c i : Nat) (x : UInt8) (hj : j < s.size) : by8 (padB (s.extract 0 (j + 1)) x c) i = qB (by8 s i) j c x.toNat i := by
  unfold by8 qB
  have e : (s.extract 0 (j + 1)).data.toList = s.data.toList.take (j + 1) := by simp [ByteArray.data_extract]
  have hl : s.data.toList.length = s.size := by simp
  rw [padB_list, e, List.getD_eq_getElem?_getD, List.getD_eq_getElem?_getD]
  have hl2 : (s.data.toList.take (j + 1)).length = j + 1 := by rw [List.length_take]; omega
  by_cases h1 : i < j + 1
  · rw [if_pos h1, List.getElem?_append_left (by omega), List.getElem?_take, if_pos h1]
  · rw [if_neg h1, List.getElem?_append_right (by omega), hl2, List.getElem?_replicate]
    by_cases h2 : i < j + 1 + c
    · rw [if_pos h2, if_pos (by omega)]; rfl
    · rw [if_neg h2, if_neg (by omega)]; rfl
theorem wide_pad (s : ByteArray) (j c : Nat) (x : UInt8) (hj : j < s.size) : wideN (padB (s.extract 0 (j + 1)) x c) = wideB (j + 1 + c) (by8 s 0) (qB (by8 s 1) j c x.toNat 1) (qB (by8 s 2) j c x.toNat 2) (qB (by8 s 3) j c x.toNat 3) := by
  rw [wideN_B, padB_size, pad_by8 s j c 0 x hj, pad_by8 s j c 1 x hj, pad_by8 s j c 2 x hj, pad_by8 s j c 3 x hj]
  have e : (s.extract 0 (j + 1)).size = j + 1 := by rw [ByteArray.size_extract]; omega
  rw [e]
  have e0 : qB (by8 s 0) j c x.toNat 0 = by8 s 0 := by unfold qB; rw [if_pos (by omega)]
  rw [e0]
theorem okAt_num (s : ByteArray) (j : Nat) (hj : j < s.size) : OkAt s j ↔ okAll j (by8 s 0) (by8 s 1) (by8 s 2) (by8 s 3) := by
  unfold OkAt okAll
  have e : (s.extract 0 (j + 1)).size = j + 1 := by rw [ByteArray.size_extract]; omega
  have k : ∀ c, fullOk (s.extract 0 (j + 1)) c = (okN j (by8 s 0) (by8 s 1) (by8 s 2) (by8 s 3) c 128 || okN j (by8 s 0) (by8 s 1) (by8 s 2) (by8 s 3) c 191) := fun c => by
    unfold fullOk okN
    rw [wide_pad s j c 128 hj, wide_pad s j c 191 hj, e]
    rfl
  constructor
  · rintro ⟨c, hc, h⟩
    exact ⟨c, hc, by rw [← k]; exact h⟩
  · rintro ⟨c, hc, h⟩
    exact ⟨c, hc, by rw [k]; exact h⟩
theorem pre_num (s : ByteArray) (j : Nat) (hj : j < s.size) (h : wideN (s.extract 0 (j + 1)) = j + 1) : okN j (by8 s 0) (by8 s 1) (by8 s 2) (by8 s 3) 0 128 = true := by
  unfold okN
  have := wide_pad s j 0 128 hj
  rw [show padB (s.extract 0 (j + 1)) 128 0 = s.extract 0 (j + 1) from rfl, h] at this
  rw [decide_eq_true_iff]
  exact this.symm
theorem num_pre' (s : ByteArray) (j : Nat) (hj : j < s.size) (h : okN j (by8 s 0) (by8 s 1) (by8 s 2) (by8 s 3) 0 128 = true) : wideN (s.extract 0 (j + 1)) = j + 1 := by
  unfold okN at h
  rw [decide_eq_true_iff] at h
  have := wide_pad s j 0 128 hj
  rw [show padB (s.extract 0 (j + 1)) 128 0 = s.extract 0 (j + 1) from rfl] at this
  rw [this]
  exact h
theorem beg_of_go {s : ByteArray} {n : Nat} (h0 : 0 < s.size) (hw : wideN s = 0) (g : GoP s n) : BegP s n := by
  have h128 : 128 ≤ by8 s 0 := by
    rcases Nat.lt_or_ge (by8 s 0) 128 with h | h
    · unfold wideN at hw
      rw [if_pos h] at hw
      cases hw
    · exact h
  have hne : ∀ j, j < 4 → j < s.size → okN j (by8 s 0) (by8 s 1) (by8 s 2) (by8 s 3) 0 128 = false := fun j h4 hj => by
    cases hq : okN j (by8 s 0) (by8 s 1) (by8 s 2) (by8 s 3) 0 128 with
    | false => rfl
    | true =>
      have := num_pre j s.size _ _ _ _ h4 h128 (by omega) hq
      rw [← wideN_B] at this
      exact absurd hw this
  have key : ∀ j, j < 4 → j < s.size → (OkAt s j ↔ fullAt s (j + 1) = false) := fun j h4 hj => by
    rw [okAt_num s j hj, num_ok j _ _ _ _ h4 h128 (hne j h4 hj)]
    rfl
  have l4 := g.le4
  have ls := g.le
  refine ⟨g.le, fun j hj => (key j (by omega) (by omega)).1 (g.ok j hj), fun hlt => ?_⟩
  rcases g.fin with ⟨a, b, c⟩ | ⟨a, b⟩ | a | a
  · cases hq : fullAt s (n + 1) with
    | true => rfl
    | false => exact absurd ((key n b a).2 hq) c
  · obtain ⟨m, rfl⟩ : ∃ m, n = m + 1 := ⟨n - 1, by omega⟩
    have := pre_num s m (by omega) b
    rw [hne m (by omega) (by omega)] at this
    cases this
  · omega
  · subst a
    have h3 := (key 3 (by omega) (by omega)).1 (g.ok 3 (by omega))
    unfold fullAt fullB at h3
    rw [if_pos (by rcases Lib.firstT_cases (by8 s 0) with hX | hX | hX | hX | hX | hX | hX | hX | hX <;> omega)] at h3
    cases h3
end Go.Proofs.YtepkanibcljdkaaDoor.Q

namespace Go.Proofs.YtepkanibcljdkaaDoor.Q
open Go.RowKit
set_option linter.unusedVariables false
set_option linter.unusedSimpArgs false

theorem hx_ix : ∀ d : Fin 16, ixD (hx (d.val : Int)).toNat = (d.val : Int) := by decide +kernel
theorem ix_hx : ∀ b : Fin 256, 0 ≤ ixD b.val → (hx (ixD b.val)).toNat = b.val := by decide +kernel
theorem hx_ix' {d : Int} (h0 : 0 ≤ d) (h1 : d < 16) : ixD (hx d).toNat = d := by
  obtain ⟨n, rfl⟩ := Int.eq_ofNat_of_zero_le h0
  exact hx_ix ⟨n, by omega⟩
theorem wdC_0 (c : Nat) : by8 (wdC c) 0 = 117 := by unfold by8; rw [wdC_list]; rfl
theorem wdC_1 (c : Nat) : by8 (wdC c) 1 = 48 := by unfold by8; rw [wdC_list]; rfl
theorem wdC_2 (c : Nat) : by8 (wdC c) 2 = 48 := by unfold by8; rw [wdC_list]; rfl
theorem wdC_3 (c : Nat) : by8 (wdC c) 3 = (hx ((c : Int) / 16)).toNat := by unfold by8; rw [wdC_list]; rfl
theorem wdC_4 (c : Nat) : by8 (wdC c) 4 = (hx ((c : Int) % 16)).toNat := by unfold by8; rw [wdC_list]; rfl
theorem mq_one {s t : ByteArray} {k m : Nat} (h : MQ s t k) (g : MQ s t m) : k = m := by
  have aux : ∀ {k m : Nat}, MQ s t k → MQ s t m → ¬ k < m := fun {k m} h g hlt =>
    h.stop (by have := g.le4; omega) (by have := g.le; omega) (g.all k hlt)
  have h1 := aux h g
  have h2 := aux g h
  omega
theorem mp_ex_from (s : ByteArray) : ∀ f m : Nat, m + f = 4 → m ≤ s.size → (∀ j, j < m → by8 s j = codeB j) → ∃ k, MP s k
  | 0, m, hm, hs, ha => ⟨m, by omega, hs, ha, fun h => by omega⟩
  | f + 1, m, hm, hs, ha => by
    by_cases h : m < s.size ∧ by8 s m = codeB m
    · refine mp_ex_from s f (m + 1) (by omega) (by omega) (fun j hj => ?_)
      rcases Nat.lt_or_ge j m with h1 | h1
      · exact ha j h1
      · have : j = m := by omega
        subst this; exact h.2
    · exact ⟨m, by omega, hs, ha, fun _ h2 h3 => h ⟨h2, h3⟩⟩
theorem mp_ex (s : ByteArray) : ∃ k, MP s k := mp_ex_from s 4 0 rfl (Nat.zero_le _) (fun j hj => by omega)
theorem tail_by8 (t : ByteArray) (i : Nat) : by8 (t.extract 1 t.size) i = by8 t (i + 1) := by
  unfold by8
  rw [Lib.ext_list, List.getD_eq_getElem?_getD, List.getD_eq_getElem?_getD, List.getElem?_drop, Nat.add_comm]
theorem elig_hi {d : Nat} (h : Elig d) : (d : Int) / 16 = 0 ∨ (d : Int) / 16 = 1 ∨ (d : Int) / 16 = 7 := by unfold Elig at h; omega
theorem elig_lt {d : Nat} (h : Elig d) : d < 128 := by unfold Elig at h; omega
theorem elig_sign {d : Nat} (h : Elig d) : hidB (d : Int) = true ∧ signN (d : Int) = 0 := by
  unfold Elig at h
  constructor
  · unfold hidB
    rw [Bool.or_eq_true, decide_eq_true_iff, decide_eq_true_iff]
    omega
  · unfold signN
    rw [if_neg (by omega), if_neg (by omega), if_neg (by omega), if_neg (by omega)]
theorem sign_elig {d : Nat} (h1 : hidB (d : Int) = true) (h2 : signN (d : Int) = 0) : Elig d := by
  unfold hidB at h1
  rw [Bool.or_eq_true, decide_eq_true_iff, decide_eq_true_iff] at h1
  unfold signN at h2
  repeat' split at h2
  all_goals (unfold Elig; omega)
theorem cb0 : codeB 0 = 92 := rfl
theorem cb1 : codeB 1 = 117 := rfl
theorem cb2 : codeB 2 = 48 := rfl
theorem cb3 : codeB 3 = 48 := rfl
/-- The first three signs behind the stroke stand in every code. -/
theorem wd_code (c i : Nat) (h : i < 3) : by8 (wdC c) i = codeB (i + 1) := by
  match i, h with
  | 0, _ => exact wdC_0 c
  | 1, _ => exact wdC_1 c
  | 2, _ => exact wdC_2 c
theorem full_code {t : ByteArray} {c : Nat} (h92 : by8 t 0 = 92) (h0 : 0 < t.size) (he : Elig c) (hm : MQ (t.extract 1 t.size) (wdC c) 5) : MP t 4 ∧ codedV t 4 = ((c : Int), 6, true) := by
  have zu : (t.extract 1 t.size).size = t.size - 1 := Lib.ext_size t 1
  have hl := hm.le
  have a := fun i hi => hm.all i hi
  have a3 := a 3 (by omega)
  have a4 := a 4 (by omega)
  rw [tail_by8, wdC_3] at a3
  rw [tail_by8, wdC_4] at a4
  have lt := elig_lt he
  have hh := elig_hi he
  obtain ⟨e1, e2⟩ := elig_sign he
  constructor
  · refine ⟨by omega, by omega, fun j hj => ?_, fun h => by omega⟩
    match j, hj with
    | 0, _ => exact h92
    | j + 1, hj =>
      have := a j (by omega)
      rw [tail_by8, wd_code c j (by omega)] at this
      exact this
  · have x4 : ixD (by8 t 4) = (c : Int) / 16 := by rw [a3]; exact hx_ix' (by omega) (by omega)
    have x5 : ixD (by8 t 5) = (c : Int) % 16 := by rw [a4]; exact hx_ix' (by omega) (by omega)
    unfold codedV
    rw [x4, x5, show (c : Int) / 16 * 16 + (c : Int) % 16 = (c : Int) by omega]
    rw [if_neg (by omega), if_neg (not_not_intro hh), if_neg (by omega), if_neg (by rw [e1, e2]; simp; omega)]
/-- Where k < 4 signs stand, every code goes as far. -/
theorem few_code {t : ByteArray} {k c m : Nat} (hk : MP t k) (h1 : 1 ≤ k) (h4 : k < 4) (hm : MQ (t.extract 1 t.size) (wdC c) m) : m = k - 1 := by
  have zu : (t.extract 1 t.size).size = t.size - 1 := Lib.ext_size t 1
  have hl := hk.le
  refine mq_one hm ⟨by rw [wdC_size]; omega, by omega, fun j hj => ?_, fun a b => ?_⟩
  · rw [tail_by8, wd_code c j (by omega)]
    exact hk.all (j + 1) (by omega)
  · rw [tail_by8, wd_code c (k - 1) (by omega), show k - 1 + 1 = k by omega]
    exact hk.stop h4 (by omega)
theorem three_code {t : ByteArray} {c m : Nat} (hk : MP t 4) (hs : t.size = 4 ∨ (4 < t.size ∧ by8 t 4 ≠ (hx ((c : Int) / 16)).toNat)) (hm : MQ (t.extract 1 t.size) (wdC c) m) : m = 3 := by
  have zu : (t.extract 1 t.size).size = t.size - 1 := Lib.ext_size t 1
  have hl := hk.le
  refine mq_one hm ⟨by rw [wdC_size]; omega, by omega, fun j hj => ?_, fun a b => ?_⟩
  · rw [tail_by8, wd_code c j (by omega)]
    exact hk.all (j + 1) (by omega)
  · rcases hs with hs | hs
    · omega
    · rw [tail_by8, wdC_3]
      exact hs.2
theorem four_code {t : ByteArray} {c m : Nat} (hk : MP t 4) (h4 : 4 < t.size) (h : by8 t 4 = (hx ((c : Int) / 16)).toNat) (hm : MQ (t.extract 1 t.size) (wdC c) m) : 4 ≤ m := by
  have zu : (t.extract 1 t.size).size = t.size - 1 := Lib.ext_size t 1
  rcases Nat.lt_or_ge m 4 with hl | hl
  · exfalso
    refine hm.stop (by rw [wdC_size]; omega) (by omega) ?_
    rw [tail_by8]
    rcases Nat.lt_or_ge m 3 with h3 | h3
    · rw [wd_code c m h3]
      exact hk.all (m + 1) (by omega)
    · have : m = 3 := by omega
      subst this
      rw [wdC_3]
      exact h
  · exact hl
theorem elig0 : Elig 0 := by unfold Elig; omega
theorem best_code {t : ByteArray} {best : Nat} (h92 : by8 t 0 = 92) (h0 : 0 < t.size) (hb : BestP (t.extract 1 t.size) 128 best) : ∃ k, MP t k ∧ codedV t k = (0, 1 + (best : Int), false) := by
  obtain ⟨k, hk⟩ := mp_ex t
  have zu : (t.extract 1 t.size).size = t.size - 1 := Lib.ext_size t 1
  have k1 : 1 ≤ k := by
    rcases Nat.lt_or_ge 0 k with h | h
    · exact h
    · have : k = 0 := by omega
      subst this
      exact absurd h92 (hk.stop (by omega) h0)
  have kl := hk.le4
  have ks := hk.le
  refine ⟨k, hk, ?_⟩
  by_cases h4 : k < 4
  · obtain ⟨m, hm, _, hmb⟩ := hb.all 0 (by omega) elig0
    have e1 := few_code hk k1 h4 hm
    have e2 : best = k - 1 := by
      rcases hb.some with h | ⟨d, _, _, hd⟩
      · omega
      · exact few_code hk k1 h4 hd
    unfold codedV
    rw [if_pos (.inl h4), e2]
    congr 2
    omega
  have : k = 4 := by omega
  subst this
  by_cases h5 : t.size = 4
  · obtain ⟨m, hm, _, hmb⟩ := hb.all 0 (by omega) elig0
    have e1 := three_code hk (.inl h5) hm
    have e2 : best = 3 := by
      rcases hb.some with h | ⟨d, _, _, hd⟩
      · omega
      · exact three_code hk (.inl h5) hd
    unfold codedV
    rw [if_pos (.inr h5.symm), e2]
    rfl
  have h5s : 4 < t.size := by omega
  have l4 := by8_lt t 4
  have l5 := by8_lt t 5
  by_cases hh : ixD (by8 t 4) = 0 ∨ ixD (by8 t 4) = 1 ∨ ixD (by8 t 4) = 7
  · have hx4 := ix_hx ⟨by8 t 4, l4⟩ (by simp only []; omega)
    simp only [] at hx4
    obtain ⟨d0, he0, hd0⟩ : ∃ d0 : Nat, Elig d0 ∧ (d0 : Int) / 16 = ixD (by8 t 4) := by
      rcases hh with h | h | h
      · exact ⟨0, by unfold Elig; omega, by rw [h]; rfl⟩
      · exact ⟨16, by unfold Elig; omega, by rw [h]; rfl⟩
      · exact ⟨127, by unfold Elig; omega, by rw [h]; rfl⟩
    obtain ⟨m, hm, _, hmb⟩ := hb.all d0 (elig_lt he0) he0
    have e1 := four_code hk h5s (by rw [hd0, hx4]) hm
    have e2 : best = 4 := by
      rcases hb.some with h | ⟨d, hd1, hd2, hd⟩
      · omega
      · obtain ⟨m', hm', h5', _⟩ := hb.all d hd1 hd2
        have := mq_one hd hm'
        omega
    subst e2
    unfold codedV
    rw [if_neg (by omega), if_neg (not_not_intro hh)]
    by_cases h6 : t.size = 5
    · rw [if_pos h6]; rfl
    rw [if_neg h6]
    by_cases hq : ixD (by8 t 5) < 0 ∨ hidB (ixD (by8 t 4) * 16 + ixD (by8 t 5)) = false ∨ signN (ixD (by8 t 4) * 16 + ixD (by8 t 5)) ≠ 0
    · rw [if_pos hq]; rfl
    exfalso
    have q1 : 0 ≤ ixD (by8 t 5) := by omega
    have q2 : hidB (ixD (by8 t 4) * 16 + ixD (by8 t 5)) = true := by
      cases hc : hidB (ixD (by8 t 4) * 16 + ixD (by8 t 5)) with
      | true => rfl
      | false => exact absurd (.inr (.inl hc)) hq
    have q3 : signN (ixD (by8 t 4) * 16 + ixD (by8 t 5)) = 0 := by
      by_cases hc : signN (ixD (by8 t 4) * 16 + ixD (by8 t 5)) = 0
      · exact hc
      · exact absurd (.inr (.inr hc)) hq
    have bd5 := ixD_bd (by8 t 5)
    have hx5 := ix_hx ⟨by8 t 5, l5⟩ q1
    simp only [] at hx5
    obtain ⟨c, hc⟩ := Int.eq_ofNat_of_zero_le (show 0 ≤ ixD (by8 t 4) * 16 + ixD (by8 t 5) by omega)
    rw [hc] at q2 q3
    have he := sign_elig q2 q3
    have c1 : (c : Int) / 16 = ixD (by8 t 4) := by omega
    have c2 : (c : Int) % 16 = ixD (by8 t 5) := by omega
    obtain ⟨m', hm', h5', _⟩ := hb.all c (elig_lt he) he
    have : MQ (t.extract 1 t.size) (wdC c) 5 := by
      refine ⟨by rw [wdC_size]; omega, by omega, fun j hj => ?_, fun a => by rw [wdC_size] at a; omega⟩
      rw [tail_by8]
      rcases Nat.lt_or_ge j 3 with h3 | h3
      · rw [wd_code c j h3]
        exact hk.all (j + 1) (by omega)
      · rcases (show j = 3 ∨ j = 4 by omega) with rfl | rfl
        · rw [wdC_3, c1, hx4]
        · rw [wdC_4, c2, hx5]
    have := mq_one this hm'
    omega
  · have hne : ∀ d, Elig d → by8 t 4 ≠ (hx ((d : Int) / 16)).toNat := fun d hd e => by
      have lt := elig_lt hd
      have := hx_ix' (d := (d : Int) / 16) (by omega) (by omega)
      rw [← e] at this
      rw [this] at hh
      exact hh (elig_hi hd)
    obtain ⟨m, hm, _, hmb⟩ := hb.all 0 (by omega) elig0
    have e1 := three_code hk (.inr ⟨h5s, hne 0 elig0⟩) hm
    have e2 : best = 3 := by
      rcases hb.some with h | ⟨d, _, hd2, hd⟩
      · omega
      · exact three_code hk (.inr ⟨h5s, hne d hd2⟩) hd
    unfold codedV
    rw [if_neg (by omega), if_pos hh, e2]
    rfl
/-- What the reference's escape tells is what escaped tells. -/
theorem esc_of {t : ByteArray} {b n best : Int} (h92 : by8 t 0 = 92) (h0 : 0 < t.size) (h : EscRV (t.extract 1 t.size) (b, n, best)) :
    (n = 0 ∧ 0 ≤ best ∧ EscV t (0, 1 + best, false)) ∨ (1 ≤ n ∧ 0 ≤ b ∧ b < 128 ∧ EscV t (b, 1 + n, true)) := by
  have zu : (t.extract 1 t.size).size = t.size - 1 := Lib.ext_size t 1
  unfold EscRV at h
  rw [tail_by8] at h
  rcases h with ⟨a, e⟩ | ⟨a, q, e⟩ | ⟨a, q, e⟩ | ⟨a, q, e⟩ | ⟨a, q, e⟩ | ⟨a, q, r⟩
  · cases e
    exact .inl ⟨rfl, by omega, .inl ⟨by omega, by rw [show t.size = 1 by omega]; rfl⟩⟩
  · cases e
    refine .inr ⟨by omega, by omega, by omega, .inr (.inl ⟨by omega, ((by8 t (0 + 1) : Nat) : Int), ?_, ?_, rfl⟩)⟩
    · rcases q with q | q
      · rw [q]; left; rfl
      · rw [q]; right; left; rfl
    · rcases q with q | q
      · rw [show by8 t 1 = by8 t (0 + 1) from rfl, q]; rfl
      · rw [show by8 t 1 = by8 t (0 + 1) from rfl, q]; rfl
  · cases e
    refine .inr ⟨by omega, by omega, by omega, .inr (.inl ⟨by omega, 10, ?_, ?_, rfl⟩)⟩
    · right; right; left; rfl
    · rw [show by8 t 1 = by8 t (0 + 1) from rfl, q]; rfl
  · cases e
    refine .inr ⟨by omega, by omega, by omega, .inr (.inl ⟨by omega, 13, ?_, ?_, rfl⟩)⟩
    · right; right; right; left; rfl
    · rw [show by8 t 1 = by8 t (0 + 1) from rfl, q]; rfl
  · cases e
    refine .inr ⟨by omega, by omega, by omega, .inr (.inl ⟨by omega, 9, ?_, ?_, rfl⟩)⟩
    · right; right; right; right; rfl
    · rw [show by8 t 1 = by8 t (0 + 1) from rfl, q]; rfl
  · have hno : ∀ c : Int, InC c → signN c ≠ (by8 t 1 : Int) := fun c hc => by
      rw [show by8 t 1 = by8 t (0 + 1) from rfl]
      rcases hc with rfl | rfl | rfl | rfl | rfl
      · show (34 : Int) ≠ _; omega
      · show (92 : Int) ≠ _; omega
      · show (110 : Int) ≠ _; omega
      · show (114 : Int) ≠ _; omega
      · show (116 : Int) ≠ _; omega
    rcases r with ⟨c, hc, he, hm, e⟩ | ⟨bb, hb, e⟩
    · cases e
      obtain ⟨f1, f2⟩ := full_code h92 h0 he hm
      exact .inr ⟨by omega, by omega, by omega, .inr (.inr ⟨by omega, hno, 4, f1, by rw [f2]; rfl⟩)⟩
    · cases e
      obtain ⟨k, f1, f2⟩ := best_code h92 h0 hb
      exact .inl ⟨rfl, by omega, .inr (.inr ⟨by omega, hno, k, f1, by rw [f2]⟩)⟩
end Go.Proofs.YtepkanibcljdkaaDoor.Q

namespace Go.Proofs.YtepkanibcljdkaaDoor.Q
open Go.RowKit
set_option linter.unusedVariables false
set_option linter.unusedSimpArgs false

theorem wpList_appS {ops : Array Oper} {rest : List Oper} {o : Oper} {a : Act} {w : World} {Q : Exit → Act → World → Prop} (hgd : o.guard = none) (sl x : Operand)
    (ho : o.op = .call { callee := .builtin .append, args := #[sl, x], argTypes := #[36, 9] }) (base : Nat) (v : Value) (L : List UInt8) (hs : a.eval sl = v) (hown : OwnB w base v L)
    (s : ByteArray) (hx : a.eval x = .string s) (hlen : L.length + s.data.toList.length ≤ 140737488355328) (hbase : base ≤ w.heap.size)
    (h : ∀ v' w', OwnB w' base v' (L ++ s.data.toList) → w.grownBy w' v.ownBlock → wpList Tryd.prog ops Q rest (a.put o.dst v') w') : wpList Tryd.prog ops Q (o :: rest) a w :=
  wpList_plain hgd fun _ hK => by
    obtain ⟨v', w', hr, h2, h3⟩ := run_appS w base o.type v L s hown hlen hbase
    unfold Oper.wp execOp
    simp only [ho, resolve, invoke, builtin, Sem.run_bind, Sem.run_pure, Result.andThen_ok, List.map_toArray, List.map_cons, List.map_nil, hs, hx, hr]
    exact hK _ _ (h v' w' h2 h3)
theorem flat_at (l : List UInt8) (k : Nat) (h : k < l.length) : (l.drop k).flatMap escB = escB (l.getD k 0) ++ (l.drop (k + 1)).flatMap escB := by
  rw [List.drop_eq_getElem_cons h, List.flatMap_cons]
  congr 2
  simp [List.getElem?_eq_getElem h]
theorem esc_is {c : UInt8} {n : Nat} (h : c.toNat = n) (hn : n < 256) : c = UInt8.ofNat n := by
  apply UInt8.toNat_inj.1
  rw [UInt8.toNat_ofNat']
  omega
set_option maxRecDepth 100000 in
set_option maxHeartbeats 4000000 in
theorem quoted_any (s : ByteArray) (w : World) (hs : s.size ≤ 16777216) :
    Calls Tryd.prog 33 #[.string s, .int .u8 34] w fun e w' => e = .returned (.string ⟨(quoL s.data.toList).toArray⟩) ∧ Below w.heap.size w w' := by
  have b0 : Below w.heap.size w (w.alloc (.cells #[.int .u8 34] 5)) := (Below.refl _ _).alloc (Nat.le_refl _) _
  have O0 : Hid (OwnB (w.alloc (.cells #[.int .u8 34] 5)) w.heap.size (.slice (some ⟨w.heap.size, 0, none⟩) 1 1) [34]) := ⟨rfl, .inr ⟨w.heap.size, 1, #[.int .u8 34], rfl, Nat.le_refl _, heap_alloc_new _ _, by simp, by simp [maxLen], rfl, rfl⟩⟩
  have hlen : s.data.toList.length = s.size := by simp
  go_enter Tryd.func33, Tryd.ntmps33
  go_wp2
  go_loopw [5, 6] (fun v i wr => ∃ (k : Nat) (L : List UInt8), k ≤ s.size ∧ i = .int .i64 k ∧ Hid (OwnB wr w.heap.size v L) ∧ Hid (Below w.heap.size w wr) ∧ Hid (L ++ (s.data.toList.drop k).flatMap escB = [34] ++ s.data.toList.flatMap escB)) (fun _ i _ => s.size - (intOf i).toNat)
  case atStart => exact ⟨0, [34], by omega, rfl, O0, b0, rfl⟩
  case round =>
    obtain ⟨k, L, hk, rfl, own, bel, hT⟩ := hrel
    clear O0 b0
    have zr := bel.out.size
    have LB : Hid (L.length + 6 ≤ 140737488355328) := by
      have h1 := congrArg List.length hT.out
      have h2 := esc_total s.data.toList
      simp only [List.length_append, List.length_cons, List.length_nil] at h1
      show _ ≤ _
      omega
    obtain ⟨av, cv, rfl, hcv, byv, hav⟩ := own.out.open
    clear byv hav
    by_cases h : k < s.size
    · have h' : (k : Int) < (s.size : Int) := by omega
      have ix := index_str s k wr h
      have HT2 : Hid (L ++ escB (s.data.toList.getD k 0) ++ (s.data.toList.drop (k + 1)).flatMap escB = [34] ++ s.data.toList.flatMap escB) := (by rw [← hT.out, flat_at _ k (by omega), List.append_assoc] : _ = _)
      have hcc : Hid (by8 s k = (s.data.toList.getD k 0).toNat) := rfl
      have clt := by8_lt s k
      have own' := own
      obtain ⟨C, hC⟩ : ∃ C, s.data.toList.getD k 0 = C := ⟨_, rfl⟩
      rw [hC] at HT2 hcc
      generalize by8 s k = c at *
      clear hT hC own
      by_cases h34 : c = 34
      · subst h34
        obtain rfl : C = 34 := esc_is (n := 34) hcc.out.symm (by omega)
        clear hcc clt
        have eE : Hid (escB 34 = [92, 34]) := rfl
        have be0 : Below wr.heap.size wr (wr.alloc (.cells #[.int .u8 92, .int .u8 34] 5)) := (Below.refl _ _).alloc (Nat.le_refl _) _
        have OA : Hid (OwnB (wr.alloc (.cells #[.int .u8 92, .int .u8 34] 5)) w.heap.size (.slice av L.length cv) L) := own'.out.below be0
        have BA : Hid (Byt (wr.alloc (.cells #[.int .u8 92, .int .u8 34] 5)) (some ⟨wr.heap.size, 0, none⟩) [92, 34]) := byt_lit2 wr [92, 34] 5
        have LA : Hid (L.length + ([92, 34] : List UInt8).length ≤ 140737488355328) := (by have := LB.out; simp; omega : _ ≤ _)
        have ZA : Hid (w.heap.size ≤ (wr.alloc (.cells #[.int .u8 92, .int .u8 34] 5)).heap.size) := (by simp; omega : _ ≤ _)
        have BW : Hid (Below w.heap.size w (wr.alloc (.cells #[.int .u8 92, .int .u8 34] 5))) := bel.out.trans (be0.mono zr)
        rw [eE.out] at HT2
        clear be0 own' LB bel hlen eE
        go_wp2_with (first | (at_builtin; refine wpList_app rfl (.tmp 31) (.tmp 33) rfl w.heap.size (.slice av L.length cv) L rfl OA.out (some ⟨wr.heap.size, 0, none⟩) 2 2 [92, 34] rfl rfl BA.out LA.out ZA.out ?_) | fail)
        intro v5 w5 own5 gr5
        have O5 : Hid (OwnB w5 w.heap.size v5 (L ++ [92, 34])) := own5
        have B5 : Hid (Below w.heap.size w w5) := below_own BW.out OA.out gr5 ZA.out
        clear own5 gr5 OA BA LA ZA BW
        go_wp2
        go_roundw
        case rel => exact ⟨k + 1, L ++ [92, 34], by omega, by go_num, O5, B5, HT2⟩
        case measure => simp [intOf]; omega
      have i34 : ((c : Int) == 34) = false := beq_eq_false_iff_ne.2 (by omega)
      by_cases h92 : c = 92
      · subst h92
        obtain rfl : C = 92 := esc_is (n := 92) hcc.out.symm (by omega)
        clear hcc clt
        have eE : Hid (escB 92 = [92, 92]) := rfl
        have be0 : Below wr.heap.size wr (wr.alloc (.cells #[.int .u8 92, .int .u8 92] 5)) := (Below.refl _ _).alloc (Nat.le_refl _) _
        have OA : Hid (OwnB (wr.alloc (.cells #[.int .u8 92, .int .u8 92] 5)) w.heap.size (.slice av L.length cv) L) := own'.out.below be0
        have BA : Hid (Byt (wr.alloc (.cells #[.int .u8 92, .int .u8 92] 5)) (some ⟨wr.heap.size, 0, none⟩) [92, 92]) := byt_lit2 wr [92, 92] 5
        have LA : Hid (L.length + ([92, 92] : List UInt8).length ≤ 140737488355328) := (by have := LB.out; simp; omega : _ ≤ _)
        have ZA : Hid (w.heap.size ≤ (wr.alloc (.cells #[.int .u8 92, .int .u8 92] 5)).heap.size) := (by simp; omega : _ ≤ _)
        have BW : Hid (Below w.heap.size w (wr.alloc (.cells #[.int .u8 92, .int .u8 92] 5))) := bel.out.trans (be0.mono zr)
        rw [eE.out] at HT2
        clear be0 own' LB bel hlen eE
        go_wp2_with (first | (at_builtin; refine wpList_app rfl (.tmp 31) (.tmp 33) rfl w.heap.size (.slice av L.length cv) L rfl OA.out (some ⟨wr.heap.size, 0, none⟩) 2 2 [92, 92] rfl rfl BA.out LA.out ZA.out ?_) | fail)
        intro v5 w5 own5 gr5
        have O5 : Hid (OwnB w5 w.heap.size v5 (L ++ [92, 92])) := own5
        have B5 : Hid (Below w.heap.size w w5) := below_own BW.out OA.out gr5 ZA.out
        clear own5 gr5 OA BA LA ZA BW
        go_wp2
        go_roundw
        case rel => exact ⟨k + 1, L ++ [92, 92], by omega, by go_num, O5, B5, HT2⟩
        case measure => simp [intOf]; omega
      have i92 : ((c : Int) == 92) = false := beq_eq_false_iff_ne.2 (by omega)
      by_cases h10 : c = 10
      · subst h10
        obtain rfl : C = 10 := esc_is (n := 10) hcc.out.symm (by omega)
        clear hcc clt
        have eE : Hid (escB 10 = [92, 110]) := rfl
        have be0 : Below wr.heap.size wr (wr.alloc (.cells #[.int .u8 92, .int .u8 110] 5)) := (Below.refl _ _).alloc (Nat.le_refl _) _
        have OA : Hid (OwnB (wr.alloc (.cells #[.int .u8 92, .int .u8 110] 5)) w.heap.size (.slice av L.length cv) L) := own'.out.below be0
        have BA : Hid (Byt (wr.alloc (.cells #[.int .u8 92, .int .u8 110] 5)) (some ⟨wr.heap.size, 0, none⟩) [92, 110]) := byt_lit2 wr [92, 110] 5
        have LA : Hid (L.length + ([92, 110] : List UInt8).length ≤ 140737488355328) := (by have := LB.out; simp; omega : _ ≤ _)
        have ZA : Hid (w.heap.size ≤ (wr.alloc (.cells #[.int .u8 92, .int .u8 110] 5)).heap.size) := (by simp; omega : _ ≤ _)
        have BW : Hid (Below w.heap.size w (wr.alloc (.cells #[.int .u8 92, .int .u8 110] 5))) := bel.out.trans (be0.mono zr)
        rw [eE.out] at HT2
        clear be0 own' LB bel hlen eE
        go_wp2_with (first | (at_builtin; refine wpList_app rfl (.tmp 38) (.tmp 39) rfl w.heap.size (.slice av L.length cv) L rfl OA.out (some ⟨wr.heap.size, 0, none⟩) 2 2 [92, 110] rfl rfl BA.out LA.out ZA.out ?_) | fail)
        intro v5 w5 own5 gr5
        have O5 : Hid (OwnB w5 w.heap.size v5 (L ++ [92, 110])) := own5
        have B5 : Hid (Below w.heap.size w w5) := below_own BW.out OA.out gr5 ZA.out
        clear own5 gr5 OA BA LA ZA BW
        go_wp2
        go_roundw
        case rel => exact ⟨k + 1, L ++ [92, 110], by omega, by go_num, O5, B5, HT2⟩
        case measure => simp [intOf]; omega
      have i10 : ((c : Int) == 10) = false := beq_eq_false_iff_ne.2 (by omega)
      by_cases h13 : c = 13
      · subst h13
        obtain rfl : C = 13 := esc_is (n := 13) hcc.out.symm (by omega)
        clear hcc clt
        have eE : Hid (escB 13 = [92, 114]) := rfl
        have be0 : Below wr.heap.size wr (wr.alloc (.cells #[.int .u8 92, .int .u8 114] 5)) := (Below.refl _ _).alloc (Nat.le_refl _) _
        have OA : Hid (OwnB (wr.alloc (.cells #[.int .u8 92, .int .u8 114] 5)) w.heap.size (.slice av L.length cv) L) := own'.out.below be0
        have BA : Hid (Byt (wr.alloc (.cells #[.int .u8 92, .int .u8 114] 5)) (some ⟨wr.heap.size, 0, none⟩) [92, 114]) := byt_lit2 wr [92, 114] 5
        have LA : Hid (L.length + ([92, 114] : List UInt8).length ≤ 140737488355328) := (by have := LB.out; simp; omega : _ ≤ _)
        have ZA : Hid (w.heap.size ≤ (wr.alloc (.cells #[.int .u8 92, .int .u8 114] 5)).heap.size) := (by simp; omega : _ ≤ _)
        have BW : Hid (Below w.heap.size w (wr.alloc (.cells #[.int .u8 92, .int .u8 114] 5))) := bel.out.trans (be0.mono zr)
        rw [eE.out] at HT2
        clear be0 own' LB bel hlen eE
        go_wp2_with (first | (at_builtin; refine wpList_app rfl (.tmp 44) (.tmp 45) rfl w.heap.size (.slice av L.length cv) L rfl OA.out (some ⟨wr.heap.size, 0, none⟩) 2 2 [92, 114] rfl rfl BA.out LA.out ZA.out ?_) | fail)
        intro v5 w5 own5 gr5
        have O5 : Hid (OwnB w5 w.heap.size v5 (L ++ [92, 114])) := own5
        have B5 : Hid (Below w.heap.size w w5) := below_own BW.out OA.out gr5 ZA.out
        clear own5 gr5 OA BA LA ZA BW
        go_wp2
        go_roundw
        case rel => exact ⟨k + 1, L ++ [92, 114], by omega, by go_num, O5, B5, HT2⟩
        case measure => simp [intOf]; omega
      have i13 : ((c : Int) == 13) = false := beq_eq_false_iff_ne.2 (by omega)
      by_cases h9 : c = 9
      · subst h9
        obtain rfl : C = 9 := esc_is (n := 9) hcc.out.symm (by omega)
        clear hcc clt
        have eE : Hid (escB 9 = [92, 116]) := rfl
        have be0 : Below wr.heap.size wr (wr.alloc (.cells #[.int .u8 92, .int .u8 116] 5)) := (Below.refl _ _).alloc (Nat.le_refl _) _
        have OA : Hid (OwnB (wr.alloc (.cells #[.int .u8 92, .int .u8 116] 5)) w.heap.size (.slice av L.length cv) L) := own'.out.below be0
        have BA : Hid (Byt (wr.alloc (.cells #[.int .u8 92, .int .u8 116] 5)) (some ⟨wr.heap.size, 0, none⟩) [92, 116]) := byt_lit2 wr [92, 116] 5
        have LA : Hid (L.length + ([92, 116] : List UInt8).length ≤ 140737488355328) := (by have := LB.out; simp; omega : _ ≤ _)
        have ZA : Hid (w.heap.size ≤ (wr.alloc (.cells #[.int .u8 92, .int .u8 116] 5)).heap.size) := (by simp; omega : _ ≤ _)
        have BW : Hid (Below w.heap.size w (wr.alloc (.cells #[.int .u8 92, .int .u8 116] 5))) := bel.out.trans (be0.mono zr)
        rw [eE.out] at HT2
        clear be0 own' LB bel hlen eE
        go_wp2_with (first | (at_builtin; refine wpList_app rfl (.tmp 50) (.tmp 51) rfl w.heap.size (.slice av L.length cv) L rfl OA.out (some ⟨wr.heap.size, 0, none⟩) 2 2 [92, 116] rfl rfl BA.out LA.out ZA.out ?_) | fail)
        intro v5 w5 own5 gr5
        have O5 : Hid (OwnB w5 w.heap.size v5 (L ++ [92, 116])) := own5
        have B5 : Hid (Below w.heap.size w w5) := below_own BW.out OA.out gr5 ZA.out
        clear own5 gr5 OA BA LA ZA BW
        go_wp2
        go_roundw
        case rel => exact ⟨k + 1, L ++ [92, 116], by omega, by go_num, O5, B5, HT2⟩
        case measure => simp [intOf]; omega
      have i9 : ((c : Int) == 9) = false := beq_eq_false_iff_ne.2 (by omega)
      by_cases hh : c < 32 ∨ c = 127
      · have hC2 : Hid (c = C.toNat) := hcc.out
        have eE : Hid (escB C = [92, 117, 48, 48, hx ((C.toNat : Int) / 16), hx ((C.toNat : Int) % 16)]) := (by
          have e : ∀ j : Nat, j < 128 → c ≠ j → C ≠ UInt8.ofNat j := fun j hj hcj e => by
            have := hcc.out
            rw [e, UInt8.toNat_ofNat'] at this
            omega
          have e34 : C ≠ 34 := e 34 (by omega) h34
          have e92 : C ≠ 92 := e 92 (by omega) h92
          have e10 : C ≠ 10 := e 10 (by omega) h10
          have e13 : C ≠ 13 := e 13 (by omega) h13
          have e9 : C ≠ 9 := e 9 (by omega) h9
          have hcn := hcc.out
          have h7 : C.toNat < 32 ∨ C = 127 := by
            rcases hh with h | h
            · exact .inl (by omega)
            · exact .inr (esc_is (n := 127) (by omega) (by omega))
          unfold escB
          rw [if_neg (by rintro (h | h); exact e34 h; exact e92 h), if_neg e10, if_neg e13, if_neg e9, if_pos h7]
          exact (rfl : (_ : List UInt8) = _))
        have be0 : Below wr.heap.size wr (wr.alloc (.cells #[.int .u8 (c : Int)] 5)) := (Below.refl _ _).alloc (Nat.le_refl _) _
        have HX : Hid (Calls Tryd.prog 48 #[.slice (some ⟨wr.heap.size, 0, none⟩) 1 1] (wr.alloc (.cells #[.int .u8 (c : Int)] 5)) fun e w' => e = .returned (.string ⟨#[hx ((C.toNat : Int) / 16), hx ((C.toNat : Int) % 16)]⟩) ∧ Below wr.heap.size wr w') := (hex_one wr.heap.size C _ (c : Int) (by rw [hC2.out]) (heap_alloc_new _ _)).mono fun e w' x => ⟨x.1, be0.trans (x.2.mono (by simp))⟩
        rw [eE.out] at HT2
        generalize hx ((C.toNat : Int) / 16) = x1 at *
        generalize hx ((C.toNat : Int) % 16) = x2 at *
        clear be0 hC2 eE hcc
        rcases hh with hh | hh
        · have i32 : (c : Int) < 32 := by omega
          go_wp2_with fail
          refine HX.out.mono ?_
          rintro e w4 ⟨rfl, b4⟩
          have OA : Hid (OwnB w4 w.heap.size (.slice av L.length cv) L) := own'.out.below b4
          have LA : Hid (L.length + ((⟨#[92, 117, 48, 48]⟩ : ByteArray) ++ (⟨#[x1, x2]⟩ : ByteArray)).data.toList.length ≤ 140737488355328) := (by have := LB.out; simp; omega : _ ≤ _)
          have BW : Hid (Below w.heap.size w w4) := bel.out.trans (b4.mono zr)
          have ZA : Hid (w.heap.size ≤ w4.heap.size) := BW.out.size
          have eA : Hid (((⟨#[92, 117, 48, 48]⟩ : ByteArray) ++ (⟨#[x1, x2]⟩ : ByteArray)).data.toList = [92, 117, 48, 48, x1, x2]) := (by simp : _ = _)
          have SA : Hid (∃ T, T = ((⟨#[92, 117, 48, 48]⟩ : ByteArray) ++ (⟨#[x1, x2]⟩ : ByteArray))) := ⟨_, rfl⟩
          clear HX own' LB bel b4 hlen
          go_wp2_with (first | (at_builtin; refine wpList_appS rfl (.tmp 60) (.tmp 64) rfl w.heap.size (.slice av L.length cv) L rfl OA.out ((⟨#[92, 117, 48, 48]⟩ : ByteArray) ++ (⟨#[x1, x2]⟩ : ByteArray)) rfl LA.out ZA.out ?_) | fail)
          intro v5 w5 own5 gr5
          have O5 : Hid (OwnB w5 w.heap.size v5 (L ++ [92, 117, 48, 48, x1, x2])) := own5
          have B5 : Hid (Below w.heap.size w w5) := below_own BW.out OA.out gr5 ZA.out
          clear own5 gr5 OA LA ZA BW eA SA
          go_wp2
          go_roundw
          case rel => exact ⟨k + 1, L ++ [92, 117, 48, 48, x1, x2], by omega, by go_num, O5, B5, HT2⟩
          case measure => simp [intOf]; omega
        · have i32 : ¬ (c : Int) < 32 := by omega
          have i127 : ((c : Int) == 127) = true := beq_iff_eq.2 (by omega)
          clear hh
          go_wp2_with fail
          refine HX.out.mono ?_
          rintro e w4 ⟨rfl, b4⟩
          have OA : Hid (OwnB w4 w.heap.size (.slice av L.length cv) L) := own'.out.below b4
          have LA : Hid (L.length + ((⟨#[92, 117, 48, 48]⟩ : ByteArray) ++ (⟨#[x1, x2]⟩ : ByteArray)).data.toList.length ≤ 140737488355328) := (by have := LB.out; simp; omega : _ ≤ _)
          have BW : Hid (Below w.heap.size w w4) := bel.out.trans (b4.mono zr)
          have ZA : Hid (w.heap.size ≤ w4.heap.size) := BW.out.size
          have eA : Hid (((⟨#[92, 117, 48, 48]⟩ : ByteArray) ++ (⟨#[x1, x2]⟩ : ByteArray)).data.toList = [92, 117, 48, 48, x1, x2]) := (by simp : _ = _)
          have SA : Hid (∃ T, T = ((⟨#[92, 117, 48, 48]⟩ : ByteArray) ++ (⟨#[x1, x2]⟩ : ByteArray))) := ⟨_, rfl⟩
          clear HX own' LB bel b4 hlen
          go_wp2_with (first | (at_builtin; refine wpList_appS rfl (.tmp 60) (.tmp 64) rfl w.heap.size (.slice av L.length cv) L rfl OA.out ((⟨#[92, 117, 48, 48]⟩ : ByteArray) ++ (⟨#[x1, x2]⟩ : ByteArray)) rfl LA.out ZA.out ?_) | fail)
          intro v5 w5 own5 gr5
          have O5 : Hid (OwnB w5 w.heap.size v5 (L ++ [92, 117, 48, 48, x1, x2])) := own5
          have B5 : Hid (Below w.heap.size w w5) := below_own BW.out OA.out gr5 ZA.out
          clear own5 gr5 OA LA ZA BW eA SA
          go_wp2
          go_roundw
          case rel => exact ⟨k + 1, L ++ [92, 117, 48, 48, x1, x2], by omega, by go_num, O5, B5, HT2⟩
          case measure => simp [intOf]; omega
      have i32 : ¬ (c : Int) < 32 := by omega
      have i127 : ((c : Int) == 127) = false := beq_eq_false_iff_ne.2 (by omega)
      have eE : Hid (escB C = [C]) := (by
        have e : ∀ j : Nat, j < 128 → c ≠ j → C ≠ UInt8.ofNat j := fun j hj hcj e => by
          have := hcc.out
          rw [e, UInt8.toNat_ofNat'] at this
          omega
        have e34 : C ≠ 34 := e 34 (by omega) h34
        have e92 : C ≠ 92 := e 92 (by omega) h92
        have e10 : C ≠ 10 := e 10 (by omega) h10
        have e13 : C ≠ 13 := e 13 (by omega) h13
        have e9 : C ≠ 9 := e 9 (by omega) h9
        have e127 : C ≠ 127 := e 127 (by omega) (by omega)
        have hcn := hcc.out
        unfold escB
        rw [if_neg (by rintro (h | h); exact e34 h; exact e92 h), if_neg e10, if_neg e13, if_neg e9, if_neg (by rintro (h | h); omega; exact e127 h)]
        exact (rfl : [C] = [C]))
      have be0 : Below wr.heap.size wr (wr.alloc (.cells #[.int .u8 (c : Int)] 5)) := (Below.refl _ _).alloc (Nat.le_refl _) _
      have OA : Hid (OwnB (wr.alloc (.cells #[.int .u8 (c : Int)] 5)) w.heap.size (.slice av L.length cv) L) := own'.out.below be0
      have BA : Hid (Byt (wr.alloc (.cells #[.int .u8 (c : Int)] 5)) (some ⟨wr.heap.size, 0, none⟩) [C]) := (by
        have h := byt_lit2 wr [C] 5
        rw [show bs [C] = #[.int .u8 (c : Int)] by rw [hcc.out]; rfl] at h
        exact h)
      have LA : Hid (L.length + ([C] : List UInt8).length ≤ 140737488355328) := (by have := LB.out; simp; omega : _ ≤ _)
      have ZA : Hid (w.heap.size ≤ (wr.alloc (.cells #[.int .u8 (c : Int)] 5)).heap.size) := (by simp; omega : _ ≤ _)
      have BW : Hid (Below w.heap.size w (wr.alloc (.cells #[.int .u8 (c : Int)] 5))) := bel.out.trans (be0.mono zr)
      rw [eE.out] at HT2
      clear be0 own' LB bel hlen eE hcc
      go_wp2_with (first | (at_builtin; refine wpList_app rfl (.tmp 19) (.tmp 21) rfl w.heap.size (.slice av L.length cv) L rfl OA.out (some ⟨wr.heap.size, 0, none⟩) 1 1 [C] rfl rfl BA.out LA.out ZA.out ?_) | fail)
      intro v5 w5 own5 gr5
      have O5 : Hid (OwnB w5 w.heap.size v5 (L ++ [C])) := own5
      have B5 : Hid (Below w.heap.size w w5) := below_own BW.out OA.out gr5 ZA.out
      clear own5 gr5 OA BA LA ZA BW
      go_wp2
      go_roundw
      case rel => exact ⟨k + 1, L ++ [C], by omega, by go_num, O5, B5, HT2⟩
      case measure => simp [intOf]; omega
    · have h' : ¬ (k : Int) < (s.size : Int) := by omega
      have eL : Hid (L ++ [34] = quoL s.data.toList) := by
        have e := hT.out
        rw [List.drop_eq_nil_of_le (by omega), List.flatMap_nil, List.append_nil] at e
        show _ = _
        rw [e]
        rfl
      have ln : 0 < (quoL s.data.toList).length := by simp [quoL]
      have be0 : Below wr.heap.size wr (wr.alloc (.cells #[.int .u8 34] 5)) := (Below.refl _ _).alloc (Nat.le_refl _) _
      have OA : Hid (OwnB (wr.alloc (.cells #[.int .u8 34] 5)) w.heap.size (.slice av L.length cv) L) := own.out.below be0
      have BA : Hid (Byt (wr.alloc (.cells #[.int .u8 34] 5)) (some ⟨wr.heap.size, 0, none⟩) [34]) := byt_lit2 wr [34] 5
      have LA : Hid (L.length + [(34 : UInt8)].length ≤ 140737488355328) := (by have := LB.out; simp; omega : _ ≤ _)
      have ZA : Hid (w.heap.size ≤ (wr.alloc (.cells #[.int .u8 34] 5)).heap.size) := (by simp; omega : _ ≤ _)
      have BW : Hid (Below w.heap.size w (wr.alloc (.cells #[.int .u8 34] 5))) := bel.out.trans (be0.mono zr)
      clear own bel hT LB be0 hlen
      go_wp2_with (first | (at_builtin; refine wpList_app rfl (.tmp 66) (.tmp 68) rfl w.heap.size (.slice av L.length cv) L rfl OA.out (some ⟨wr.heap.size, 0, none⟩) 1 1 [34] rfl rfl BA.out LA.out ZA.out ?_) | fail)
      intro v5 w5 own5 gr5
      have B5 : Hid (Below w.heap.size w w5) := below_own BW.out OA.out gr5 ZA.out
      rw [eL.out] at own5
      obtain ⟨g1, c1, rfl, hc1, hcl, _, _⟩ := own5.open1 ln
      have hcv5 := run_convert_bytes_back (P := Tryd.prog) w5 36 9 5 ⟨g1, 0, none⟩ c1 (quoL s.data.toList) Tryd.underlying36 Tryd.underlying5 Tryd.underlying9 (fun j hj => by
        have e : (⟨g1, 0, none⟩ : Addr).add j = ⟨g1, j, none⟩ := by simpa using Addr.add_mid g1 0 j
        rw [e, hcl j hj]
        simp [at8, List.getElem?_eq_getElem hj])
      clear own5 gr5 hcl hc1 OA BA LA ZA BW ln
      generalize hQL : quoL s.data.toList = QL at *
      have HQL : Hid (quoL s.data.toList = QL) := hQL
      clear hQL
      go_wp2
      go_ret
      exact ⟨by rw [HQL.out]; rfl, B5.out⟩
end Go.Proofs.YtepkanibcljdkaaDoor.Q

