import Derived.Test.YtdgbjmhmacgaaaaDoorRb
import Derived.Test.YtdgbjmhmacgaaaaDoorRm
namespace Go.Proofs.YtdgbjmhmacgaaaaDoor
open Go.RowKit
set_option linter.unusedVariables false
set_option linter.unusedSimpArgs false

theorem hx_ix : ∀ d : Fin 16, ixD (hx (d.val : Int)).toNat = (d.val : Int) := by decide +kernel
theorem ix_hx : ∀ b : Fin 256, 0 ≤ ixD b.val → (hx (ixD b.val)).toNat = b.val := by decide +kernel
theorem hx_ix' {d : Int} (h0 : 0 ≤ d) (h1 : d < 16) : ixD (hx d).toNat = d := by
  obtain ⟨n, rfl⟩ := Int.eq_ofNat_of_zero_le h0
  exact hx_ix ⟨n, by omega⟩
theorem wdC_0 (c : Nat) : by8 (wdC c) 0 = 117 := by unfold by8; rw [wdC_list]; rfl
theorem wdC_1 (c : Nat) : by8 (wdC c) 1 = 48 := by unfold by8; rw [wdC_list]; rfl
theorem wdC_2 (c : Nat) : by8 (wdC c) 2 = 48 := by unfold by8; rw [wdC_list]; rfl
theorem wdC_3 (c : Nat) : by8 (wdC c) 3 = (hx ((c : Int) / 16)).toNat := by unfold by8; rw [wdC_list]; rfl
theorem wdC_4 (c : Nat) : by8 (wdC c) 4 = (hx ((c : Int) % 16)).toNat := by unfold by8; rw [wdC_list]; rfl
theorem mq_one {s t : ByteArray} {k m : Nat} (h : MQ s t k) (g : MQ s t m) : k = m := by
  have aux : ∀ {k m : Nat}, MQ s t k → MQ s t m → ¬ k < m := fun {k m} h g hlt =>
    h.stop (by have := g.le4; omega) (by have := g.le; omega) (g.all k hlt)
  have h1 := aux h g
  have h2 := aux g h
  omega
theorem mp_ex_from (s : ByteArray) : ∀ f m : Nat, m + f = 4 → m ≤ s.size → (∀ j, j < m → by8 s j = codeB j) → ∃ k, MP s k
  | 0, m, hm, hs, ha => ⟨m, by omega, hs, ha, fun h => by omega⟩
  | f + 1, m, hm, hs, ha => by
    by_cases h : m < s.size ∧ by8 s m = codeB m
    · refine mp_ex_from s f (m + 1) (by omega) (by omega) (fun j hj => ?_)
      rcases Nat.lt_or_ge j m with h1 | h1
      · exact ha j h1
      · have : j = m := by omega
        subst this; exact h.2
    · exact ⟨m, by omega, hs, ha, fun _ h2 h3 => h ⟨h2, h3⟩⟩
theorem mp_ex (s : ByteArray) : ∃ k, MP s k := mp_ex_from s 4 0 rfl (Nat.zero_le _) (fun j hj => by omega)
theorem tail_by8 (t : ByteArray) (i : Nat) : by8 (t.extract 1 t.size) i = by8 t (i + 1) := by
  unfold by8
  rw [Lib.ext_list, List.getD_eq_getElem?_getD, List.getD_eq_getElem?_getD, List.getElem?_drop, Nat.add_comm]
theorem elig_hi {d : Nat} (h : Elig d) : (d : Int) / 16 = 0 ∨ (d : Int) / 16 = 1 ∨ (d : Int) / 16 = 7 := by unfold Elig at h; omega
theorem elig_lt {d : Nat} (h : Elig d) : d < 128 := by unfold Elig at h; omega
theorem elig_sign {d : Nat} (h : Elig d) : hidB (d : Int) = true ∧ signN (d : Int) = 0 := by
  unfold Elig at h
  constructor
  · unfold hidB
    rw [Bool.or_eq_true, decide_eq_true_iff, decide_eq_true_iff]
    omega
  · unfold signN
    rw [if_neg (by omega), if_neg (by omega), if_neg (by omega), if_neg (by omega)]
theorem sign_elig {d : Nat} (h1 : hidB (d : Int) = true) (h2 : signN (d : Int) = 0) : Elig d := by
  unfold hidB at h1
  rw [Bool.or_eq_true, decide_eq_true_iff, decide_eq_true_iff] at h1
  unfold signN at h2
  repeat' split at h2
  all_goals (unfold Elig; omega)
theorem cb0 : codeB 0 = 92 := rfl
theorem cb1 : codeB 1 = 117 := rfl
theorem cb2 : codeB 2 = 48 := rfl
theorem cb3 : codeB 3 = 48 := rfl
/-- The first three signs behind the stroke stand in every code. -/
theorem wd_code (c i : Nat) (h : i < 3) : by8 (wdC c) i = codeB (i + 1) := by
  match i, h with
  | 0, _ => exact wdC_0 c
  | 1, _ => exact wdC_1 c
  | 2, _ => exact wdC_2 c
theorem full_code {t : ByteArray} {c : Nat} (h92 : by8 t 0 = 92) (h0 : 0 < t.size) (he : Elig c) (hm : MQ (t.extract 1 t.size) (wdC c) 5) : MP t 4 ∧ codedV t 4 = ((c : Int), 6, true) := by
  have zu : (t.extract 1 t.size).size = t.size - 1 := Lib.ext_size t 1
  have hl := hm.le
  have a := fun i hi => hm.all i hi
  have a3 := a 3 (by omega)
  have a4 := a 4 (by omega)
  rw [tail_by8, wdC_3] at a3
  rw [tail_by8, wdC_4] at a4
  have lt := elig_lt he
  have hh := elig_hi he
  obtain ⟨e1, e2⟩ := elig_sign he
  constructor
  · refine ⟨by omega, by omega, fun j hj => ?_, fun h => by omega⟩
    match j, hj with
    | 0, _ => exact h92
    | j + 1, hj =>
      have := a j (by omega)
      rw [tail_by8, wd_code c j (by omega)] at this
      exact this
  · have x4 : ixD (by8 t 4) = (c : Int) / 16 := by rw [a3]; exact hx_ix' (by omega) (by omega)
    have x5 : ixD (by8 t 5) = (c : Int) % 16 := by rw [a4]; exact hx_ix' (by omega) (by omega)
    unfold codedV
    rw [x4, x5, show (c : Int) / 16 * 16 + (c : Int) % 16 = (c : Int) by omega]
    rw [if_neg (by omega), if_neg (not_not_intro hh), if_neg (by omega), if_neg (by rw [e1, e2]; simp; omega)]
/-- Where k < 4 signs stand, every code goes as far. -/
theorem few_code {t : ByteArray} {k c m : Nat} (hk : MP t k) (h1 : 1 ≤ k) (h4 : k < 4) (hm : MQ (t.extract 1 t.size) (wdC c) m) : m = k - 1 := by
  have zu : (t.extract 1 t.size).size = t.size - 1 := Lib.ext_size t 1
  have hl := hk.le
  refine mq_one hm ⟨by rw [wdC_size]; omega, by omega, fun j hj => ?_, fun a b => ?_⟩
  · rw [tail_by8, wd_code c j (by omega)]
    exact hk.all (j + 1) (by omega)
  · rw [tail_by8, wd_code c (k - 1) (by omega), show k - 1 + 1 = k by omega]
    exact hk.stop h4 (by omega)
theorem three_code {t : ByteArray} {c m : Nat} (hk : MP t 4) (hs : t.size = 4 ∨ (4 < t.size ∧ by8 t 4 ≠ (hx ((c : Int) / 16)).toNat)) (hm : MQ (t.extract 1 t.size) (wdC c) m) : m = 3 := by
  have zu : (t.extract 1 t.size).size = t.size - 1 := Lib.ext_size t 1
  have hl := hk.le
  refine mq_one hm ⟨by rw [wdC_size]; omega, by omega, fun j hj => ?_, fun a b => ?_⟩
  · rw [tail_by8, wd_code c j (by omega)]
    exact hk.all (j + 1) (by omega)
  · rcases hs with hs | hs
    · omega
    · rw [tail_by8, wdC_3]
      exact hs.2
theorem four_code {t : ByteArray} {c m : Nat} (hk : MP t 4) (h4 : 4 < t.size) (h : by8 t 4 = (hx ((c : Int) / 16)).toNat) (hm : MQ (t.extract 1 t.size) (wdC c) m) : 4 ≤ m := by
  have zu : (t.extract 1 t.size).size = t.size - 1 := Lib.ext_size t 1
  rcases Nat.lt_or_ge m 4 with hl | hl
  · exfalso
    refine hm.stop (by rw [wdC_size]; omega) (by omega) ?_
    rw [tail_by8]
    rcases Nat.lt_or_ge m 3 with h3 | h3
    · rw [wd_code c m h3]
      exact hk.all (m + 1) (by omega)
    · have : m = 3 := by omega
      subst this
      rw [wdC_3]
      exact h
  · exact hl
theorem elig0 : Elig 0 := by unfold Elig; omega
theorem best_code {t : ByteArray} {best : Nat} (h92 : by8 t 0 = 92) (h0 : 0 < t.size) (hb : BestP (t.extract 1 t.size) 128 best) : ∃ k, MP t k ∧ codedV t k = (0, 1 + (best : Int), false) := by
  obtain ⟨k, hk⟩ := mp_ex t
  have zu : (t.extract 1 t.size).size = t.size - 1 := Lib.ext_size t 1
  have k1 : 1 ≤ k := by
    rcases Nat.lt_or_ge 0 k with h | h
    · exact h
    · have : k = 0 := by omega
      subst this
      exact absurd h92 (hk.stop (by omega) h0)
  have kl := hk.le4
  have ks := hk.le
  refine ⟨k, hk, ?_⟩
  by_cases h4 : k < 4
  · obtain ⟨m, hm, _, hmb⟩ := hb.all 0 (by omega) elig0
    have e1 := few_code hk k1 h4 hm
    have e2 : best = k - 1 := by
      rcases hb.some with h | ⟨d, _, _, hd⟩
      · omega
      · exact few_code hk k1 h4 hd
    unfold codedV
    rw [if_pos (.inl h4), e2]
    congr 2
    omega
  have : k = 4 := by omega
  subst this
  by_cases h5 : t.size = 4
  · obtain ⟨m, hm, _, hmb⟩ := hb.all 0 (by omega) elig0
    have e1 := three_code hk (.inl h5) hm
    have e2 : best = 3 := by
      rcases hb.some with h | ⟨d, _, _, hd⟩
      · omega
      · exact three_code hk (.inl h5) hd
    unfold codedV
    rw [if_pos (.inr h5.symm), e2]
    rfl
  have h5s : 4 < t.size := by omega
  have l4 := by8_lt t 4
  have l5 := by8_lt t 5
  by_cases hh : ixD (by8 t 4) = 0 ∨ ixD (by8 t 4) = 1 ∨ ixD (by8 t 4) = 7
  · have hx4 := ix_hx ⟨by8 t 4, l4⟩ (by simp only []; omega)
    simp only [] at hx4
    obtain ⟨d0, he0, hd0⟩ : ∃ d0 : Nat, Elig d0 ∧ (d0 : Int) / 16 = ixD (by8 t 4) := by
      rcases hh with h | h | h
      · exact ⟨0, by unfold Elig; omega, by rw [h]; rfl⟩
      · exact ⟨16, by unfold Elig; omega, by rw [h]; rfl⟩
      · exact ⟨127, by unfold Elig; omega, by rw [h]; rfl⟩
    obtain ⟨m, hm, _, hmb⟩ := hb.all d0 (elig_lt he0) he0
    have e1 := four_code hk h5s (by rw [hd0, hx4]) hm
    have e2 : best = 4 := by
      rcases hb.some with h | ⟨d, hd1, hd2, hd⟩
      · omega
      · obtain ⟨m', hm', h5', _⟩ := hb.all d hd1 hd2
        have := mq_one hd hm'
        omega
    subst e2
    unfold codedV
    rw [if_neg (by omega), if_neg (not_not_intro hh)]
    by_cases h6 : t.size = 5
    · rw [if_pos h6]; rfl
    rw [if_neg h6]
    by_cases hq : ixD (by8 t 5) < 0 ∨ hidB (ixD (by8 t 4) * 16 + ixD (by8 t 5)) = false ∨ signN (ixD (by8 t 4) * 16 + ixD (by8 t 5)) ≠ 0
    · rw [if_pos hq]; rfl
    exfalso
    have q1 : 0 ≤ ixD (by8 t 5) := by omega
    have q2 : hidB (ixD (by8 t 4) * 16 + ixD (by8 t 5)) = true := by
      cases hc : hidB (ixD (by8 t 4) * 16 + ixD (by8 t 5)) with
      | true => rfl
      | false => exact absurd (.inr (.inl hc)) hq
    have q3 : signN (ixD (by8 t 4) * 16 + ixD (by8 t 5)) = 0 := by
      by_cases hc : signN (ixD (by8 t 4) * 16 + ixD (by8 t 5)) = 0
      · exact hc
      · exact absurd (.inr (.inr hc)) hq
    have bd5 := ixD_bd (by8 t 5)
    have hx5 := ix_hx ⟨by8 t 5, l5⟩ q1
    simp only [] at hx5
    obtain ⟨c, hc⟩ := Int.eq_ofNat_of_zero_le (show 0 ≤ ixD (by8 t 4) * 16 + ixD (by8 t 5) by omega)
    rw [hc] at q2 q3
    have he := sign_elig q2 q3
    have c1 : (c : Int) / 16 = ixD (by8 t 4) := by omega
    have c2 : (c : Int) % 16 = ixD (by8 t 5) := by omega
    obtain ⟨m', hm', h5', _⟩ := hb.all c (elig_lt he) he
    have : MQ (t.extract 1 t.size) (wdC c) 5 := by
      refine ⟨by rw [wdC_size]; omega, by omega, fun j hj => ?_, fun a => by rw [wdC_size] at a; omega⟩
      rw [tail_by8]
      rcases Nat.lt_or_ge j 3 with h3 | h3
      · rw [wd_code c j h3]
        exact hk.all (j + 1) (by omega)
      · rcases (show j = 3 ∨ j = 4 by omega) with rfl | rfl
        · rw [wdC_3, c1, hx4]
        · rw [wdC_4, c2, hx5]
    have := mq_one this hm'
    omega
  · have hne : ∀ d, Elig d → by8 t 4 ≠ (hx ((d : Int) / 16)).toNat := fun d hd e => by
      have lt := elig_lt hd
      have := hx_ix' (d := (d : Int) / 16) (by omega) (by omega)
      rw [← e] at this
      rw [this] at hh
      exact hh (elig_hi hd)
    obtain ⟨m, hm, _, hmb⟩ := hb.all 0 (by omega) elig0
    have e1 := three_code hk (.inr ⟨h5s, hne 0 elig0⟩) hm
    have e2 : best = 3 := by
      rcases hb.some with h | ⟨d, _, hd2, hd⟩
      · omega
      · exact three_code hk (.inr ⟨h5s, hne d hd2⟩) hd
    unfold codedV
    rw [if_neg (by omega), if_pos hh, e2]
    rfl
/-- What the reference's escape tells is what escaped tells. -/
theorem esc_of {t : ByteArray} {b n best : Int} (h92 : by8 t 0 = 92) (h0 : 0 < t.size) (h : EscRV (t.extract 1 t.size) (b, n, best)) :
    (n = 0 ∧ 0 ≤ best ∧ EscV t (0, 1 + best, false)) ∨ (1 ≤ n ∧ 0 ≤ b ∧ b < 128 ∧ EscV t (b, 1 + n, true)) := by
  have zu : (t.extract 1 t.size).size = t.size - 1 := Lib.ext_size t 1
  unfold EscRV at h
  rw [tail_by8] at h
  rcases h with ⟨a, e⟩ | ⟨a, q, e⟩ | ⟨a, q, e⟩ | ⟨a, q, e⟩ | ⟨a, q, e⟩ | ⟨a, q, r⟩
  · cases e
    exact .inl ⟨rfl, by omega, .inl ⟨by omega, by rw [show t.size = 1 by omega]; rfl⟩⟩
  · cases e
    refine .inr ⟨by omega, by omega, by omega, .inr (.inl ⟨by omega, ((by8 t (0 + 1) : Nat) : Int), ?_, ?_, rfl⟩)⟩
    · rcases q with q | q
      · rw [q]; left; rfl
      · rw [q]; right; left; rfl
    · rcases q with q | q
      · rw [show by8 t 1 = by8 t (0 + 1) from rfl, q]; rfl
      · rw [show by8 t 1 = by8 t (0 + 1) from rfl, q]; rfl
  · cases e
    refine .inr ⟨by omega, by omega, by omega, .inr (.inl ⟨by omega, 10, ?_, ?_, rfl⟩)⟩
    · right; right; left; rfl
    · rw [show by8 t 1 = by8 t (0 + 1) from rfl, q]; rfl
  · cases e
    refine .inr ⟨by omega, by omega, by omega, .inr (.inl ⟨by omega, 13, ?_, ?_, rfl⟩)⟩
    · right; right; right; left; rfl
    · rw [show by8 t 1 = by8 t (0 + 1) from rfl, q]; rfl
  · cases e
    refine .inr ⟨by omega, by omega, by omega, .inr (.inl ⟨by omega, 9, ?_, ?_, rfl⟩)⟩
    · right; right; right; right; rfl
    · rw [show by8 t 1 = by8 t (0 + 1) from rfl, q]; rfl
  · have hno : ∀ c : Int, InC c → signN c ≠ (by8 t 1 : Int) := fun c hc => by
      rw [show by8 t 1 = by8 t (0 + 1) from rfl]
      rcases hc with rfl | rfl | rfl | rfl | rfl
      · show (34 : Int) ≠ _; omega
      · show (92 : Int) ≠ _; omega
      · show (110 : Int) ≠ _; omega
      · show (114 : Int) ≠ _; omega
      · show (116 : Int) ≠ _; omega
    rcases r with ⟨c, hc, he, hm, e⟩ | ⟨bb, hb, e⟩
    · cases e
      obtain ⟨f1, f2⟩ := full_code h92 h0 he hm
      exact .inr ⟨by omega, by omega, by omega, .inr (.inr ⟨by omega, hno, 4, f1, by rw [f2]; rfl⟩)⟩
    · cases e
      obtain ⟨k, f1, f2⟩ := best_code h92 h0 hb
      exact .inl ⟨rfl, by omega, .inr (.inr ⟨by omega, hno, k, f1, by rw [f2]⟩)⟩
end Go.Proofs.YtdgbjmhmacgaaaaDoor
