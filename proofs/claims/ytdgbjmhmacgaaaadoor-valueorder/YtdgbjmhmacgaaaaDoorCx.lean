import Derived.Test.YtdgbjmhmacgaaaaDoorCw
namespace Go.Proofs.YtdgbjmhmacgaaaaDoor
open Go.RowKit
set_option linter.unusedVariables false
set_option linter.unusedSimpArgs false

theorem emp_eq {s s' : ByteArray} (h : s.toList.isEmpty = true) (h' : s'.toList.isEmpty = true) : s.toList = s'.toList := by
  rw [List.isEmpty_iff] at h h'
  rw [h, h']
/-- Of right values of one kind two of the three parts are alike. -/
theorem right_one {k n : Int} {f : Nat} {s : ByteArray} {n' : Int} {f' : Nat} {s' : ByteArray} (h : rightV k n f s = true) (h' : rightV k n' f' s' = true) :
    (n = n' ∧ f = f') ∨ (n = n' ∧ s.toList = s'.toList) ∨ (f = f' ∧ s.toList = s'.toList) := by
  unfold rightV at h h'
  by_cases k3 : k = 3
  · rw [if_pos k3] at h h'
    unfold rightF at h h'
    simp only [Bool.and_eq_true, decide_eq_true_eq] at h h'
    exact .inr (.inl ⟨by omega, emp_eq h.2 h'.2⟩)
  rw [if_neg k3] at h h'
  by_cases k4 : k = 4
  · rw [if_pos k4] at h h'
    unfold rightT at h h'
    simp only [Bool.and_eq_true, decide_eq_true_eq] at h h'
    exact .inl ⟨by omega, by omega⟩
  rw [if_neg k4] at h h'
  unfold rightB at h h'
  by_cases k1 : k = 1
  · rw [if_pos k1] at h h'
    simp only [Bool.and_eq_true, decide_eq_true_eq] at h h'
    exact .inr (.inr ⟨by omega, emp_eq h.2 h'.2⟩)
  rw [if_neg k1] at h h'
  by_cases k2 : k = 2 ∨ k = 7
  · rw [if_pos k2] at h h'
    simp only [Bool.and_eq_true, decide_eq_true_eq] at h h'
    exact .inr (.inr ⟨by omega, emp_eq h.2 h'.2⟩)
  rw [if_neg k2] at h h'
  by_cases k5 : k = 5
  · rw [if_pos k5] at h h'
    simp only [Bool.and_eq_true, decide_eq_true_eq] at h h'
    exact .inl ⟨by omega, by omega⟩
  rw [if_neg k5] at h h'
  by_cases k6 : k = 6
  · rw [if_pos k6] at h h'
    simp only [Bool.and_eq_true, decide_eq_true_eq] at h h'
    exact .inr (.inr ⟨by omega, emp_eq h.2 h'.2⟩)
  rw [if_neg k6] at h h'
  by_cases k11 : k ≤ 11
  · rw [if_pos k11] at h h'
    simp only [Bool.and_eq_true, decide_eq_true_eq] at h h'
    exact .inr (.inr ⟨by omega, emp_eq h.2 h'.2⟩)
  · rw [if_neg k11] at h
    cases h
theorem right_nz {k n : Int} {f : Nat} {s : ByteArray} (h : rightV k n f s = true) : f ≠ 9223372036854775808 := by
  intro e
  subst e
  unfold rightV at h
  split at h
  · unfold rightF finB at h
    simp at h
  · split at h
    · unfold rightT at h
      simp at h
    · unfold rightB at h
      simp at h
theorem fkey_inj {f f' : Nat} (h : f < 18446744073709551616) (h' : f' < 18446744073709551616) (z : f ≠ 9223372036854775808) (z' : f' ≠ 9223372036854775808) (e : fkey f = fkey f') : f = f' := by
  unfold fkey at e
  split at e <;> split at e <;> omega
theorem same_iff (k n : Int) (f : Nat) (s : ByteArray) (k' n' : Int) (f' : Nat) (s' : ByteArray) : sameB k n f s k' n' f' s' = true ↔ k = k' ∧ n = n' ∧ f = f' ∧ s.toList = s'.toList := by
  unfold sameB
  simp [and_assoc]
theorem cI_self (a : Int) : cI a a = 0 := by unfold cI; rw [if_neg (by omega), if_neg (by omega)]
theorem cI_zero {a b : Int} : cI a b = 0 ↔ a = b := by
  unfold cI
  constructor
  · intro h; split at h
    · omega
    · split at h <;> omega
  · rintro rfl; rw [if_neg (by omega), if_neg (by omega)]
theorem cS_zero {a b : ByteArray} : cS a b = 0 ↔ a.toList = b.toList := by
  rcases cS_val a b with ⟨p, e⟩ | ⟨p, e⟩ | ⟨p, e⟩ <;> rw [e]
  · constructor
    · intro h; omega
    · intro h; rw [h, bl_irrefl] at p; cases p
  · exact ⟨fun _ => p, fun _ => rfl⟩
  · constructor
    · intro h; omega
    · intro h; rw [h, bl_irrefl] at p; cases p
theorem or4_1 {a b c d : Int} (h : a ≠ 0) : or4 a b c d = a := by unfold or4; rw [if_neg h]
theorem or4_2 {b c d : Int} (h : b ≠ 0) : or4 0 b c d = b := by unfold or4; rw [if_pos rfl, if_neg h]
theorem or4_3 {c d : Int} (h : c ≠ 0) : or4 0 0 c d = c := by unfold or4; rw [if_pos rfl, if_pos rfl, if_neg h]
theorem cI_ne {a b : Int} (h : a ≠ b) : cI a b ≠ 0 := fun e => h (cI_zero.1 e)
theorem cmp_ref (k n : Int) (f : Nat) (s : ByteArray) (k' n' : Int) (f' : Nat) (s' : ByteArray) (hf : f < 18446744073709551616) (hf' : f' < 18446744073709551616) : refV k n f s k' n' f' s' = cmpV k n f s k' n' f' s' := by
  unfold refV cmpV
  by_cases h : rightV k n f s = true ∧ rightV k' n' f' s' = true
  · rw [if_pos h]
    obtain ⟨h1, h2⟩ := h
    by_cases hs : sameB k n f s k' n' f' s' = true
    · rw [if_neg (by rw [hs]; simp)]
      obtain ⟨rfl, rfl, rfl, e⟩ := (same_iff _ _ _ _ _ _ _ _).1 hs
      rw [cI_self, cI_self, cI_self, cS_zero.2 e]
      rfl
    · rw [if_pos ⟨h1, h2, by simpa using hs⟩]
      rw [same_iff] at hs
      unfold refN
      by_cases hk : k = k'
      · subst hk
        rw [if_neg (by simp), cI_self]
        have inj := @fkey_inj f f' hf hf' (right_nz h1) (right_nz h2)
        rcases right_one h1 h2 with ⟨e1, e2⟩ | ⟨e1, e2⟩ | ⟨e1, e2⟩
        · subst e1 e2
          have hne : ¬ s.toList = s'.toList := fun e => hs ⟨rfl, rfl, rfl, e⟩
          rw [cI_self, cI_self, show or4 0 0 0 (cS s s') = cS s s' from rfl]
          rcases cS_val s s' with ⟨p, e⟩ | ⟨p, e⟩ | ⟨p, e⟩
          · rw [e, if_pos (.inr (.inr p))]
          · exact absurd p hne
          · rw [e, if_neg]
            rintro (h | h | h)
            · omega
            · omega
            · rw [bl_asymm p] at h; cases h
        · subst e1
          have hne : fkey f ≠ fkey f' := fun e => hs ⟨rfl, rfl, inj e, e2⟩
          rw [cI_self, or4_3 (cI_ne hne)]
          unfold cI
          rw [e2, bl_irrefl]
          by_cases hlt : fkey f < fkey f'
          · rw [if_pos hlt, if_pos (.inr (.inl hlt))]
          · rw [if_neg (show ¬ (n < n ∨ fkey f < fkey f' ∨ false = true) by simp; omega), if_neg hlt, if_pos (by omega)]
        · subst e1
          have hne : n ≠ n' := fun e => hs ⟨rfl, e, rfl, e2⟩
          rw [or4_2 (cI_ne hne)]
          unfold cI
          rw [e2, bl_irrefl]
          by_cases hlt : n < n'
          · rw [if_pos hlt, if_pos (.inl hlt)]
          · rw [if_neg (show ¬ (n < n' ∨ fkey f < fkey f ∨ false = true) by simp; omega), if_neg hlt, if_pos (by omega)]
      · rw [if_pos hk, or4_1 (cI_ne hk)]
        unfold cI
        by_cases hlt : k < k'
        · rw [if_pos hlt, if_pos hlt]
        · rw [if_neg hlt, if_neg hlt, if_pos (by omega)]
  · rw [if_neg h, if_neg (fun h' => h ⟨h'.1, h'.2.1⟩)]
/-- All four orders, one behind the other. -/
theorem to_all : TO (fun (p q : Int × Int × Int × ByteArray) => or4 (cI p.1 q.1) (cI p.2.1 q.2.1) (cI p.2.2.1 q.2.2.1) (cS p.2.2.2 q.2.2.2)) := by
  have h := to_cI.lex (to_cI.lex (to_cI.lex to_cS))
  exact h
theorem or4_zero (a b c d : Int) : or4 a b c d = 0 ↔ a = 0 ∧ b = 0 ∧ c = 0 ∧ d = 0 := by
  unfold or4
  constructor
  · intro h
    split at h
    · split at h
      · split at h <;> simp_all
      · omega
    · omega
  · rintro ⟨rfl, rfl, rfl, rfl⟩; rfl
end Go.Proofs.YtdgbjmhmacgaaaaDoor
