import Derived.Test.YtefoipjbbfcjhaaDoorDw
import Derived.Test.YtefoipjbbfcjhaaDoorDv
namespace Go.Proofs.YtefoipjbbfcjhaaDoor
open Go.RowKit
set_option linter.unusedVariables false
set_option linter.unusedSimpArgs false

theorem asc_kept (A B : List Nat) : ∀ (f i j i0 j0 : Nat), i ≤ A.length → j ≤ B.length → i0 ≤ i → j0 ≤ j → Asc A.length B.length (kept A B f i j ++ [(A.length, B.length, 0)]) i0 j0
  | 0, i, j, i0, j0, h1, h2, h3, h4 => by
    refine ⟨?_, ?_, ?_, ?_, trivial⟩ <;> dsimp only <;> omega
  | f + 1, i, j, i0, j0, h1, h2, h3, h4 => by
    by_cases hc : i < A.length ∧ j < B.length
    · rw [kept, if_pos hc]
      split
      · refine ⟨h3, h4, ?_, ?_, asc_kept A B f (i + 1) (j + 1) _ _ (by omega) (by omega) (by dsimp only; omega) (by dsimp only; omega)⟩ <;> dsimp only <;> omega
      · split
        · exact asc_kept A B f (i + 1) j _ _ (by omega) (by omega) (by omega) (by omega)
        · exact asc_kept A B f i (j + 1) _ _ (by omega) (by omega) (by omega) (by omega)
    · rw [kept_end hc]
      refine ⟨?_, ?_, ?_, ?_, trivial⟩ <;> dsimp only <;> omega
theorem kept_len (A B : List Nat) : ∀ (f i j : Nat), (kept A B f i j).length ≤ A.length - i
  | 0, i, j => by simp [kept]
  | f + 1, i, j => by
    by_cases hc : i < A.length ∧ j < B.length
    · rw [kept, if_pos hc]
      have h1 := kept_len A B f (i + 1) (j + 1)
      have h2 := kept_len A B f (i + 1) j
      have h3 := kept_len A B f i (j + 1)
      split
      · simp only [List.length_cons]; omega
      · split <;> omega
    · rw [kept_end hc]; simp
theorem asc_ends {la lb FR EN : Nat} (h1 : FR ≤ la) (h2 : FR ≤ lb) (h3 : EN ≤ la - FR) (h4 : EN ≤ lb - FR) : Asc la lb ([(0, 0, FR), (la - EN, lb - EN, EN)] ++ [(la, lb, 0)]) 0 0 := by
  refine ⟨?_, ?_, ?_, ?_, ?_, ?_, ?_, ?_, ?_, ?_, ?_, ?_, trivial⟩ <;> dsimp only <;> omega
/-- How much of the front two texts have in common, and of the end. -/
def frN (A B : List Nat) : Nat := frF A.length B.length (fun i => A.getD i 0) (fun i => B.getD i 0) (A.length - 0) 0
def enN (A B : List Nat) : Nat := enF A.length B.length (frN A B) (fun i => A.getD i 0) (fun i => B.getD i 0) (A.length - 0) 0
theorem frN_le (A B : List Nat) : frN A B ≤ A.length ∧ frN A B ≤ B.length := frF_le _ _ (Nat.zero_le _) (Nat.zero_le _)
theorem enN_le (A B : List Nat) : enN A B ≤ A.length - frN A B ∧ enN A B ≤ B.length - frN A B := enF_le _ _ (Nat.zero_le _) (Nat.zero_le _)
/-- What the script of two texts' characters is. -/
def scrL (A B : List Nat) : List Pat := if 2000 < A.length ∨ 2000 < B.length then betw B ([(0, 0, frN A B), (A.length - enN A B, B.length - enN A B, enN A B)] ++ [(A.length, B.length, 0)]) 0 0 else rest A B 0 0 0 0
def scr (s t : ByteArray) : List Pat := if Lib.validD s.data.toList = true ∧ Lib.validD t.data.toList = true then scrL (rn s) (rn t) else []
theorem txt_nil_iff (l : List Nat) : txt l = ⟨#[]⟩ ↔ l.length = 0 := by
  constructor
  · intro h
    have := (txt_size l).1
    rw [h] at this
    exact Nat.le_zero.1 this
  · intro h
    rw [List.eq_nil_of_length_eq_zero h, txt_nil]
    rfl
theorem rough_eq (B : List Nat) (la FR EN : Nat) (h1 : FR ≤ la) (h2 : FR ≤ B.length) (h3 : EN ≤ la - FR) (h4 : EN ≤ B.length - FR) :
    betw B ([(0, 0, FR), (la - EN, B.length - EN, EN)] ++ [(la, B.length, 0)]) 0 0 = roL la B.length FR EN (fun i => txt (part B FR i)) := by
  have e1 : la - EN + EN = la := by omega
  have e2 : B.length - EN + EN = B.length := by omega
  have p1 : pend B 0 0 0 0 = [] := by simp [pend]
  have p3 : pend B la B.length la B.length = [] := by simp [pend]
  show pend B 0 0 0 0 ++ (pend B (0 + FR) (0 + FR) (la - EN) (B.length - EN) ++ (pend B (la - EN + EN) (B.length - EN + EN) la B.length ++ [])) = _
  rw [p1, e1, e2, p3, Nat.zero_add]
  have pl := part_len (b := B) (i := FR) (j := B.length - EN) (by omega) (by omega)
  unfold pend roL
  simp only [List.nil_append, List.append_nil]
  by_cases hc : FR < la - EN ∨ FR < B.length - EN
  · rw [if_pos hc, if_neg]
    · have : la - EN - FR = la - FR - EN := by omega
      rw [this]
    · rintro ⟨ha, hb⟩
      rw [txt_nil_iff, pl] at hb
      omega
  · rw [if_neg hc, if_pos]
    refine ⟨by omega, ?_⟩
    rw [txt_nil_iff, pl]
    omega
end Go.Proofs.YtefoipjbbfcjhaaDoor
