import Derived.Test.YtefoipjbbfcjhaaDoorDl
import Derived.Test.YtefoipjbbfcjhaaDoorDi
namespace Go.Proofs.YtefoipjbbfcjhaaDoor
open Go.RowKit
set_option linter.unusedVariables false
set_option linter.unusedSimpArgs false

/-- How far the reference's Script is. -/
def LS (A B : List Nat) (SC l : List Pat) (i j : Nat) (op : Bool) : Prop :=
  ∃ (lp : List Pat) (i0 j0 : Nat), i0 ≤ i ∧ j0 ≤ j ∧ l = lp ++ pend B i0 j0 i j ∧ (op = true ↔ (i0 < i ∨ j0 < j)) ∧ SC = lp ++ rest A B i j i0 j0 ∧ lp.length ≤ i0 + j0
theorem LS.start (A B : List Nat) : LS A B (rest A B 0 0 0 0) [] 0 0 false := ⟨[], 0, 0, by omega, by omega, by simp [pend], by simp, by simp, by simp⟩
theorem pend_len (b : List Nat) (i0 j0 i j : Nat) (h1 : i0 ≤ i) (h2 : j0 ≤ j) : (pend b i0 j0 i j).length ≤ (i - i0) + (j - j0) := by
  unfold pend
  split
  · simp; omega
  · simp
theorem LS.len {A B : List Nat} {SC l : List Pat} {i j : Nat} {op : Bool} (h : LS A B SC l i j op) : l.length ≤ i + j := by
  obtain ⟨lp, i0, j0, h1, h2, rfl, h4, h5, h6⟩ := h
  have := pend_len B i0 j0 i j h1 h2
  simp only [List.length_append]
  omega
theorem LS.pos {A B : List Nat} {SC l : List Pat} {i j : Nat} {op : Bool} (h : LS A B SC l i j op) : op = true → 0 < l.length := by
  obtain ⟨lp, i0, j0, h1, h2, rfl, h4, h5, h6⟩ := h
  intro ho
  have := h4.1 ho
  unfold pend
  rw [if_pos this]
  simp
theorem LS.same {A B : List Nat} {SC l : List Pat} {i j : Nat} {op : Bool} (h : LS A B SC l i j op) (hi : i < A.length) (hj : j < B.length) (he : A.getD i 0 = B.getD j 0) : LS A B SC l (i + 1) (j + 1) false := by
  have hl := h.len
  obtain ⟨lp, i0, j0, h1, h2, rfl, h4, h5, h6⟩ := h
  refine ⟨lp ++ pend B i0 j0 i j, i + 1, j + 1, by omega, by omega, by simp [pend], by simp, ?_, by omega⟩
  rw [h5, rest_same hi hj (by simpa [List.getD, hi, hj] using he), List.append_assoc]
theorem LS.fin {A B : List Nat} {SC l : List Pat} {i j : Nat} {op : Bool} (h : LS A B SC l i j op) (hi : i = A.length) (hj : j = B.length) : SC = l := by
  obtain ⟨lp, i0, j0, h1, h2, rfl, h4, h5, h6⟩ := h
  rw [h5, rest_end (by omega), hi, hj]
/-- What is open, or is opened. -/
theorem LS.opens {A B : List Nat} {SC l : List Pat} {i j : Nat} {op : Bool} (h : LS A B SC l i j op) (hi : i ≤ A.length) (hj : j ≤ B.length) :
    ∃ (l0 : List Pat) (p : Pat), opn l j op = l0 ++ [p] ∧ p.cnt ≤ i ∧ p.txt.size ≤ 4 * j ∧
      (i < A.length → (j < B.length → ¬ A.getD i 0 = B.getD j 0 ∧ lc A B i (j + 1) ≤ lc A B (i + 1) j) → LS A B SC (l0 ++ [⟨p.at', p.cnt + 1, p.txt⟩]) (i + 1) j true) ∧
      (j < B.length → (i < A.length → ¬ A.getD i 0 = B.getD j 0 ∧ ¬ lc A B i (j + 1) ≤ lc A B (i + 1) j) → LS A B SC (l0 ++ [⟨p.at', p.cnt, p.txt ++ Utf8.encode ((B.getD j 0 : Nat) : Int)⟩]) i (j + 1) true) := by
  obtain ⟨lp, i0, j0, h1, h2, rfl, h4, h5, h6⟩ := h
  have ho : opn (lp ++ pend B i0 j0 i j) j op = lp ++ [⟨j0, i - i0, txt (part B j0 j)⟩] := by
    unfold opn
    cases op with
    | true =>
      have := h4.1 rfl
      rw [if_pos rfl, pend, if_pos this]
    | false =>
      have hn : ¬ (i0 < i ∨ j0 < j) := fun c => by have := h4.2 c; cases this
      obtain rfl : i0 = i := by omega
      obtain rfl : j0 = j := by omega
      rw [if_neg (by simp), pend, if_neg hn, part_self, txt_nil, Nat.sub_self, List.append_nil]
      rfl
  have hps := (txt_size (part B j0 j)).2
  have hpl := part_len (b := B) (i := j0) (j := j) h2 hj
  refine ⟨lp, ⟨j0, i - i0, txt (part B j0 j)⟩, ho, by dsimp only; omega, by dsimp only; omega, ?_, ?_⟩
  · intro hia hc
    refine ⟨lp, i0, j0, by omega, h2, ?_, by simp; omega, ?_, h6⟩
    · rw [pend, if_pos (by omega)]
      have : i + 1 - i0 = i - i0 + 1 := by omega
      rw [this]
    · rw [h5]
      by_cases hjb : j < B.length
      · obtain ⟨c1, c2⟩ := hc hjb
        rw [rest_away hia hjb (by simpa [List.getD, hia, hjb] using c1) c2]
      · rw [rest_end (by omega), rest_end (by omega)]
  · intro hjb hc
    refine ⟨lp, i0, j0, h1, by omega, ?_, by simp; omega, ?_, h6⟩
    · rw [pend, if_pos (by omega), part_snoc h2 hjb, txt_snoc]
      simp [List.getD, hjb]
    · rw [h5]
      by_cases hia : i < A.length
      · obtain ⟨c1, c2⟩ := hc hia
        rw [rest_in hia hjb (by simpa [List.getD, hia, hjb] using c1) c2]
      · rw [rest_end (by omega), rest_end (by omega)]
end Go.Proofs.YtefoipjbbfcjhaaDoor
