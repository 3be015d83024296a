import Derived.Test.YtefoipjbbfcjhaaDoorQRi
import Derived.Laws.Cover4
namespace Go.Proofs.YtefoipjbbfcjhaaDoor
open Go.RowKit
set_option linter.unusedVariables false
set_option linter.unusedSimpArgs false

/-- How long the longest row is that stands in both. -/
def lcs : List Nat → List Nat → Nat
  | [], _ => 0
  | _ :: _, [] => 0
  | x :: xs, y :: ys => if x = y then lcs xs ys + 1 else max (lcs xs (y :: ys)) (lcs (x :: xs) ys)
termination_by a b => a.length + b.length
theorem lcs_nil (b : List Nat) : lcs [] b = 0 := by unfold lcs; rfl
theorem lcs_nil2 (a : List Nat) : lcs a [] = 0 := by cases a <;> (unfold lcs; rfl)
theorem lcs_cons (x y : Nat) (xs ys : List Nat) : lcs (x :: xs) (y :: ys) = if x = y then lcs xs ys + 1 else max (lcs xs (y :: ys)) (lcs (x :: xs) ys) := by rw [lcs]
theorem lcs_le : ∀ (a b : List Nat), lcs a b ≤ a.length ∧ lcs a b ≤ b.length
  | [], b => by rw [lcs_nil]; omega
  | _ :: _, [] => by rw [lcs_nil2]; omega
  | x :: xs, y :: ys => by
    rw [lcs_cons]
    have h1 := lcs_le xs ys
    have h2 := lcs_le xs (y :: ys)
    have h3 := lcs_le (x :: xs) ys
    simp only [List.length_cons] at *
    split <;> omega
termination_by a b => a.length + b.length
/-- From two numbers on. -/
def lc (a b : List Nat) (i j : Nat) : Nat := lcs (a.drop i) (b.drop j)
theorem lc_end (a b : List Nat) (i j : Nat) (h : a.length ≤ i ∨ b.length ≤ j) : lc a b i j = 0 := by
  unfold lc
  rcases h with h | h
  · rw [List.drop_eq_nil_of_le h, lcs_nil]
  · rw [List.drop_eq_nil_of_le h, lcs_nil2]
theorem lc_same {a b : List Nat} {i j : Nat} (hi : i < a.length) (hj : j < b.length) (h : a[i] = b[j]) : lc a b i j = lc a b (i + 1) (j + 1) + 1 := by
  unfold lc
  rw [List.drop_eq_getElem_cons hi, List.drop_eq_getElem_cons hj, lcs_cons, if_pos h]
theorem lc_diff {a b : List Nat} {i j : Nat} (hi : i < a.length) (hj : j < b.length) (h : ¬ a[i] = b[j]) : lc a b i j = max (lc a b (i + 1) j) (lc a b i (j + 1)) := by
  unfold lc
  rw [List.drop_eq_getElem_cons hi, List.drop_eq_getElem_cons hj, lcs_cons, if_neg h]
theorem lc_le (a b : List Nat) (i j : Nat) : lc a b i j ≤ a.length := by
  have := (lcs_le (a.drop i) (b.drop j)).1
  unfold lc
  simp at this
  omega

/-- A patch: its number, how many go, what comes. -/
structure Pat where
  at' : Nat
  cnt : Nat
  txt : ByteArray
/-- The text of characters. -/
def txt (b : List Nat) : ByteArray := runesBytes (b.map fun n : Nat => (n : Int))
def part (b : List Nat) (i j : Nat) : List Nat := (b.drop i).take (j - i)
/-- What is done between what is kept up to (i0, j0) and (i, j). -/
def pend (b : List Nat) (i0 j0 i j : Nat) : List Pat := if i0 < i ∨ j0 < j then [⟨j0, i - i0, txt (part b j0 j)⟩] else []
def betw (b : List Nat) : List (Nat × Nat × Nat) → Nat → Nat → List Pat
  | [], _, _ => []
  | s :: K, i0, j0 => pend b i0 j0 s.1 s.2.1 ++ betw b K (s.1 + s.2.2) (s.2.1 + s.2.2)
def kept (a b : List Nat) : Nat → Nat → Nat → List (Nat × Nat × Nat)
  | 0, _, _ => []
  | f + 1, i, j =>
    if i < a.length ∧ j < b.length then
      (if a.getD i 0 = b.getD j 0 then (i, j, 1) :: kept a b f (i + 1) (j + 1)
       else if lc a b i (j + 1) ≤ lc a b (i + 1) j then kept a b f (i + 1) j
       else kept a b f i (j + 1))
    else []
/-- What comes yet. -/
def rest (a b : List Nat) (i j i0 j0 : Nat) : List Pat := betw b (kept a b (a.length + b.length - i - j) i j ++ [(a.length, b.length, 0)]) i0 j0
theorem kept_end {a b : List Nat} {f i j : Nat} (h : ¬ (i < a.length ∧ j < b.length)) : kept a b f i j = [] := by
  cases f with
  | zero => rfl
  | succ f => rw [kept, if_neg h]
theorem kept_same {a b : List Nat} {i j : Nat} (hi : i < a.length) (hj : j < b.length) (h : a[i] = b[j]) :
    kept a b (a.length + b.length - i - j) i j = (i, j, 1) :: kept a b (a.length + b.length - (i + 1) - (j + 1)) (i + 1) (j + 1) := by
  obtain ⟨f, hf⟩ : ∃ f, a.length + b.length - i - j = f + 2 := ⟨a.length + b.length - i - j - 2, by omega⟩
  have e2 : a.length + b.length - (i + 1) - (j + 1) = f := by omega
  rw [hf, e2, kept, if_pos ⟨hi, hj⟩, if_pos (by simp [List.getD, hi, hj, h])]
  -- one more than needed: the fuel plays no part
  have mono : ∀ (f i j : Nat), a.length + b.length - i - j ≤ f → kept a b (f + 1) i j = kept a b f i j := by
    intro f
    induction f with
    | zero => intro i j hh; rw [kept_end (by omega), kept_end (by omega)]
    | succ f ih =>
      intro i j hh
      by_cases hc : i < a.length ∧ j < b.length
      · rw [kept, if_pos hc]
        conv => rhs; rw [kept, if_pos hc]
        rw [ih (i + 1) (j + 1) (by omega), ih (i + 1) j (by omega), ih i (j + 1) (by omega)]
      · rw [kept_end hc, kept_end hc]
  rw [mono f (i + 1) (j + 1) (by omega)]
theorem kept_away {a b : List Nat} {i j : Nat} (hi : i < a.length) (hj : j < b.length) (h : ¬ a[i] = b[j]) (hl : lc a b i (j + 1) ≤ lc a b (i + 1) j) :
    kept a b (a.length + b.length - i - j) i j = kept a b (a.length + b.length - (i + 1) - j) (i + 1) j := by
  obtain ⟨f, hf⟩ : ∃ f, a.length + b.length - i - j = f + 1 := ⟨a.length + b.length - i - j - 1, by omega⟩
  have e2 : a.length + b.length - (i + 1) - j = f := by omega
  rw [hf, e2, kept, if_pos ⟨hi, hj⟩, if_neg (by simp [List.getD, hi, hj, h]), if_pos hl]
theorem kept_in {a b : List Nat} {i j : Nat} (hi : i < a.length) (hj : j < b.length) (h : ¬ a[i] = b[j]) (hl : ¬ lc a b i (j + 1) ≤ lc a b (i + 1) j) :
    kept a b (a.length + b.length - i - j) i j = kept a b (a.length + b.length - i - (j + 1)) i (j + 1) := by
  obtain ⟨f, hf⟩ : ∃ f, a.length + b.length - i - j = f + 1 := ⟨a.length + b.length - i - j - 1, by omega⟩
  have e2 : a.length + b.length - i - (j + 1) = f := by omega
  rw [hf, e2, kept, if_pos ⟨hi, hj⟩, if_neg (by simp [List.getD, hi, hj, h]), if_neg hl]
theorem rest_same {a b : List Nat} {i j i0 j0 : Nat} (hi : i < a.length) (hj : j < b.length) (h : a[i] = b[j]) : rest a b i j i0 j0 = pend b i0 j0 i j ++ rest a b (i + 1) (j + 1) (i + 1) (j + 1) := by
  unfold rest
  rw [kept_same hi hj h]
  rfl
theorem rest_away {a b : List Nat} {i j i0 j0 : Nat} (hi : i < a.length) (hj : j < b.length) (h : ¬ a[i] = b[j]) (hl : lc a b i (j + 1) ≤ lc a b (i + 1) j) : rest a b i j i0 j0 = rest a b (i + 1) j i0 j0 := by
  unfold rest
  rw [kept_away hi hj h hl]
theorem rest_in {a b : List Nat} {i j i0 j0 : Nat} (hi : i < a.length) (hj : j < b.length) (h : ¬ a[i] = b[j]) (hl : ¬ lc a b i (j + 1) ≤ lc a b (i + 1) j) : rest a b i j i0 j0 = rest a b i (j + 1) i0 j0 := by
  unfold rest
  rw [kept_in hi hj h hl]
theorem rest_end {a b : List Nat} {i j i0 j0 : Nat} (h : ¬ (i < a.length ∧ j < b.length)) : rest a b i j i0 j0 = pend b i0 j0 a.length b.length := by
  unfold rest
  rw [kept_end h]
  simp [betw]
theorem txt_snoc (b : List Nat) (n : Nat) : txt (b ++ [n]) = txt b ++ Utf8.encode (n : Int) := by
  unfold txt runesBytes
  rw [List.map_append, List.foldl_append]
  rfl
theorem txt_nil : txt [] = ByteArray.empty := rfl
theorem part_self (b : List Nat) (i : Nat) : part b i i = [] := by simp [part]
theorem part_snoc {b : List Nat} {i j : Nat} (hij : i ≤ j) (hj : j < b.length) : part b i (j + 1) = part b i j ++ [b[j]] := by
  unfold part
  have e : j + 1 - i = (j - i) + 1 := by omega
  rw [e, List.take_add_one, List.getElem?_drop]
  have e2 : i + (j - i) = j := by omega
  rw [e2, List.getElem?_eq_getElem hj]
  rfl
theorem part_len {b : List Nat} {i j : Nat} (hij : i ≤ j) (hj : j ≤ b.length) : (part b i j).length = j - i := by
  unfold part
  simp
  omega
theorem encode_size (n : Int) : 1 ≤ (Utf8.encode n).size ∧ (Utf8.encode n).size ≤ 4 := by
  unfold Utf8.encode
  dsimp only
  repeat' split
  all_goals (simp [ByteArray.size])
theorem txt_size' : ∀ (n : Nat) (b : List Nat), b.length = n → b.length ≤ (txt b).size ∧ (txt b).size ≤ 4 * b.length
  | 0, b, h => by
    obtain rfl := List.eq_nil_of_length_eq_zero h
    simp [txt_nil]
  | n + 1, b, h => by
    have hne : b ≠ [] := fun e => by rw [e] at h; cases h
    obtain ⟨c, x, rfl⟩ : ∃ c x, b = c ++ [x] := ⟨b.dropLast, b.getLast hne, (List.dropLast_concat_getLast hne).symm⟩
    have ih := txt_size' n c (by simpa using h)
    rw [txt_snoc]
    have := encode_size (x : Int)
    simp only [ByteArray.size_append, List.length_append, List.length_cons, List.length_nil]
    omega
theorem txt_size (b : List Nat) : b.length ≤ (txt b).size ∧ (txt b).size ≤ 4 * b.length := txt_size' _ b rfl
end Go.Proofs.YtefoipjbbfcjhaaDoor
