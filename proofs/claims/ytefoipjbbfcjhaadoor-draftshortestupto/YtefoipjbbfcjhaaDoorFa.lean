import Derived.Test.YtefoipjbbfcjhaaDoorDb
namespace Go.Proofs.YtefoipjbbfcjhaaDoor
open Go.RowKit
set_option linter.unusedVariables false
set_option linter.unusedSimpArgs false

theorem lcs_up : ∀ (a b c : List Nat), c.Sublist a → c.Sublist b → c.length ≤ lcs a b
  | [], b, c, h1, h2 => by
    have := List.sublist_nil.1 h1
    subst this
    simp
  | x :: xs, [], c, h1, h2 => by
    have := List.sublist_nil.1 h2
    subst this
    simp
  | x :: xs, y :: ys, c, h1, h2 => by
    rw [lcs_cons]
    have sub : ∀ (z : Nat) (d : List Nat), d.Sublist (z :: d) := fun z d => List.sublist_cons_self z d
    split
    · next he =>
      rcases List.sublist_cons_iff.1 h1 with h3 | ⟨c1, rfl, h3⟩
      · rcases List.sublist_cons_iff.1 h2 with h4 | ⟨c2, rfl, h4⟩
        · have := lcs_up xs ys c h3 h4
          omega
        · have := lcs_up xs ys c2 ((sub _ _).trans h3) h4
          simp only [List.length_cons]
          omega
      · rcases List.sublist_cons_iff.1 h2 with h4 | ⟨c2, e, h4⟩
        · have := lcs_up xs ys c1 h3 ((sub _ _).trans h4)
          simp only [List.length_cons]
          omega
        · cases e
          have := lcs_up xs ys c1 h3 h4
          simp only [List.length_cons]
          omega
    · next hne =>
      rcases List.sublist_cons_iff.1 h1 with h3 | ⟨c1, rfl, h3⟩
      · have := lcs_up xs (y :: ys) c h3 h2
        omega
      · rcases List.sublist_cons_iff.1 h2 with h4 | ⟨c2, e, h4⟩
        · have := lcs_up (x :: xs) ys (x :: c1) h1 h4
          omega
        · cases e
          exact absurd rfl hne
termination_by a b => a.length + b.length
theorem lcs_ex : ∀ (a b : List Nat), ∃ c : List Nat, c.Sublist a ∧ c.Sublist b ∧ c.length = lcs a b
  | [], b => ⟨[], by simp, by simp, by rw [lcs_nil]; rfl⟩
  | x :: xs, [] => ⟨[], by simp, by simp, by rw [lcs_nil2]; rfl⟩
  | x :: xs, y :: ys => by
    rw [lcs_cons]
    split
    · next he =>
      subst he
      obtain ⟨c, h1, h2, h3⟩ := lcs_ex xs ys
      exact ⟨x :: c, h1.cons_cons x, h2.cons_cons x, by simp [h3]⟩
    · obtain ⟨c, h1, h2, h3⟩ := lcs_ex xs (y :: ys)
      obtain ⟨d, g1, g2, g3⟩ := lcs_ex (x :: xs) ys
      by_cases hm : lcs xs (y :: ys) ≤ lcs (x :: xs) ys
      · exact ⟨d, g1, g2.cons y, by omega⟩
      · exact ⟨c, h1.cons x, h2, by omega⟩
termination_by a b => a.length + b.length
theorem lcs_rev (a b : List Nat) : lcs a.reverse b.reverse = lcs a b := by
  obtain ⟨c, h1, h2, h3⟩ := lcs_ex a b
  obtain ⟨d, g1, g2, g3⟩ := lcs_ex a.reverse b.reverse
  have u1 := lcs_up a.reverse b.reverse c.reverse h1.reverse h2.reverse
  have u2 := lcs_up a b d.reverse (by simpa using g1.reverse) (by simpa using g2.reverse)
  simp only [List.length_reverse] at u1 u2
  omega
theorem lcs_snoc (a b : List Nat) (x y : Nat) : lcs (a ++ [x]) (b ++ [y]) = if x = y then lcs a b + 1 else max (lcs a (b ++ [y])) (lcs (a ++ [x]) b) := by
  rw [← lcs_rev (a ++ [x]), List.reverse_append, List.reverse_append, List.reverse_singleton, List.reverse_singleton, List.singleton_append, List.singleton_append, lcs_cons, lcs_rev a b]
  have e1 := lcs_rev a (b ++ [y])
  have e2 := lcs_rev (a ++ [x]) b
  rw [List.reverse_append, List.reverse_singleton, List.singleton_append] at e1 e2
  rw [e1, e2]
/-- Up to two numbers. -/
def lp (a b : List Nat) (i j : Nat) : Nat := lcs (a.take i) (b.take j)
theorem lp_same {a b : List Nat} {i j : Nat} (hi : i < a.length) (hj : j < b.length) (h : a.getD i 0 = b.getD j 0) : lp a b (i + 1) (j + 1) = lp a b i j + 1 := by
  unfold lp
  rw [List.take_add_one, List.take_add_one, List.getElem?_eq_getElem hi, List.getElem?_eq_getElem hj]
  simp only [Option.toList]
  rw [lcs_snoc, if_pos (by simpa [List.getD, hi, hj] using h)]
theorem lp_diff {a b : List Nat} {i j : Nat} (hi : i < a.length) (hj : j < b.length) (h : ¬ a.getD i 0 = b.getD j 0) : lp a b (i + 1) (j + 1) = max (lp a b i (j + 1)) (lp a b (i + 1) j) := by
  unfold lp
  rw [List.take_add_one, List.take_add_one, List.getElem?_eq_getElem hi, List.getElem?_eq_getElem hj]
  simp only [Option.toList]
  rw [lcs_snoc, if_neg (by simpa [List.getD, hi, hj] using h)]
theorem lp_zero (a b : List Nat) (j : Nat) : lp a b 0 j = 0 := by unfold lp; rw [List.take_zero, lcs_nil]
theorem lp_zero2 (a b : List Nat) (i : Nat) : lp a b i 0 = 0 := by unfold lp; rw [List.take_zero, lcs_nil2]
theorem lp_le (a b : List Nat) (i j : Nat) : lp a b i j ≤ a.length := by
  have := (lcs_le (a.take i) (b.take j)).1
  unfold lp
  simp at this
  omega
theorem lp_all (a b : List Nat) : lp a b a.length b.length = lcs a b := by unfold lp; simp
/-- Stretches that fit both. -/
def GK (A B : List Nat) : List (Nat × Nat × Nat) → Nat → Nat → Prop
  | [], i0, j0 => i0 = A.length ∧ j0 = B.length
  | s :: K, i0, j0 => i0 ≤ s.1 ∧ j0 ≤ s.2.1 ∧ s.1 + s.2.2 ≤ A.length ∧ s.2.1 + s.2.2 ≤ B.length ∧ (∀ x, x < s.2.2 → A.getD (s.1 + x) 0 = B.getD (s.2.1 + x) 0) ∧ GK A B K (s.1 + s.2.2) (s.2.1 + s.2.2)
def sumN : List (Nat × Nat × Nat) → Nat
  | [] => 0
  | s :: K => s.2.2 + sumN K
theorem glue {A B : List Nat} : ∀ (n i j : Nat), i + n ≤ A.length → j + n ≤ B.length → (∀ x, x < n → A.getD (i + x) 0 = B.getD (j + x) 0) → B.take (j + n) ++ A.drop (i + n) = B.take j ++ A.drop i
  | 0, i, j, _, _, _ => rfl
  | n + 1, i, j, h1, h2, h => by
    have hi : i + n < A.length := by omega
    have hj : j + n < B.length := by omega
    have e := h n (by omega)
    simp only [List.getD, List.getElem?_eq_getElem hi, List.getElem?_eq_getElem hj, Option.getD] at e
    rw [← glue n i j (by omega) (by omega) (fun x hx => h x (by omega)), ← Nat.add_assoc, ← Nat.add_assoc, List.take_add_one, List.getElem?_eq_getElem hj, List.drop_eq_getElem_cons hi, e]
    simp only [Option.toList, List.append_assoc, List.singleton_append]
/-- How far the law's own doing is. -/
def DS (A B : List Nat) (tot : Nat) (R : List Pat) (now : List Nat) (cost last : Nat) : Prop :=
  ∃ (K : List (Nat × Nat × Nat)) (i0 j0 kp : Nat), GK A B K i0 j0 ∧ R = betw B K i0 j0 ∧ now = B.take j0 ++ A.drop i0 ∧ cost + 2 * kp = i0 + j0 ∧ last ≤ j0 ∧ j0 ≤ B.length ∧ i0 ≤ A.length ∧ kp + sumN K = tot
theorem DS.next {A B : List Nat} {tot : Nat} : ∀ (K : List (Nat × Nat × Nat)) (i0 j0 kp cost last : Nat) (now : List Nat), GK A B K i0 j0 → now = B.take j0 ++ A.drop i0 → cost + 2 * kp = i0 + j0 → last ≤ j0 → j0 ≤ B.length → i0 ≤ A.length → kp + sumN K = tot →
    (betw B K i0 j0 = [] → now = B ∧ cost + 2 * tot = A.length + B.length) ∧
    (∀ p R', betw B K i0 j0 = p :: R' → ∃ m : List Nat, p.txt = txt m ∧ (∀ n ∈ m, n ∈ B) ∧ last ≤ p.at' ∧ p.at' + p.cnt ≤ now.length ∧ 0 < p.cnt + m.length ∧ now.length - p.cnt + m.length ≤ A.length + B.length ∧ p.cnt ≤ A.length ∧ m.length ≤ B.length ∧ p.at' ≤ B.length ∧ DS A B tot R' (now.take p.at' ++ m ++ now.drop (p.at' + p.cnt)) (cost + (p.cnt + m.length)) (p.at' + m.length))
  | [], i0, j0, kp, cost, last, now, ⟨e1, e2⟩, hn, hc, hl, hj, hi, ht => by
    subst e1 e2
    refine ⟨fun _ => ⟨by rw [hn]; simp, ?_⟩, fun p R' h => by cases h⟩
    simp [sumN] at ht
    omega
  | (si, sj, sn) :: K, i0, j0, kp, cost, last, now, ⟨h1, h2, h3, h4, h5, h6⟩, hn, hc, hl, hj, hi, ht => by
    dsimp only at h1 h2 h3 h4 h5 h6
    show (pend B i0 j0 si sj ++ betw B K (si + sn) (sj + sn) = [] → _) ∧ (∀ p R', pend B i0 j0 si sj ++ betw B K (si + sn) (sj + sn) = p :: R' → _)
    have hg := glue sn si sj h3 h4 h5
    simp only [sumN] at ht
    by_cases hp : i0 < si ∨ j0 < sj
    · have hpe : pend B i0 j0 si sj = [⟨j0, si - i0, txt (part B j0 sj)⟩] := by rw [pend, if_pos hp]
      rw [hpe]
      refine ⟨fun h => by simp at h, ?_⟩
      intro p R' h
      rw [List.singleton_append, List.cons.injEq] at h
      obtain ⟨rfl, rfl⟩ := h
      have pl := part_len (b := B) (i := j0) (j := sj) h2 (by omega)
      have hlen : now.length = j0 + (A.length - i0) := by rw [hn]; simp; omega
      refine ⟨part B j0 sj, rfl, fun n hm => List.mem_of_mem_drop (List.mem_of_mem_take hm), hl, ?_, ?_, ?_, ?_, ?_, ?_, ?_⟩
      · show j0 + (si - i0) ≤ now.length
        omega
      · show 0 < si - i0 + (part B j0 sj).length
        omega
      · show now.length - (si - i0) + (part B j0 sj).length ≤ A.length + B.length
        omega
      · show si - i0 ≤ A.length
        omega
      · omega
      · exact hj
      show DS A B tot (betw B K (si + sn) (sj + sn)) (now.take j0 ++ part B j0 sj ++ now.drop (j0 + (si - i0))) (cost + (si - i0 + (part B j0 sj).length)) (j0 + (part B j0 sj).length)
      refine ⟨K, si + sn, sj + sn, kp + sn, h6, rfl, ?_, by omega, by omega, by omega, by omega, by omega⟩
      rw [hg]
      have t1 : now.take j0 = B.take j0 := by rw [hn, List.take_append_of_le_length (by simp; omega), List.take_take, Nat.min_self]
      have t2 : now.drop (j0 + (si - i0)) = A.drop si := by
        rw [hn, List.drop_append, List.drop_drop]
        have e1 : (B.take j0).length = j0 := by simp; omega
        rw [List.drop_eq_nil_of_le (by omega), e1, List.nil_append]
        congr 1
        omega
      rw [t1, t2]
      congr 1
      unfold part
      have e3 : sj = j0 + (sj - j0) := by omega
      conv => rhs; rw [e3]
      rw [List.take_add]
    · obtain rfl : i0 = si := by omega
      obtain rfl : j0 = sj := by omega
      have hpe : pend B i0 j0 i0 j0 = [] := by rw [pend, if_neg hp]
      rw [hpe, List.nil_append]
      exact DS.next K (i0 + sn) (j0 + sn) (kp + sn) cost last now h6 (by rw [hg]; exact hn) (by omega) (by omega) (by omega) (by omega) (by omega)
theorem gk_kept (A B : List Nat) : ∀ (f i j i0 j0 : Nat), A.length + B.length - i - j ≤ f → i ≤ A.length → j ≤ B.length → i0 ≤ i → j0 ≤ j → GK A B (kept A B f i j ++ [(A.length, B.length, 0)]) i0 j0 ∧ sumN (kept A B f i j ++ [(A.length, B.length, 0)]) = lc A B i j
  | 0, i, j, i0, j0, hf, h1, h2, h3, h4 => by
    refine ⟨⟨by dsimp only; omega, by dsimp only; omega, by dsimp only; omega, by dsimp only; omega, fun x hx => by simp at hx, by simp, by simp⟩, ?_⟩
    rw [lc_end _ _ _ _ (by omega)]
    rfl
  | f + 1, i, j, i0, j0, hf, h1, h2, h3, h4 => by
    by_cases hc : i < A.length ∧ j < B.length
    · obtain ⟨ha, hb⟩ := hc
      rw [kept, if_pos ⟨ha, hb⟩]
      split
      · next he =>
        obtain ⟨g, gs⟩ := gk_kept A B f (i + 1) (j + 1) (i + 1) (j + 1) (by omega) (by omega) (by omega) (Nat.le_refl _) (Nat.le_refl _)
        refine ⟨⟨h3, h4, by dsimp only; omega, by dsimp only; omega, fun x hx => ?_, g⟩, ?_⟩
        · dsimp only at hx ⊢
          obtain rfl : x = 0 := by omega
          exact he
        · show 1 + sumN (kept A B f (i + 1) (j + 1) ++ [(A.length, B.length, 0)]) = _
          rw [gs, lc_same ha hb (by simpa [List.getD, ha, hb] using he)]
          omega
      · next he =>
        have hd := lc_diff ha hb (by simpa [List.getD, ha, hb] using he)
        split
        · next hl =>
          obtain ⟨g, gs⟩ := gk_kept A B f (i + 1) j i0 j0 (by omega) (by omega) (by omega) (by omega) (by omega)
          exact ⟨g, by rw [gs]; omega⟩
        · next hl =>
          obtain ⟨g, gs⟩ := gk_kept A B f i (j + 1) i0 j0 (by omega) (by omega) (by omega) (by omega) (by omega)
          exact ⟨g, by rw [gs]; omega⟩
    · rw [kept_end hc]
      refine ⟨⟨by dsimp only; omega, by dsimp only; omega, by dsimp only; omega, by dsimp only; omega, fun x hx => by simp at hx, by simp, by simp⟩, ?_⟩
      rw [lc_end _ _ _ _ (by omega)]
      rfl
end Go.Proofs.YtefoipjbbfcjhaaDoor
