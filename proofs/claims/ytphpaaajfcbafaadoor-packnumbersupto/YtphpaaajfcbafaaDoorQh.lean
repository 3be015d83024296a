import Derived.Test.YtphpaaajfcbafaaDoorQg
namespace Go.Proofs.YtphpaaajfcbafaaDoor.K
open Go.RowKit
set_option linter.unusedVariables false
set_option linter.unusedSimpArgs false

/-- A stretch. -/
structure Sr where
  row : Bool
  cnt : Nat
  a : Option Addr
  cap : Nat
  X : List Nat
def Sr.cells (z : Sr) : List Value := [.bool z.row, .int .i64 (z.cnt : Int), .slice z.a z.X.length z.cap]
def Sr.fl (z : Sr) : List Nat := if z.row = true then z.X else List.replicate z.cnt (z.X.getD 0 0)
def flat (Z : List Sr) : List Nat := (Z.map Sr.fl).flatten
def cellsS (Z : List Sr) : List Value := (Z.map Sr.cells).flatten
theorem flat_app (a b : List Sr) : flat (a ++ b) = flat a ++ flat b := by simp [flat]
theorem flat_one (z : Sr) : flat [z] = z.fl := by simp [flat]
theorem cellsS_app (a b : List Sr) : cellsS (a ++ b) = cellsS a ++ cellsS b := by simp [cellsS]
theorem cellsS_one (z : Sr) : cellsS [z] = z.cells := by simp [cellsS]
theorem cellsS_len : ∀ Z : List Sr, (cellsS Z).length = Z.length * 3
  | [] => rfl
  | z :: t => by
    rw [show z :: t = [z] ++ t from rfl, cellsS_app, cellsS_one, List.length_append, cellsS_len t]
    simp [Sr.cells]
    omega
theorem cellsS_oc : ∀ Z : List Sr, ∀ u ∈ cellsS Z, u.oneCell' = true
  | [], u, h => by simp [cellsS] at h
  | z :: t, u, h => by
    rw [show z :: t = [z] ++ t from rfl, cellsS_app, cellsS_one, List.mem_append] at h
    rcases h with h | h
    · simp [Sr.cells] at h
      rcases h with rfl | rfl | rfl <;> rfl
    · exact cellsS_oc t u h
theorem cellsS_at (Z : List Sr) (k : Nat) (z : Sr) (h : Z[k]? = some z) (i : Nat) (hi : i < 3) : (cellsS Z)[3 * k + i]? = z.cells[i]? := by
  have hk := (List.getElem?_eq_some_iff.1 h).1
  have e : Z = Z.take k ++ ([z] ++ Z.drop (k + 1)) := by
    conv => lhs; rw [← List.take_append_drop k Z]
    congr 1
    rw [List.drop_eq_getElem_cons hk]
    congr 1
    exact (List.getElem?_eq_some_iff.1 h).2
  have hl : (cellsS (Z.take k)).length = 3 * k := by rw [cellsS_len, List.length_take]; omega
  conv => lhs; rw [e]
  rw [cellsS_app, List.getElem?_append_right (by omega), hl, show 3 * k + i - 3 * k = i by omega, cellsS_app, cellsS_one, List.getElem?_append_left (by simp [Sr.cells]; omega)]
/-- The row of stretches that a call has. -/
def OwnS (w : World) (base : Nat) (v : Value) (Z : List Sr) : Prop := w.ownsRow base 71 3 v Z.length (cellsS Z)
theorem OwnS.below {w w' : World} {base : Nat} {v : Value} {X : List Sr} (h : OwnS w base v X) (hb : Below w.heap.size w w') : OwnS w' base v X := by
  refine ⟨h.1, ?_⟩
  rcases h.2 with hn | ⟨g, cap, cur, rfl, hbg, hg, rest⟩
  · exact .inl hn
  · exact .inr ⟨g, cap, cur, rfl, hbg, by rw [hb.block g (Array.getElem?_eq_some_iff.1 hg).1]; exact hg, rest⟩
theorem OwnS.fr {w w' : World} {base : Nat} {v : Value} {X : List Sr} (h : OwnS w base v X) {q : Nat} (hf : Fr q w w') (hq : v.ownBlock ≠ some q) : OwnS w' base v X := by
  refine ⟨h.1, ?_⟩
  rcases h.2 with hn | ⟨g, cap, cur, rfl, hbg, hg, rest⟩
  · exact .inl hn
  · exact .inr ⟨g, cap, cur, rfl, hbg, by rw [hf.block g (Array.getElem?_eq_some_iff.1 hg).1 (by intro e; apply hq; simp [Value.ownBlock, e])]; exact hg, rest⟩
theorem OwnS.open {w : World} {base : Nat} {v : Value} {Z : List Sr} (h : OwnS w base v Z) : ∃ a cap, v = .slice a Z.length cap ∧ (∀ k z, Z[k]? = some z → ∃ g, a = some ⟨g, 0, none⟩ ∧ v.ownBlock = some g ∧ ∀ i, i < 3 → w.cell? ⟨g, 3 * k + i, none⟩ = z.cells[i]?) := by
  rcases h.2 with ⟨rfl, hn⟩ | ⟨g, cap, cur, rfl, hbg, hg, hnc, hcm, hcs, htake⟩
  · obtain rfl : Z = [] := List.eq_nil_of_length_eq_zero hn
    exact ⟨none, 0, rfl, fun k z hz => by simp at hz⟩
  · refine ⟨some ⟨g, 0, none⟩, cap, rfl, fun k z hz => ⟨g, rfl, rfl, fun i hi => ?_⟩⟩
    have hk := (List.getElem?_eq_some_iff.1 hz).1
    have h1 := cellsS_at Z k z hz i hi
    rw [← h1, cell_of_row w g _ cur 71 (0, 0) hg, ← htake, List.getElem?_take, if_pos (by omega)]
    simp
/-- What is known of the one that stands last. -/
def LP (l : List Nat) (lr : Bool) (prev : Option (Bool × Nat)) : Prop := (l = [] ∧ prev = none) ∨ (l ≠ [] ∧ prev = some (!lr, l.getD (l.length - 1) 0))
theorem getD_app_last (l p : List Nat) (h : 0 < p.length) : (l ++ p).getD ((l ++ p).length - 1) 0 = p.getD (p.length - 1) 0 := by
  simp only [List.getD_eq_getElem?_getD, List.length_append]
  rw [List.getElem?_append_right (by omega)]
  congr 2
  omega
variable {L : List UInt8} {s : St}
/-- The stretch of a good piece. -/
theorem piece_of {most : Nat} {cnt : Int} {X : List Nat} {row : Bool} (hk : s.k ≤ L.length) (hb : (pcS L most s).bad = 0) (h1 : row = (!pcR L s)) (h2 : cnt = ((rInt L s).1.natAbs : Int)) (h3 : X = (if pcR L s = true then [(rU L (rInt L s).2).1] else pcL L most s)) :
    (if row = true then X else List.replicate (rInt L s).1.natAbs (X.getD 0 0)) = pcL L most s ∧ X.getD 0 0 = (pcL L most s).getD 0 0 ∧ X.getD (X.length - 1) 0 = (pcL L most s).getD ((pcL L most s).length - 1) 0 ∧ 0 < X.length ∧ X.length ≤ most ∧ (row = true → X = pcL L most s) := by
  have hl := pcL_len hk hb
  obtain ⟨_, _, e2, _, hr⟩ := pc_good hk hb
  by_cases hR : pcR L s = true
  · have hpos : 0 < (rInt L s).1 := by unfold pcR at hR; simpa using hR
    rw [if_pos hR] at h3
    rw [hR] at h1
    subst h1 h3
    have hO : ¬ pcO L most s = true := by rw [pcO_iff]; omega
    have hp : pcL L most s = List.replicate (rInt L s).1.toNat (rU L (rInt L s).2).1 := by
      unfold pcL
      rw [if_neg hO, if_pos hpos, e2]
    have hn : (rInt L s).1.natAbs = (rInt L s).1.toNat := by omega
    have hm : 2 ≤ (rInt L s).1.toNat := by omega
    have hm2 : (rInt L s).1.toNat ≤ most := by omega
    rw [hp, hn]
    generalize (rInt L s).1.toNat = m at *
    refine ⟨by simp, ?_, ?_, by simp, by simp; omega, by simp⟩
    · simp [List.getElem?_replicate, show 0 < m by omega]
    · simp [List.getElem?_replicate, show m - 1 < m by omega]
  · rw [if_neg hR] at h3
    have hR2 : pcR L s = false := by simpa using hR
    rw [hR2] at h1
    subst h1 h3
    exact ⟨by simp, rfl, rfl, hl.2.1, hl.2.2, fun _ => rfl⟩
theorem fits_nof {most : Nat} {X l : List Nat} {row lr : Bool} {prev : Option (Bool × Nat)} (hP : LP l lr prev) (h1 : row = (!pcR L s)) (hx : X.getD 0 0 = (pcL L most s).getD 0 0) (hrow : row = true → X = pcL L most s) :
    fitsB row X prev = !nof l (pcL L most s) (pcR L s) lr := by
  have hn : nof l (pcL L most s) (pcR L s) lr = decide ((l ≠ [] ∧ (pcR L s = false ∧ lr = false ∨ (pcL L most s).getD 0 0 = l.getD (l.length - 1) 0)) ∨ (pcR L s = false ∧ ul (pcL L most s) < (pcL L most s).length)) := rfl
  rw [hn]
  unfold fitsB
  rw [hx]
  cases hR : pcR L s
  · rw [hR] at h1
    simp only [Bool.not_false] at h1
    subst h1
    rw [hrow rfl]
    by_cases hu : ul (pcL L most s) < (pcL L most s).length
    · rw [if_pos ⟨rfl, hu⟩]
      simp [hu]
    · rw [if_neg (by simp; omega)]
      rcases hP with ⟨rfl, rfl⟩ | ⟨hl, rfl⟩
      · simp [hu]
      · cases lr <;> simp [hl, hu]
  · rw [hR] at h1
    simp only [Bool.not_true] at h1
    subst h1
    rw [if_neg (by simp)]
    rcases hP with ⟨rfl, rfl⟩ | ⟨hl, rfl⟩
    · simp
    · simp [hl]
end Go.Proofs.YtphpaaajfcbafaaDoor.K
