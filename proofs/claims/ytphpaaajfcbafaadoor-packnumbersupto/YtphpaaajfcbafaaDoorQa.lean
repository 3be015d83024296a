import Derived.Test.YtphpaaajfcbafaaDoorYa
import Derived.Test.YtphpaaajfcbafaaDoorPa
namespace Go.Proofs.YtphpaaajfcbafaaDoor.K
open Go.RowKit
set_option linter.unusedVariables false
set_option linter.unusedSimpArgs false

def rU (L : List UInt8) (s : St) : Nat × St := rUint L 18446744073709551615 s
/-- Some numbers, one behind the other. -/
def rds (L : List UInt8) (s : St) : Nat → List Nat × St
  | 0 => ([], s)
  | j + 1 => ((rds L s j).1 ++ [(rU L (rds L s j).2).1], (rU L (rds L s j).2).2)
theorem rU_bad {L : List UInt8} {s : St} (h : s.bad ≠ 0) : rU L s = (0, s) := by unfold rU rUint; rw [if_neg h]
theorem rU_le {L : List UInt8} {s : St} (h : s.k ≤ L.length) : s.k ≤ (rU L s).2.k ∧ (rU L s).2.k ≤ L.length := by
  have hn := num_ok L s.k h
  unfold rU rUint
  split
  · split
    · rename_i hy
      have := hn.1 hy
      split
      · exact ⟨by show s.k ≤ s.k + _; omega, this.2.1⟩
      · exact ⟨Nat.le_refl _, h⟩
    · exact ⟨Nat.le_refl _, h⟩
  · exact ⟨Nat.le_refl _, h⟩
theorem rU_good {L : List UInt8} {s : St} (h : s.k ≤ L.length) (hb : (rU L s).2.bad = 0) : s.bad = 0 ∧ s.k < (rU L s).2.k := by
  by_cases h0 : s.bad = 0
  · refine ⟨h0, ?_⟩
    have hn := num_ok L s.k h
    unfold rU rUint at hb ⊢
    rw [if_pos h0] at hb ⊢
    by_cases hy : (num L s.k).why = 0
    · have := hn.1 hy
      rw [if_pos hy, if_pos (by omega)]
      show s.k < s.k + _
      omega
    · rw [if_neg hy] at hb
      exact absurd hb hy
  · rw [rU_bad h0] at hb
    exact absurd hb h0
theorem rU_lt (L : List UInt8) (s : St) (h : s.k ≤ L.length) : (rU L s).1 < 18446744073709551616 := rUint_lt L _ s h
theorem rds_len (L : List UInt8) (s : St) : ∀ j, (rds L s j).1.length = j
  | 0 => rfl
  | j + 1 => by
    have := rds_len L s j
    simp only [rds, List.length_append, List.length_cons, List.length_nil]
    omega
theorem rds_le {L : List UInt8} {s : St} (h : s.k ≤ L.length) : ∀ j, s.k ≤ (rds L s j).2.k ∧ (rds L s j).2.k ≤ L.length
  | 0 => ⟨Nat.le_refl _, h⟩
  | j + 1 => by
    have h1 := rds_le h j
    have h2 := rU_le (L := L) (s := (rds L s j).2) h1.2
    simp only [rds]
    omega
theorem rds_stay {L : List UInt8} {s : St} {j : Nat} (h : (rds L s j).2.bad ≠ 0) : ∀ d, (rds L s (j + d)).2 = (rds L s j).2
  | 0 => rfl
  | d + 1 => by
    have := rds_stay h d
    rw [show j + (d + 1) = (j + d) + 1 by omega]
    simp only [rds]
    rw [this, rU_bad h]
theorem rds_lt {L : List UInt8} {s : St} (h : s.k ≤ L.length) : ∀ j, ∀ x ∈ (rds L s j).1, x < 18446744073709551616
  | 0 => by simp [rds]
  | j + 1 => by
    intro x hx
    simp only [rds, List.mem_append, List.mem_singleton] at hx
    rcases hx with hx | rfl
    · exact rds_lt h j x hx
    · exact rU_lt L _ (rds_le h j).2
/-- The state behind a piece's number. -/
def pc2 (L : List UInt8) (s : St) : St := if (rInt L s).1 = 0 ∨ (rInt L s).1 = 1 then (rInt L s).2.fl 21 s.k else (rInt L s).2
def pcO (L : List UInt8) (left : Nat) (s : St) : Bool := decide ((left : Int) < (rInt L s).1 ∨ (rInt L s).1 < -(left : Int))
theorem pcO_iff {L : List UInt8} {left : Nat} {s : St} : pcO L left s = true ↔ ((left : Int) < (rInt L s).1 ∨ (rInt L s).1 < -(left : Int)) := by unfold pcO; exact decide_eq_true_iff
def pcS (L : List UInt8) (left : Nat) (s : St) : St :=
  if pcO L left s then (pc2 L s).fl 231 s.k else if 0 < (rInt L s).1 then (rU L (pc2 L s)).2 else (rds L (pc2 L s) (-(rInt L s).1).toNat).2
def pcL (L : List UInt8) (left : Nat) (s : St) : List Nat :=
  if pcO L left s then [] else if 0 < (rInt L s).1 then List.replicate (rInt L s).1.toNat (rU L (pc2 L s)).1 else (rds L (pc2 L s) (-(rInt L s).1).toNat).1
def pcR (L : List UInt8) (s : St) : Bool := decide (0 < (rInt L s).1)
theorem rInt_st (L : List UInt8) (s : St) : (rInt L s).2 = (rU L s).2 := rfl
theorem pc2_le {L : List UInt8} {s : St} (h : s.k ≤ L.length) : s.k ≤ (pc2 L s).k ∧ (pc2 L s).k ≤ L.length := by
  have h1 := rU_le (L := L) h
  unfold pc2
  split
  · rw [St.fl_k, rInt_st]; exact h1
  · rw [rInt_st]; exact h1
theorem fl_bad0 {s : St} {e p : Int} (he : e ≠ 0) : (s.fl e p).bad ≠ 0 := by
  unfold St.fl
  split
  · exact he
  · rename_i h; exact h
theorem pcS_le {L : List UInt8} {s : St} (left : Nat) (h : s.k ≤ L.length) : s.k ≤ (pcS L left s).k ∧ (pcS L left s).k ≤ L.length := by
  have h2 := pc2_le (L := L) h
  unfold pcS
  split
  · rw [St.fl_k]; exact h2
  · split
    · have := rU_le (L := L) h2.2; omega
    · have := rds_le (L := L) h2.2 (-(rInt L s).1).toNat; omega
/-- What a piece without a fault is. -/
theorem pc_good {L : List UInt8} {s : St} {left : Nat} (h : s.k ≤ L.length) (hb : (pcS L left s).bad = 0) :
    s.bad = 0 ∧ s.k < (pcS L left s).k ∧ pc2 L s = (rInt L s).2 ∧ (rInt L s).2.bad = 0 ∧ ((2 ≤ (rInt L s).1 ∧ (rInt L s).1 ≤ left) ∨ ((rInt L s).1 < 0 ∧ -(left : Int) ≤ (rInt L s).1)) := by
  have hO : ¬ pcO L left s = true := fun hO => by unfold pcS at hb; rw [if_pos hO] at hb; exact fl_bad0 (by decide) hb
  have h2 := pc2_le (L := L) h
  have hp2 : (pc2 L s).bad = 0 := by
    unfold pcS at hb
    rw [if_neg hO] at hb
    split at hb
    · exact (rU_good h2.2 hb).1
    · by_cases hx : (pc2 L s).bad = 0
      · exact hx
      · have := rds_stay (L := L) (s := pc2 L s) (j := 0) hx (-(rInt L s).1).toNat
        rw [Nat.zero_add] at this
        rw [this] at hb
        exact hb
  have h01 : ¬ ((rInt L s).1 = 0 ∨ (rInt L s).1 = 1) := fun hx => by
    unfold pc2 at hp2
    rw [if_pos hx] at hp2
    exact fl_bad0 (by decide) hp2
  have e2 : pc2 L s = (rInt L s).2 := by unfold pc2; rw [if_neg h01]
  rw [e2, rInt_st] at hp2
  have hg := rU_good h hp2
  have hk : s.k < (pcS L left s).k := by
    have hg2 := hg.2
    unfold pcS
    rw [if_neg hO]
    have e3 : (pc2 L s).k = (rU L s).2.k := by rw [e2, rInt_st]
    split
    · have := rU_le (L := L) h2.2; omega
    · have := rds_le (L := L) h2.2 (-(rInt L s).1).toNat; omega
  refine ⟨hg.1, hk, e2, by rw [rInt_st]; exact hp2, ?_⟩
  rw [pcO_iff] at hO
  by_cases hpos : 0 < (rInt L s).1
  · left; omega
  · right; omega
theorem pcL_len {L : List UInt8} {s : St} {left : Nat} (h : s.k ≤ L.length) (hb : (pcS L left s).bad = 0) : (pcL L left s).length = (rInt L s).1.natAbs ∧ 0 < (pcL L left s).length ∧ (pcL L left s).length ≤ left := by
  obtain ⟨_, _, _, _, hc⟩ := pc_good h hb
  have hO : ¬ pcO L left s = true := by rw [pcO_iff]; omega
  have : (pcL L left s).length = (rInt L s).1.natAbs := by
    unfold pcL
    rw [if_neg hO]
    split
    · rw [List.length_replicate]; omega
    · rw [rds_len]; omega
  rw [this]
  omega
theorem pcL_lt {L : List UInt8} {s : St} (left : Nat) (h : s.k ≤ L.length) : ∀ x ∈ pcL L left s, x < 18446744073709551616 := by
  have h2 := pc2_le (L := L) h
  intro x hx
  unfold pcL at hx
  split at hx
  · cases hx
  · split at hx
    · rw [List.mem_replicate] at hx
      rw [hx.2]
      exact rU_lt L _ h2.2
    · exact rds_lt h2.2 _ x hx
/-- Is this not what Runs writes there? -/
def nof (l p : List Nat) (run lr : Bool) : Bool := decide ((l ≠ [] ∧ (run = false ∧ lr = false ∨ p.getD 0 0 = l.getD (l.length - 1) 0)) ∨ (run = false ∧ ul p < p.length))
theorem nof_iff {l p : List Nat} {run lr : Bool} : nof l p run lr = true ↔ ((l ≠ [] ∧ (run = false ∧ lr = false ∨ p.getD 0 0 = l.getD (l.length - 1) 0)) ∨ (run = false ∧ ul p < p.length)) := by unfold nof; exact decide_eq_true_iff
/-- UnRuns' answer. -/
def un (L : List UInt8) (n : Nat) (s : St) (l : List Nat) (lr : Bool) : List Nat × Int × Int :=
  if h : s.k < L.length then
    if (pcS L (n - l.length) s).bad ≠ 0 then ([], (pcS L (n - l.length) s).bad, (pcS L (n - l.length) s).wh)
    else if nof l (pcL L (n - l.length) s) (pcR L s) lr then ([], 21, s.k)
    else if h2 : s.k < (pcS L (n - l.length) s).k then un L n (pcS L (n - l.length) s) (l ++ pcL L (n - l.length) s) (pcR L s)
    else ([], 0, 0)
  else if l.length < n then ([], 231, L.length) else (l, 0, 0)
termination_by L.length - s.k
decreasing_by omega
theorem un_fault {L : List UInt8} {n : Nat} {s : St} {l : List Nat} {lr : Bool} (h : s.k < L.length) (hb : (pcS L (n - l.length) s).bad ≠ 0) : un L n s l lr = ([], (pcS L (n - l.length) s).bad, (pcS L (n - l.length) s).wh) := by
  rw [un, dif_pos h, if_pos hb]
theorem un_form {L : List UInt8} {n : Nat} {s : St} {l : List Nat} {lr : Bool} (h : s.k < L.length) (hb : (pcS L (n - l.length) s).bad = 0) (hf : nof l (pcL L (n - l.length) s) (pcR L s) lr = true) : un L n s l lr = ([], 21, (s.k : Int)) := by
  rw [un, dif_pos h, if_neg (by simp [hb]), if_pos hf]
theorem un_step {L : List UInt8} {n : Nat} {s : St} {l : List Nat} {lr : Bool} (h : s.k < L.length) (hb : (pcS L (n - l.length) s).bad = 0) (hf : ¬ nof l (pcL L (n - l.length) s) (pcR L s) lr = true) : un L n s l lr = un L n (pcS L (n - l.length) s) (l ++ pcL L (n - l.length) s) (pcR L s) := by
  rw [un, dif_pos h, if_neg (by simp [hb]), if_neg hf, dif_pos (pc_good (Nat.le_of_lt h) hb).2.1]
theorem un_less {L : List UInt8} {n : Nat} {s : St} {l : List Nat} {lr : Bool} (h : ¬ s.k < L.length) (hl : l.length < n) : un L n s l lr = ([], 231, (L.length : Int)) := by
  rw [un, dif_neg h, if_pos hl]
theorem un_end {L : List UInt8} {n : Nat} {s : St} {l : List Nat} {lr : Bool} (h : ¬ s.k < L.length) (hl : ¬ l.length < n) : un L n s l lr = (l, 0, 0) := by
  rw [un, dif_neg h, if_neg hl]
end Go.Proofs.YtphpaaajfcbafaaDoor.K
