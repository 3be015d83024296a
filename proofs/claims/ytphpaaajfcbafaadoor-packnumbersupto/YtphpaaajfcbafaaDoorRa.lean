import Derived.Test.YtphpaaajfcbafaaDoorQm
namespace Go.Proofs.YtphpaaajfcbafaaDoor.K
open Go.RowKit
set_option linter.unusedVariables false
set_option linter.unusedSimpArgs false

theorem al_take : ∀ R : List Nat, R.take (al R) = List.replicate (al R) (R.getD 0 0)
  | [] => by simp [al]
  | [x] => by simp [al]
  | x :: y :: t => by
    have ih := al_take (y :: t)
    unfold al
    split
    · rename_i h
      subst h
      rw [List.take_succ_cons, ih, List.replicate_succ]
      simp
    · simp
theorem al_next : ∀ R : List Nat, al R < R.length → R.getD (al R) 0 ≠ R.getD 0 0
  | [], h => by simp at h
  | [x], h => by simp [al] at h
  | x :: y :: t, h => by
    have ih := al_next (y :: t)
    unfold al at h ⊢
    split
    · rename_i e
      subst e
      rw [if_pos rfl] at h
      simp only [List.length_cons] at h ih
      have := ih (by omega)
      simpa using this
    · rename_i e
      simp
      exact fun h => e h.symm
theorem ul_take : ∀ R : List Nat, ul (R.take (ul R)) = ul R
  | [] => by simp [ul]
  | [x] => by simp [ul]
  | x :: y :: t => by
    have ih := ul_take (y :: t)
    by_cases e : x = y
    · have : ul (x :: y :: t) = 0 := by rw [ul, if_pos e]
      rw [this]; simp [ul]
    · have hu : ul (x :: y :: t) = ul (y :: t) + 1 := by rw [ul, if_neg e]
      rw [hu, List.take_succ_cons]
      cases hm : ul (y :: t) with
      | zero => simp [ul]
      | succ m =>
        rw [hm] at ih
        rw [List.take_succ_cons] at ih ⊢
        rw [ul, if_neg e, ih]
theorem ul_next : ∀ R : List Nat, 0 < ul R → ul R < R.length → R.getD (ul R) 0 ≠ R.getD (ul R - 1) 0
  | [], h, _ => by simp [ul] at h
  | [x], _, h => by simp [ul] at h
  | x :: y :: t, h, h2 => by
    have ih := ul_next (y :: t)
    by_cases e : x = y
    · rw [ul, if_pos e] at h; omega
    · have hu : ul (x :: y :: t) = ul (y :: t) + 1 := by rw [ul, if_neg e]
      rw [hu] at h2 ⊢
      cases hm : ul (y :: t) with
      | zero => simp; exact fun h => e h.symm
      | succ m =>
        rw [hm] at ih h2
        have := ih (by omega) (by simp only [List.length_cons] at h2 ⊢; omega)
        simpa using this
theorem unzig_zig (n : Int) : unzig (zig n) = n := by
  unfold zig unzig
  split
  · rw [if_pos (by omega)]; omega
  · rw [if_neg (by omega)]; omega
theorem rU_at (pre rest : List UInt8) (u : Nat) (hu : u < 18446744073709551616) : rU (pre ++ (vint u ++ rest)) ⟨pre.length, 0, 0⟩ = (u, ⟨(pre ++ vint u).length, 0, 0⟩) := by
  have hc : cut (pre ++ (vint u ++ rest)) pre.length (vint u).length = vint u := by unfold cut; simp
  unfold rU rUint
  rw [if_pos rfl, num_at u hu hc, if_pos rfl, if_pos (by show u ≤ _; omega)]
  simp only [List.length_append]
theorem rInt_at (pre rest : List UInt8) (n : Int) (hn : zig n < 18446744073709551616) : rInt (pre ++ (vint (zig n) ++ rest)) ⟨pre.length, 0, 0⟩ = (n, ⟨(pre ++ vint (zig n)).length, 0, 0⟩) := by
  have h := rU_at pre rest (zig n) hn
  unfold rU at h
  unfold rInt
  rw [h, unzig_zig]
theorem vs_cons (x : Nat) (X : List Nat) : vs (x :: X) = vint x ++ vs X := by simp [vs]
theorem rds_at (X : List Nat) (hX : ∀ x ∈ X, x < 18446744073709551616) (pre rest : List UInt8) : ∀ j, j ≤ X.length → rds (pre ++ (vs X ++ rest)) ⟨pre.length, 0, 0⟩ j = (X.take j, ⟨(pre ++ vs (X.take j)).length, 0, 0⟩)
  | 0, _ => by simp [rds, vs_nil]
  | j + 1, h => by
    have ih := rds_at X hX pre rest j (by omega)
    have hj : j < X.length := by omega
    have e1 : X = X.take j ++ (X[j] :: X.drop (j + 1)) := by rw [← List.drop_eq_getElem_cons hj, List.take_append_drop]
    have e2 : pre ++ (vs X ++ rest) = (pre ++ vs (X.take j)) ++ (vint X[j] ++ (vs (X.drop (j + 1)) ++ rest)) := by
      conv => lhs; rw [e1]
      rw [vs_app, vs_cons]
      simp only [List.append_assoc]
    simp only [rds]
    rw [ih, e2, rU_at _ _ _ (hX _ (List.getElem_mem hj)), List.take_succ_eq_append_getElem hj, vs_app, vs_one]
    simp only [List.append_assoc]
/-- What Runs wrote comes back. -/
theorem un_rn : ∀ (f : Nat) (P R : List Nat) (pre : List UInt8) (lr : Bool), R.length ≤ f → R.length ≤ 2147483647 → (∀ x ∈ R, x < 18446744073709551616) → (P ≠ [] → R ≠ [] → R.getD 0 0 ≠ P.getD (P.length - 1) 0) → (P ≠ [] → R ≠ [] → lr = false → 1 < al R) →
    un (pre ++ rn R) (P ++ R).length ⟨pre.length, 0, 0⟩ P lr = (P ++ R, 0, 0)
  | f, P, R, pre, lr, hf, hb, hx, h1, h2 => by
    by_cases h0 : R = []
    · subst h0
      rw [un_end (by rw [rn_nil]; simp) (by simp)]
      simp
    have hp : 0 < R.length := List.length_pos_iff.2 h0
    have hleft : (P ++ R).length - P.length = R.length := by simp
    cases f with
    | zero => omega
    | succ f =>
    by_cases hr : 1 < al R
    · have ha := al_le R
      have hx0 : R.getD 0 0 < 18446744073709551616 := by rw [List.getD_eq_getElem?_getD, List.getElem?_eq_getElem hp]; exact hx _ (List.getElem_mem hp)
      have hz : zig (al R : Int) < 18446744073709551616 := by unfold zig; split <;> omega
      have eL : pre ++ rn R = pre ++ (vint (zig (al R : Int)) ++ (vint (R.getD 0 0) ++ rn (R.drop (al R)))) := by rw [rn_run R hr]; simp only [List.append_assoc]
      have eL2 : pre ++ rn R = (pre ++ vint (zig (al R : Int))) ++ (vint (R.getD 0 0) ++ rn (R.drop (al R))) := by rw [eL]; simp only [List.append_assoc]
      have eL3 : pre ++ rn R = (pre ++ vint (zig (al R : Int)) ++ vint (R.getD 0 0)) ++ rn (R.drop (al R)) := by rw [eL]; simp only [List.append_assoc]
      have i1 : rInt (pre ++ rn R) ⟨pre.length, 0, 0⟩ = ((al R : Int), ⟨(pre ++ vint (zig (al R : Int))).length, 0, 0⟩) := by rw [eL]; exact rInt_at _ _ _ hz
      have i2 : pc2 (pre ++ rn R) ⟨pre.length, 0, 0⟩ = ⟨(pre ++ vint (zig (al R : Int))).length, 0, 0⟩ := by unfold pc2; rw [i1, if_neg (by simp only; omega)]
      have i3 : rU (pre ++ rn R) ⟨(pre ++ vint (zig (al R : Int))).length, 0, 0⟩ = (R.getD 0 0, ⟨(pre ++ vint (zig (al R : Int)) ++ vint (R.getD 0 0)).length, 0, 0⟩) := by rw [eL2]; exact rU_at _ _ _ hx0
      have i4 : ¬ pcO (pre ++ rn R) R.length ⟨pre.length, 0, 0⟩ = true := by rw [pcO_iff, i1]; simp only; omega
      have hpos : 0 < (rInt (pre ++ rn R) ⟨pre.length, 0, 0⟩).1 := by rw [i1]; simp only; omega
      have iS : pcS (pre ++ rn R) R.length ⟨pre.length, 0, 0⟩ = ⟨(pre ++ vint (zig (al R : Int)) ++ vint (R.getD 0 0)).length, 0, 0⟩ := by unfold pcS; rw [if_neg i4, if_pos hpos, i2, i3]
      have iL : pcL (pre ++ rn R) R.length ⟨pre.length, 0, 0⟩ = List.replicate (al R) (R.getD 0 0) := by
        unfold pcL
        rw [if_neg i4, if_pos hpos, i2, i3, i1]
        simp
      have iR : pcR (pre ++ rn R) ⟨pre.length, 0, 0⟩ = true := by unfold pcR; rw [decide_eq_true_iff]; exact hpos
      have hk : pre.length < (pre ++ rn R).length := by
        have h5 := (pc_good (L := pre ++ rn R) (s := ⟨pre.length, 0, 0⟩) (left := R.length) (by simp) (by rw [iS])).2.1
        have h6 := (pcS_le (L := pre ++ rn R) (s := ⟨pre.length, 0, 0⟩) R.length (by simp)).2
        exact Nat.lt_of_lt_of_le h5 h6
      have hnof : ¬ nof P (pcL (pre ++ rn R) ((P ++ R).length - P.length) ⟨pre.length, 0, 0⟩) (pcR (pre ++ rn R) ⟨pre.length, 0, 0⟩) lr = true := by
        rw [nof_iff, hleft, iL, iR]
        rintro (⟨hP, h | h⟩ | h)
        · cases h.1
        · refine h1 hP h0 ?_
          rw [← h]
          have : (List.replicate (al R) (R.getD 0 0)).getD 0 0 = R.getD 0 0 := by
            rw [List.getD_eq_getElem?_getD, List.getElem?_replicate, if_pos (by omega)]; rfl
          rw [this]
        · cases h.1
      have step := un_step (L := pre ++ rn R) (n := (P ++ R).length) (s := ⟨pre.length, 0, 0⟩) (l := P) (lr := lr) hk (by rw [hleft, iS]) hnof
      rw [step, hleft, iS, iL, iR]
      have eR : List.replicate (al R) (R.getD 0 0) ++ R.drop (al R) = R := by rw [← al_take R, List.take_append_drop]
      have eP : P ++ R = (P ++ List.replicate (al R) (R.getD 0 0)) ++ R.drop (al R) := by rw [List.append_assoc, eR]
      have ih := un_rn f (P ++ List.replicate (al R) (R.getD 0 0)) (R.drop (al R)) (pre ++ vint (zig (al R : Int)) ++ vint (R.getD 0 0)) true (by rw [List.length_drop]; omega) (by rw [List.length_drop]; omega) (fun x hm => hx x (List.mem_of_mem_drop hm))
        (fun _ hne => by
          have hlt : al R < R.length := by
            have := List.length_pos_iff.2 hne
            rw [List.length_drop] at this
            omega
          have e1 : (R.drop (al R)).getD 0 0 = R.getD (al R) 0 := by simp
          have e2 : (P ++ List.replicate (al R) (R.getD 0 0)).getD ((P ++ List.replicate (al R) (R.getD 0 0)).length - 1) 0 = R.getD 0 0 := by
            rw [List.getD_eq_getElem?_getD, List.getElem?_append_right (by simp; omega), List.getElem?_replicate, if_pos (by simp; omega)]
            rfl
          rw [e1, e2]
          exact al_next R hlt)
        (fun _ _ h => by cases h)
      rw [← eP, ← eL3] at ih
      exact ih
    · have ha := al_pos R hp
      have u1 := ul_pos R (by omega)
      have u2 := ul_le R
      have hz : zig (-(ul R : Int)) < 18446744073709551616 := by unfold zig; split <;> omega
      have eL : pre ++ rn R = pre ++ (vint (zig (-(ul R : Int))) ++ (vs (R.take (ul R)) ++ rn (R.drop (ul R)))) := by rw [rn_row R h0 hr]; simp only [List.append_assoc]
      have eL2 : pre ++ rn R = (pre ++ vint (zig (-(ul R : Int)))) ++ (vs (R.take (ul R)) ++ rn (R.drop (ul R))) := by rw [eL]; simp only [List.append_assoc]
      have eL3 : pre ++ rn R = (pre ++ vint (zig (-(ul R : Int))) ++ vs (R.take (ul R))) ++ rn (R.drop (ul R)) := by rw [eL]; simp only [List.append_assoc]
      have i1 : rInt (pre ++ rn R) ⟨pre.length, 0, 0⟩ = (-(ul R : Int), ⟨(pre ++ vint (zig (-(ul R : Int)))).length, 0, 0⟩) := by rw [eL]; exact rInt_at _ _ _ hz
      have i2 : pc2 (pre ++ rn R) ⟨pre.length, 0, 0⟩ = ⟨(pre ++ vint (zig (-(ul R : Int)))).length, 0, 0⟩ := by unfold pc2; rw [i1, if_neg (by simp only; omega)]
      have hlen : (R.take (ul R)).length = ul R := by rw [List.length_take]; omega
      have i3 : rds (pre ++ rn R) ⟨(pre ++ vint (zig (-(ul R : Int)))).length, 0, 0⟩ (ul R) = (R.take (ul R), ⟨(pre ++ vint (zig (-(ul R : Int))) ++ vs (R.take (ul R))).length, 0, 0⟩) := by
        rw [eL2, rds_at (R.take (ul R)) (fun x hm => hx x (List.mem_of_mem_take hm)) _ _ (ul R) (by omega), List.take_of_length_le (by omega)]
      have i4 : ¬ pcO (pre ++ rn R) R.length ⟨pre.length, 0, 0⟩ = true := by rw [pcO_iff, i1]; simp only; omega
      have hpos : ¬ 0 < (rInt (pre ++ rn R) ⟨pre.length, 0, 0⟩).1 := by rw [i1]; simp only; omega
      have hto : (-(rInt (pre ++ rn R) ⟨pre.length, 0, 0⟩).1).toNat = ul R := by rw [i1]; simp only; omega
      have iS : pcS (pre ++ rn R) R.length ⟨pre.length, 0, 0⟩ = ⟨(pre ++ vint (zig (-(ul R : Int))) ++ vs (R.take (ul R))).length, 0, 0⟩ := by unfold pcS; rw [if_neg i4, if_neg hpos, i2, hto, i3]
      have iL : pcL (pre ++ rn R) R.length ⟨pre.length, 0, 0⟩ = R.take (ul R) := by unfold pcL; rw [if_neg i4, if_neg hpos, i2, hto, i3]
      have iR : pcR (pre ++ rn R) ⟨pre.length, 0, 0⟩ = false := by unfold pcR; rw [decide_eq_false_iff_not]; exact hpos
      have hk : pre.length < (pre ++ rn R).length := by
        have h5 := (pc_good (L := pre ++ rn R) (s := ⟨pre.length, 0, 0⟩) (left := R.length) (by simp) (by rw [iS])).2.1
        have h6 := (pcS_le (L := pre ++ rn R) (s := ⟨pre.length, 0, 0⟩) R.length (by simp)).2
        exact Nat.lt_of_lt_of_le h5 h6
      have hg0 : (R.take (ul R)).getD 0 0 = R.getD 0 0 := by rw [List.getD_eq_getElem?_getD, List.getD_eq_getElem?_getD, List.getElem?_take, if_pos (by omega)]
      have hnof : ¬ nof P (pcL (pre ++ rn R) ((P ++ R).length - P.length) ⟨pre.length, 0, 0⟩) (pcR (pre ++ rn R) ⟨pre.length, 0, 0⟩) lr = true := by
        rw [nof_iff, hleft, iL, iR]
        rintro (⟨hP, h | h⟩ | h)
        · exact hr (h2 hP h0 h.2)
        · rw [hg0] at h
          exact h1 hP h0 h
        · rw [ul_take, hlen] at h
          omega
      have step := un_step (L := pre ++ rn R) (n := (P ++ R).length) (s := ⟨pre.length, 0, 0⟩) (l := P) (lr := lr) hk (by rw [hleft, iS]) hnof
      rw [step, hleft, iS, iL, iR]
      have eP : P ++ R = (P ++ R.take (ul R)) ++ R.drop (ul R) := by rw [List.append_assoc, List.take_append_drop]
      have ih := un_rn f (P ++ R.take (ul R)) (R.drop (ul R)) (pre ++ vint (zig (-(ul R : Int))) ++ vs (R.take (ul R))) false (by rw [List.length_drop]; omega) (by rw [List.length_drop]; omega) (fun x hm => hx x (List.mem_of_mem_drop hm))
        (fun _ hne => by
          have hlt : ul R < R.length := by
            have := List.length_pos_iff.2 hne
            rw [List.length_drop] at this
            omega
          have e1 : (R.drop (ul R)).getD 0 0 = R.getD (ul R) 0 := by simp
          have e2 : (P ++ R.take (ul R)).getD ((P ++ R.take (ul R)).length - 1) 0 = R.getD (ul R - 1) 0 := by
            rw [List.getD_eq_getElem?_getD, List.getElem?_append_right (by rw [List.length_append, hlen]; omega), List.length_append, hlen, List.getElem?_take, if_pos (by omega), List.getD_eq_getElem?_getD]
            congr 2
            omega
          rw [e1, e2]
          exact ul_next R u1 hlt)
        (fun _ hne _ => by
          rcases ul_rest R with e | e
          · exact absurd e hne
          · exact e)
      rw [← eP, ← eL3] at ih
      exact ih
theorem unA_rn (R : List Nat) (hb : R.length ≤ 2147483647) (hx : ∀ x ∈ R, x < 18446744073709551616) : unA (rn R) (R.length : Int) = (R, 0, 0) := by
  unfold unA
  rw [if_neg (by omega)]
  have := un_rn R.length [] R [] false (Nat.le_refl _) hb hx (fun h => absurd rfl h) (fun h => absurd rfl h)
  simpa using this
/-- Sums of differences. -/
theorem acc_dls (D : List Int) (hD : ∀ x ∈ D, I64 x) : ∀ k, k < D.length → acc (dls D) (k + 1) = D.getD k 0
  | 0, h => by
    have hm : I64 (D.getD 0 0) := hD _ (by rw [List.getD_eq_getElem?_getD, List.getElem?_eq_getElem h]; exact List.getElem_mem h)
    simp only [acc]
    rw [dls_get D 0 h]
    unfold dl
    rw [unzig_zig, if_pos rfl, IntKind.wrap_i64, IntKind.wrap_i64]
    unfold I64 at hm
    omega
  | k + 1, h => by
    have ih := acc_dls D hD k (by omega)
    have hm : I64 (D.getD (k + 1) 0) := hD _ (by rw [List.getD_eq_getElem?_getD, List.getElem?_eq_getElem h]; exact List.getElem_mem h)
    have hm0 : I64 (D.getD k 0) := hD _ (by rw [List.getD_eq_getElem?_getD, List.getElem?_eq_getElem (by omega)]; exact List.getElem_mem (by omega))
    rw [acc, ih, dls_get D (k + 1) h]
    unfold dl
    rw [unzig_zig, if_neg (by omega), show k + 1 - 1 = k by omega, IntKind.wrap_i64, IntKind.wrap_i64]
    unfold I64 at hm hm0
    omega
theorem dsl_dls (D : List Int) (hD : ∀ x ∈ D, I64 x) : dsl (dls D) = D := by
  apply List.ext_getElem
  · rw [dsl_len, dls_len]
  · intro k h1 h2
    have := acc_dls D hD k h2
    have e : (dsl (dls D))[k] = (dsl (dls D)).getD k 0 := by rw [List.getD_eq_getElem?_getD, List.getElem?_eq_getElem h1]; rfl
    rw [e, dsl_get (dls D) k (by rw [dls_len]; exact h2), this, List.getD_eq_getElem?_getD, List.getElem?_eq_getElem h2]
    rfl
theorem unDA_rn (D : List Int) (hb : D.length ≤ 2147483647) (hD : ∀ x ∈ D, I64 x) : unDA (unA (rn (dls D)) (D.length : Int)) = (D, 0, 0) := by
  have := unA_rn (dls D) (by rw [dls_len]; exact hb) (dls_lt D)
  rw [dls_len] at this
  rw [this]
  unfold unDA
  rw [if_pos rfl, dsl_dls D hD]
theorem al_rep (v : Nat) : ∀ n, al (List.replicate (n + 1) v) = n + 1
  | 0 => rfl
  | n + 1 => by
    have := al_rep v n
    rw [List.replicate_succ] at this
    rw [List.replicate_succ, List.replicate_succ, al, if_pos rfl, this]
theorem vint_pos (v : Nat) : 0 < (vint v).length := by
  unfold vint
  split <;> simp
theorem rn_like (v : Nat) (hv : v < 18446744073709551616) : (rn (List.replicate 1000 v)).length ≤ 20 ∧ 0 < (rn (List.replicate 1000 v)).length := by
  have ha : al (List.replicate 1000 v) = 1000 := al_rep v 999
  rw [rn_run _ (by rw [ha]; decide), ha]
  have hd : (List.replicate 1000 v).drop 1000 = [] := List.drop_of_length_le (by rw [List.length_replicate]; exact Nat.le_refl _)
  have hg : (List.replicate 1000 v).getD 0 0 = v := by rw [List.getD_eq_getElem?_getD, List.getElem?_replicate, if_pos (by decide)]; rfl
  rw [hd, rn_nil, hg]
  have z := zig_len ((1000 : Nat) : Int) (by omega) (by omega)
  have x := vint_10 v hv
  have p := vint_pos v
  simp only [List.length_append, List.length_nil]
  omega
end Go.Proofs.YtphpaaajfcbafaaDoor.K
