import Derived.Test.YtphpaaajfcbafaaDoorKXd
import Derived.Test.YtphpaaajfcbafaaDoorKKm
namespace Go.Proofs.YtphpaaajfcbafaaDoor.K
open Go.RowKit
set_option linter.unusedVariables false
set_option linter.unusedSimpArgs false

/-- How many at the front are the first one. -/
def al : List Nat → Nat
  | [] => 0
  | [_] => 1
  | x :: y :: t => if x = y then al (y :: t) + 1 else 1
/-- How many stand ahead of the first two that are alike. -/
def ul : List Nat → Nat
  | [] => 0
  | [_] => 1
  | x :: y :: t => if x = y then 0 else ul (y :: t) + 1
theorem al_le : ∀ L, al L ≤ L.length
  | [] => by simp [al]
  | [_] => by simp [al]
  | x :: y :: t => by
    have := al_le (y :: t)
    unfold al
    split <;> simp_all
theorem al_pos : ∀ L, 0 < L.length → 1 ≤ al L
  | [], h => by simp at h
  | [_], _ => by simp [al]
  | x :: y :: t, _ => by unfold al; split <;> omega
theorem ul_le : ∀ L, ul L ≤ L.length
  | [] => by simp [ul]
  | [_] => by simp [ul]
  | x :: y :: t => by
    have := ul_le (y :: t)
    unfold ul
    split <;> simp_all
theorem ul_pos : ∀ L, al L = 1 → 1 ≤ ul L
  | [], h => by simp [al] at h
  | [_], _ => by simp [ul]
  | x :: y :: t, h => by
    unfold al at h
    unfold ul
    split at h
    · have := al_pos (y :: t) (by simp); omega
    · rename_i hn; rw [if_neg hn]; omega
/-- Behind a row a run stands, or nothing. -/
theorem ul_rest : ∀ L : List Nat, L.drop (ul L) = [] ∨ 1 < al (L.drop (ul L))
  | [] => by simp
  | [_] => by simp [ul]
  | x :: y :: t => by
    unfold ul
    split
    · rename_i h
      right
      rw [List.drop_zero]
      unfold al
      rw [if_pos h]
      have := al_pos (y :: t) (by simp)
      omega
    · rw [List.drop_succ_cons]
      exact ul_rest (y :: t)
theorem drop_two (L : List Nat) (i : Nat) (h : i + 1 < L.length) : L.drop i = L.getD i 0 :: L.getD (i + 1) 0 :: L.drop (i + 2) := by
  rw [List.drop_eq_getElem_cons (by omega), List.drop_eq_getElem_cons h]
  simp [List.getElem?_eq_getElem h, List.getElem?_eq_getElem (show i < L.length by omega)]
theorem drop_one (L : List Nat) (i : Nat) (h : i < L.length) : L.drop i = L.getD i 0 :: L.drop (i + 1) := by
  rw [List.drop_eq_getElem_cons h]
  simp [List.getElem?_eq_getElem h]
theorem al_same (L : List Nat) (i : Nat) (h : i + 1 < L.length) (e : L.getD i 0 = L.getD (i + 1) 0) : al (L.drop i) = al (L.drop (i + 1)) + 1 := by
  rw [drop_two L i h, drop_one L (i + 1) h, al, if_pos e]
theorem al_other (L : List Nat) (i : Nat) (h : i + 1 < L.length) (e : L.getD i 0 ≠ L.getD (i + 1) 0) : al (L.drop i) = 1 := by
  rw [drop_two L i h, al, if_neg e]
theorem al_last (L : List Nat) (i : Nat) (h : i + 1 = L.length) : al (L.drop i) = 1 := by
  rw [drop_one L i (by omega), List.drop_of_length_le (by omega)]
  rfl
theorem ul_same (L : List Nat) (i : Nat) (h : i + 1 < L.length) (e : L.getD i 0 = L.getD (i + 1) 0) : ul (L.drop i) = 0 := by
  rw [drop_two L i h, ul, if_pos e]
theorem ul_other (L : List Nat) (i : Nat) (h : i + 1 < L.length) (e : L.getD i 0 ≠ L.getD (i + 1) 0) : ul (L.drop i) = ul (L.drop (i + 1)) + 1 := by
  rw [drop_two L i h, drop_one L (i + 1) h, ul, if_neg e]
theorem ul_last (L : List Nat) (i : Nat) (h : i + 1 = L.length) : ul (L.drop i) = 1 := by
  rw [drop_one L i (by omega), List.drop_of_length_le (by omega)]
  rfl
theorem ul_run (L : List Nat) (i : Nat) (h : 1 < al (L.drop i)) : ul (L.drop i) = 0 := by
  have h1 := al_le (L.drop i)
  rw [List.length_drop] at h1
  by_cases e : L.getD i 0 = L.getD (i + 1) 0
  · exact ul_same L i (by omega) e
  · rw [al_other L i (by omega) e] at h; omega
theorem ul_row (L : List Nat) (i : Nat) (hi : i < L.length) (h : al (L.drop i) = 1) : ul (L.drop i) = ul (L.drop (i + 1)) + 1 := by
  by_cases hl : i + 1 < L.length
  · by_cases e : L.getD i 0 = L.getD (i + 1) 0
    · rw [al_same L i hl e] at h
      have := al_pos (L.drop (i + 1)) (by rw [List.length_drop]; omega)
      omega
    · exact ul_other L i hl e
  · rw [ul_last L i (by omega), List.drop_of_length_le (by omega)]
    rfl
/-- Many numbers, one behind the other. -/
def vs (L : List Nat) : List UInt8 := (L.map K.vint).flatten
theorem vs_nil : vs [] = [] := rfl
theorem vs_app (a b : List Nat) : vs (a ++ b) = vs a ++ vs b := by simp [vs]
theorem vs_one (a : Nat) : vs [a] = K.vint a := by simp [vs]
theorem vs_len : ∀ L : List Nat, (∀ x ∈ L, x < 18446744073709551616) → (vs L).length ≤ 10 * L.length
  | [], _ => by simp [vs]
  | x :: t, h => by
    have h1 := K.vint_10 x (h x (by simp))
    have h2 := vs_len t (fun y hy => h y (by simp [hy]))
    rw [show x :: t = [x] ++ t from rfl, vs_app, vs_one]
    simp only [List.length_append, List.length_cons, List.length_nil]
    omega
/-- The bytes of numbers, as runs and rows. -/
def rn (L : List Nat) : List UInt8 :=
  if h0 : L = [] then [] else
    if h : 1 < al L then K.vint (K.zig (al L : Int)) ++ K.vint (L.getD 0 0) ++ rn (L.drop (al L))
    else K.vint (K.zig (-(ul L : Int))) ++ vs (L.take (ul L)) ++ rn (L.drop (ul L))
termination_by L.length
decreasing_by
  all_goals
    have hp : 0 < L.length := List.length_pos_iff.2 h0
    rw [List.length_drop]
  · omega
  · have := al_pos L hp
    have := ul_pos L (by omega)
    omega
theorem rn_nil : rn [] = [] := by rw [rn]; simp
theorem rn_run (L : List Nat) (h : 1 < al L) : rn L = K.vint (K.zig (al L : Int)) ++ K.vint (L.getD 0 0) ++ rn (L.drop (al L)) := by
  have h0 : L ≠ [] := fun e => by rw [e] at h; simp [al] at h
  rw [rn, dif_neg h0, dif_pos h]
theorem rn_row (L : List Nat) (h0 : L ≠ []) (h : ¬ 1 < al L) : rn L = K.vint (K.zig (-(ul L : Int))) ++ vs (L.take (ul L)) ++ rn (L.drop (ul L)) := by
  rw [rn, dif_neg h0, dif_neg h]
theorem zig_len (n : Int) (h1 : -17592186044416 ≤ n) (h2 : n ≤ 17592186044416) : (K.vint (K.zig n)).length ≤ 7 :=
  K.vint_len 6 _ (by
    have : (562949953421312 : Nat) = 128 ^ 7 := by decide
    unfold K.zig
    split <;> omega)
theorem rn_len : ∀ (f : Nat) (L : List Nat), L.length ≤ f → L.length ≤ 17592186044416 → (∀ x ∈ L, x < 18446744073709551616) → (rn L).length ≤ 12 * L.length + 7 ∧ (1 < al L → (rn L).length ≤ 12 * L.length)
  | 0, L, hf, _, _ => by
    obtain rfl : L = [] := List.eq_nil_of_length_eq_zero (by omega)
    rw [rn_nil]
    simp
  | f + 1, L, hf, hb, hv => by
    by_cases h0 : L = []
    · subst h0
      rw [rn_nil]
      simp
    have hp : 0 < L.length := List.length_pos_iff.2 h0
    have hd : ∀ k, ∀ x ∈ L.drop k, x < 18446744073709551616 := fun k x hx => hv x (List.mem_of_mem_drop hx)
    by_cases h : 1 < al L
    · have ha := al_le L
      have i1 := (rn_len f (L.drop (al L)) (by rw [List.length_drop]; omega) (by rw [List.length_drop]; omega) (hd _)).1
      have z := zig_len (al L : Int) (by omega) (by omega)
      have v := K.vint_10 (L.getD 0 0) (by rw [List.getD_eq_getElem?_getD, List.getElem?_eq_getElem hp]; exact hv _ (List.getElem_mem hp))
      rw [rn_run L h]
      simp only [List.length_append]
      rw [List.length_drop] at i1
      exact ⟨by omega, fun _ => by omega⟩
    · have ha := al_pos L hp
      have u1 := ul_pos L (by omega)
      have u2 := ul_le L
      have i2 : (rn (L.drop (ul L))).length ≤ 12 * (L.length - ul L) := by
        rcases ul_rest L with e | e
        · rw [e, rn_nil]; simp
        · have := (rn_len f (L.drop (ul L)) (by rw [List.length_drop]; omega) (by rw [List.length_drop]; omega) (hd _)).2 e
          rw [List.length_drop] at this
          exact this
      have z := zig_len (-(ul L : Int)) (by omega) (by omega)
      have v := vs_len (L.take (ul L)) (fun x hx => hv x (List.mem_of_mem_take hx))
      rw [List.length_take] at v
      rw [rn_row L h0 h]
      simp only [List.length_append]
      exact ⟨by omega, fun h1 => absurd h1 h⟩
theorem rn_le (L : List Nat) (hb : L.length ≤ 17592186044416) (hv : ∀ x ∈ L, x < 18446744073709551616) : (rn L).length ≤ 211106232533000 := by
  have := (rn_len L.length L (Nat.le_refl _) hb hv).1
  omega
theorem rn_five : (rn [5]).length = 2 := by
  rw [rn_row [5] (by simp) (by decide), show ul [5] = 1 from rfl, show ([5] : List Nat).drop 1 = [] from rfl, rn_nil, show ([5] : List Nat).take 1 = [5] from rfl, vs_one]
  have z : K.zig (-((1 : Nat) : Int)) = 1 := by decide
  rw [z, K.vint_lt (by decide), K.vint_lt (by decide)]
  rfl
end Go.Proofs.YtphpaaajfcbafaaDoor.K
