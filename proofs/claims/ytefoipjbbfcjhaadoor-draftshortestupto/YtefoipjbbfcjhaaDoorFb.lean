import Derived.Test.YtefoipjbbfcjhaaDoorFa
import Derived.Lib.TrimUEq
namespace Go.Proofs.YtefoipjbbfcjhaaDoor
open Go.RowKit
set_option linter.unusedVariables false
set_option linter.unusedSimpArgs false

theorem txt_append' : ∀ (n : Nat) (a b : List Nat), b.length = n → txt (a ++ b) = txt a ++ txt b
  | 0, a, b, h => by
    obtain rfl := List.eq_nil_of_length_eq_zero h
    rw [List.append_nil, txt_nil, ByteArray.append_empty]
  | n + 1, a, b, h => by
    have hne : b ≠ [] := fun e => by rw [e] at h; cases h
    obtain ⟨c, x, rfl⟩ : ∃ c x, b = c ++ [x] := ⟨b.dropLast, b.getLast hne, (List.dropLast_concat_getLast hne).symm⟩
    rw [← List.append_assoc, txt_snoc, txt_snoc, txt_append' n a c (by simpa using h), ByteArray.append_assoc]
theorem txt_append (a b : List Nat) : txt (a ++ b) = txt a ++ txt b := txt_append' _ a b rfl
theorem txt_one (n : Nat) : txt [n] = Utf8.encode (n : Int) := by
  have := txt_snoc [] n
  rw [List.nil_append, txt_nil, ByteArray.empty_append] at this
  exact this
theorem txt_cons (n : Nat) (l : List Nat) : (txt (n :: l)).data.toList = Lib.encodeRune (n : Int) ++ (txt l).data.toList := by
  have := txt_append [n] l
  rw [List.singleton_append, txt_one] at this
  rw [this, ← enc_toList]
  simp
/-- A character, with whatever behind it. -/
theorem chr_front {n : Nat} (h : Chr n) (r : List UInt8) : Lib.decodeL (Lib.encodeRune (n : Int) ++ r) = (n, (Lib.encodeRune (n : Int)).length) ∧ 1 ≤ (Lib.encodeRune (n : Int)).length ∧ ¬ (n = 65533 ∧ (Lib.encodeRune (n : Int)).length = 1) := by
  obtain ⟨l, hne, hv, rfl⟩ := h
  have e := Lib.encode_decode l hne hv
  have hle := Lib.decodeL_le l hne
  have hp := decode_pos l
  have hl : (Lib.encodeRune ((Lib.decodeL l).1 : Int)).length = (Lib.decodeL l).2 := by rw [e, List.length_take]; omega
  have hd : Lib.decodeL (Lib.encodeRune ((Lib.decodeL l).1 : Int)) = Lib.decodeL l := by rw [e]; exact decode_take hv (Nat.le_refl _)
  refine ⟨?_, by omega, by rw [hl]; exact hv⟩
  generalize hg : Lib.encodeRune ((Lib.decodeL l).1 : Int) = g at *
  rw [hl]
  have hdd : Lib.decodeL (g ++ r) = Lib.decodeL g := by
    have gd : ∀ i, i < g.length → (g ++ r).getD i 0 = g.getD i 0 := fun i hi => by
      rw [List.getD_eq_getElem?_getD, List.getD_eq_getElem?_getD, List.getElem?_append_left hi]
    rw [Lib.decodeL_N (g ++ r), Lib.decodeL_N g]
    rw [Lib.decodeL_N g] at hd
    have hw : (Lib.decodeN g.length (g.getD 0 0).toNat (g.getD 1 0).toNat (g.getD 2 0).toNat (g.getD 3 0).toNat).2 = g.length := by rw [hd, hl]
    rw [gd 0 (by omega)]
    by_cases h1 : g.length = 1
    · have hv1 : ¬ ((Lib.decodeN g.length (g.getD 0 0).toNat (g.getD 1 0).toNat (g.getD 2 0).toNat (g.getD 3 0).toNat).1 = 65533 ∧ (Lib.decodeN g.length (g.getD 0 0).toNat (g.getD 1 0).toNat (g.getD 2 0).toNat (g.getD 3 0).toNat).2 = 1) := by rw [hd]; exact hv
      by_cases ha : (g.getD 0 0).toNat < 128
      · rw [Lib.decodeN_ascii _ _ _ _ _ ha, Lib.decodeN_ascii _ _ _ _ _ ha]
      · rw [Lib.decodeN_alone _ _ _ _ _ (by omega) (.inl (by omega))] at hv1
        exact absurd ⟨rfl, rfl⟩ hv1
    · refine Lib.decodeN_more g.length (g ++ r).length _ _ _ _ _ _ _ (by omega) (by simp) hw ?_ ?_ ?_
      · intro hi; rw [gd 1 hi]
      · intro hi; rw [gd 2 hi]
      · intro hi; rw [gd 3 hi]
  rw [hdd, hd]
theorem txt_back' (l : List Nat) : (∀ n ∈ l, Chr n) → ∀ f, (txt l).data.toList.length ≤ f → rnL f (txt l).data.toList = l ∧ Lib.validD (txt l).data.toList = true := by
  induction l with
  | nil =>
    intro _ f _
    have e : (txt []).data.toList = [] := by rw [txt_nil]; rfl
    rw [e]
    exact ⟨rnL_nil f, Lib.validD_nil⟩
  | cons n l ih =>
    intro h f hf
    obtain ⟨h1, h2, h3⟩ := chr_front (h n (by simp)) (txt l).data.toList
    rw [txt_cons] at hf ⊢
    have hne : Lib.encodeRune (n : Int) ++ (txt l).data.toList ≠ [] := fun e => by
      have := congrArg List.length e
      rw [List.length_append] at this
      simp only [List.length_nil] at this
      omega
    rw [List.length_append] at hf
    generalize txt l = T at *
    generalize Lib.encodeRune (n : Int) = E at *
    cases f with
    | zero => omega
    | succ f =>
      obtain ⟨i1, i2⟩ := ih (fun m hm => h m (by simp [hm])) f (by omega)
      refine ⟨?_, ?_⟩
      · rw [rnL, if_neg hne, h1]
        dsimp only
        rw [List.drop_left, i1]
      · rw [Lib.validD_step _ hne, h1]
        dsimp only
        rw [if_neg h3, List.drop_left, i2]
theorem rn_txt (l : List Nat) (h : ∀ n ∈ l, Chr n) : rn (txt l) = l ∧ Lib.validD (txt l).data.toList = true := txt_back' l h _ (by simp)
theorem txt_rnL : ∀ (f : Nat) (l : List UInt8), l.length ≤ f → Lib.validD l = true → (txt (rnL f l)).data.toList = l
  | 0, l, h, _ => by
    obtain rfl := List.eq_nil_of_length_eq_zero (Nat.le_zero.1 h)
    rw [rnL_nil, txt_nil]
    rfl
  | f + 1, l, h, hv => by
    rw [rnL]
    split
    · next e => rw [e, txt_nil]; rfl
    · next hne =>
      obtain ⟨h1, h2⟩ := valid_next l hne hv
      have hp := decode_pos l
      rw [txt_cons, Lib.encode_decode l hne h1, txt_rnL f _ (by simp; omega) h2, List.take_append_drop]
theorem txt_rn {s : ByteArray} (hv : Lib.validD s.data.toList = true) : txt (rn s) = s := by
  have := txt_rnL s.size s.data.toList (by simp) hv
  exact ByteArray.ext (Array.toList_inj.1 this)
end Go.Proofs.YtefoipjbbfcjhaaDoor
