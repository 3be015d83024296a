import Derived.Test.YtefoipjbbfcjhaaDoorDa
import Derived.Test.YtefoipjbbfcjhaaDoorQUt
import Derived.Lib.MapLaws
import Derived.Stop.FmtQuoteTie
namespace Go.Proofs.YtefoipjbbfcjhaaDoor
open Go.RowKit
set_option linter.unusedVariables false
set_option linter.unusedSimpArgs false

/-- The characters of a text. -/
def rnL : Nat → List UInt8 → List Nat
  | 0, _ => []
  | f + 1, l => if l = [] then [] else (Lib.decodeL l).1 :: rnL f (l.drop (Lib.decodeL l).2)
def rn (s : ByteArray) : List Nat := rnL s.size s.data.toList
theorem get_getD (s : ByteArray) (i : Nat) : s.get! i = s.data.toList.getD i 0 := (Lib.getD_get!' s i).symm
theorem decode_drop (s : ByteArray) (k : Nat) : Utf8.decode s k = Lib.decodeL (s.data.toList.drop k) := by
  rw [Lib.decode_at, Lib.decodeL_N, get_getD, get_getD, get_getD, get_getD]
  have e : ∀ j, (s.data.toList.drop k).getD j 0 = s.data.toList.getD (k + j) 0 := fun j => by simp [List.getD_eq_getElem?_getD]
  rw [e, e, e, e]
  congr 1
  simp
theorem decode_pos (l : List UInt8) : 1 ≤ (Lib.decodeL l).2 := by
  rw [Lib.decodeL_N]
  exact Lib.decodeN_ge1 _ _ _ _ _
theorem rnL_nil (f : Nat) : rnL f [] = [] := by cases f <;> simp [rnL]
theorem rnL_len : ∀ (f : Nat) (l : List UInt8), (rnL f l).length ≤ f
  | 0, _ => by simp [rnL]
  | f + 1, l => by
    rw [rnL]
    split
    · simp
    · have := rnL_len f (l.drop (Lib.decodeL l).2)
      simp only [List.length_cons]; omega
theorem rn_len (s : ByteArray) : (rn s).length ≤ s.size := rnL_len _ _
theorem rnL_fuel : ∀ (f g : Nat) (l : List UInt8), l.length ≤ f → l.length ≤ g → rnL f l = rnL g l
  | 0, g, l, h, _ => by
    obtain rfl := List.eq_nil_of_length_eq_zero (Nat.le_zero.1 h)
    rw [rnL_nil, rnL_nil]
  | f + 1, 0, l, _, h => by
    obtain rfl := List.eq_nil_of_length_eq_zero (Nat.le_zero.1 h)
    rw [rnL_nil, rnL_nil]
  | f + 1, g + 1, l, h, h2 => by
    rw [rnL, rnL]
    split
    · rfl
    · have := decode_pos l
      rw [rnL_fuel f g _ (by simp; omega) (by simp; omega)]
/-- What []rune makes. -/
def rV (l : List Nat) : List Value := l.map fun n : Nat => Value.int .i32 (n : Int)
theorem runesFrom_rn (s : ByteArray) : ∀ (f i : Nat) (acc : Array Value), Conv.runesFrom s f i acc = acc ++ (rV (rnL f (s.data.toList.drop i))).toArray
  | 0, i, acc => by simp [Conv.runesFrom, rnL, rV]
  | f + 1, i, acc => by
    unfold Conv.runesFrom
    by_cases h : i < s.size
    · have hne : s.data.toList.drop i ≠ [] := fun e => by have := congrArg List.length e; simp at this; omega
      rw [if_pos h]
      dsimp only
      rw [runesFrom_rn s f, decode_drop, rnL, if_neg hne, List.drop_drop]
      simp [rV]
    · have he : s.data.toList.drop i = [] := List.drop_eq_nil_of_le (by simp; omega)
      rw [if_neg h, he, rnL_nil]
      simp [rV]
theorem runes_all (s : ByteArray) : Conv.runesFrom s s.size 0 #[] = (rV (rn s)).toArray := by
  rw [runesFrom_rn]
  simp [rn]
/-- A character of a valid text: what it is encoded as is what stood there. -/
theorem enc_toList (n : Nat) : (Utf8.encode (n : Int)).data.toList = Lib.encodeRune (n : Int) := by
  have h := Extern.FmtText.encode_eq n
  unfold Lib.encodeRune
  rw [← h]
  unfold Extern.FmtText.nums
  rw [List.map_map]
  conv => lhs; rw [← List.map_id (Utf8.encode (n : Int)).data.toList]
  apply List.map_congr_left
  intro x _
  simp
theorem valid_next (l : List UInt8) (hne : l ≠ []) (hv : Lib.validD l = true) : ¬ ((Lib.decodeL l).1 = 65533 ∧ (Lib.decodeL l).2 = 1) ∧ Lib.validD (l.drop (Lib.decodeL l).2) = true := by
  rw [Lib.validD_step l hne] at hv
  split at hv
  · cases hv
  · exact ⟨by assumption, hv⟩
theorem getD_take (l : List UInt8) (j i : Nat) : (l.take j).getD i 0 = if i < j then l.getD i 0 else 0 := by
  rw [List.getD_eq_getElem?_getD, List.getD_eq_getElem?_getD, List.getElem?_take]
  split <;> rfl
theorem decodeN_cut {n b0 b1 b2 b3 j : Nat} {r : Nat × Nat} (h : Lib.decodeN n b0 b1 b2 b3 = r) (hv : ¬ (r.1 = 65533 ∧ r.2 = 1)) (hj : r.2 ≤ j) (h1 : 1 ≤ j) {c1 c2 c3 : Nat} (e1 : 1 < j → c1 = b1) (e2 : 2 < j → c2 = b2) (e3 : 3 < j → c3 = b3) : Lib.decodeN (min j n) b0 c1 c2 c3 = r := by
  unfold Lib.decodeN at h
  unfold Lib.decodeN
  split at h
  · next a => rw [if_pos a]; exact h
  · next a =>
    rw [if_neg a]
    split at h
    · next b =>
      split at h
      · next d =>
        subst h
        simp only [] at hj
        have := e1 (by omega)
        subst this
        rw [if_pos ⟨b.1, by omega, b.2.2⟩, if_pos d]
      · subst h; exact absurd ⟨rfl, rfl⟩ hv
    · next b =>
      split at h
      · next d =>
        split at h
        · next g =>
          subst h
          simp only [] at hj
          have := e1 (by omega)
          have := e2 (by omega)
          subst c1 c2
          rw [if_neg (by omega), if_pos ⟨d.1, ⟨by omega, d.2.1.2⟩, by omega, d.2.2.2⟩, if_pos g]
        · subst h; exact absurd ⟨rfl, rfl⟩ hv
      · next d =>
        split at h
        · next g =>
          split at h
          · next k =>
            subst h
            simp only [] at hj
            have := e1 (by omega)
            have := e2 (by omega)
            have := e3 (by omega)
            subst c1 c2 c3
            rw [if_neg (by omega), if_neg (by omega), if_pos ⟨g.1, ⟨by omega, g.2.1.2⟩, ⟨by omega, g.2.2.1.2⟩, by omega, g.2.2.2.2⟩, if_pos k]
          · subst h; exact absurd ⟨rfl, rfl⟩ hv
        · subst h; exact absurd ⟨rfl, rfl⟩ hv
/-- A whole character stays what it is where less stands behind it. -/
theorem decode_take {l : List UInt8} {j : Nat} (hv : ¬ ((Lib.decodeL l).1 = 65533 ∧ (Lib.decodeL l).2 = 1)) (hj : (Lib.decodeL l).2 ≤ j) : Lib.decodeL (l.take j) = Lib.decodeL l := by
  have hp := decode_pos l
  rw [Lib.decodeL_N (l.take j), List.length_take, getD_take, getD_take, getD_take, getD_take, if_pos (by omega)]
  refine decodeN_cut (Lib.decodeL_N l).symm hv hj (by omega) ?_ ?_ ?_
  · intro h; rw [if_pos h]
  · intro h; rw [if_pos h]
  · intro h; rw [if_pos h]
/-- A character that was read. -/
def Chr (n : Nat) : Prop := ∃ l : List UInt8, l ≠ [] ∧ ¬ ((Lib.decodeL l).1 = 65533 ∧ (Lib.decodeL l).2 = 1) ∧ (Lib.decodeL l).1 = n
theorem chr_dec {n : Nat} (h : Chr n) : (Lib.decodeL (Utf8.encode (n : Int)).data.toList).1 = n := by
  obtain ⟨l, hne, hv, rfl⟩ := h
  rw [enc_toList, Lib.encode_decode l hne hv, decode_take hv (Nat.le_refl _)]
theorem enc_inj {n m : Nat} (hn : Chr n) (hm : Chr m) : Utf8.encode (n : Int) = Utf8.encode (m : Int) ↔ n = m :=
  ⟨fun e => by rw [← chr_dec hn, ← chr_dec hm, e], fun e => by rw [e]⟩
theorem rnL_chr : ∀ (f : Nat) (l : List UInt8), Lib.validD l = true → ∀ n ∈ rnL f l, Chr n
  | 0, _, _, n, h => by simp [rnL] at h
  | f + 1, l, hv, n, h => by
    rw [rnL] at h
    split at h
    · cases h
    · rename_i hne
      obtain ⟨h1, h2⟩ := valid_next l hne hv
      rcases List.mem_cons.1 h with rfl | h
      · exact ⟨l, hne, h1, rfl⟩
      · exact rnL_chr f _ h2 n h
theorem rn_chr {s : ByteArray} (hv : Lib.validD s.data.toList = true) : ∀ n ∈ rn s, Chr n := rnL_chr _ _ hv
/-- How wide the first character is. -/
theorem wide_dec (t : ByteArray) (h0 : 0 < t.size) (hv : Lib.validD t.data.toList = true) : Q.wideN t = (Lib.decodeL t.data.toList).2 ∧ t.data.toList.take (Q.wideN t) = (Utf8.encode ((Lib.decodeL t.data.toList).1 : Int)).data.toList := by
  have hne := Q.ne_nil h0
  obtain ⟨h1, _⟩ := valid_next _ hne hv
  have e : Q.wideN t = (Lib.decodeL t.data.toList).2 := by
    unfold Q.wideN
    rw [Lib.decodeL_N] at h1 ⊢
    have hlen : t.data.toList.length = t.size := by simp
    rw [hlen] at h1 ⊢
    change ¬ ((Lib.decodeN t.size (Q.by8 t 0) (Q.by8 t 1) (Q.by8 t 2) (Q.by8 t 3)).1 = 65533 ∧ (Lib.decodeN t.size (Q.by8 t 0) (Q.by8 t 1) (Q.by8 t 2) (Q.by8 t 3)).2 = 1) at h1
    change _ = (Lib.decodeN t.size (Q.by8 t 0) (Q.by8 t 1) (Q.by8 t 2) (Q.by8 t 3)).2
    split
    · rename_i hl
      unfold Lib.decodeN
      rw [if_pos hl]
    · rename_i hl
      rcases Lib.check_decode t.size (Q.by8 t 0) (Q.by8 t 1) (Q.by8 t 2) (Q.by8 t 3) h0 (by omega) (Q.by8_lt _ _) (Q.by8_lt _ _) (Q.by8_lt _ _) (Q.by8_lt _ _) with ⟨_, hd⟩ | ⟨k, _, hk, hd⟩
      · rw [hd] at h1
        exact absurd ⟨rfl, rfl⟩ h1
      · rw [hk, hd]; rfl
  exact ⟨e, by rw [e, enc_toList, Lib.encode_decode _ hne h1]⟩
end Go.Proofs.YtefoipjbbfcjhaaDoor
