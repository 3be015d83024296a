import Derived.Test.YtepkanibcljdkaaDoorGQUm
import Derived.Lib.ValidAsc
import Derived.Test.YtepkanibcljdkaaDoorGPo
namespace Go.Proofs.YtepkanibcljdkaaDoor.Q.X
open Go.RowKit
set_option linter.unusedVariables false
set_option linter.unusedSimpArgs false

theorem ext_take (s : ByteArray) (m : Nat) : (s.extract 0 m).data.toList = s.data.toList.take m := by simp [ByteArray.data_extract]
theorem ext0_size (s : ByteArray) (m : Nat) (h : m ≤ s.size) : (s.extract 0 m).size = m := by rw [ByteArray.size_extract]; omega
theorem by8_out (s : ByteArray) (j : Nat) (h : s.size ≤ j) : by8 s j = 0 := by
  unfold by8
  rw [List.getD_eq_getElem?_getD, List.getElem?_eq_none (by rw [Array.length_toList]; exact h)]
  rfl
theorem getD_take (l : List UInt8) (j i : Nat) : (l.take j).getD i 0 = if i < j then l.getD i 0 else 0 := by
  rw [List.getD_eq_getElem?_getD, List.getD_eq_getElem?_getD, List.getElem?_take]
  split <;> rfl
theorem decodeN_cut {n b0 b1 b2 b3 j : Nat} {r : Nat × Nat} (h : Lib.decodeN n b0 b1 b2 b3 = r) (hv : ¬ (r.1 = 65533 ∧ r.2 = 1)) (hj : r.2 ≤ j) (h1 : 1 ≤ j) {c1 c2 c3 : Nat} (e1 : 1 < j → c1 = b1) (e2 : 2 < j → c2 = b2) (e3 : 3 < j → c3 = b3) : Lib.decodeN (min j n) b0 c1 c2 c3 = r := by
  unfold Lib.decodeN at h
  unfold Lib.decodeN
  split at h
  · next a => rw [if_pos a]; exact h
  · next a =>
    rw [if_neg a]
    split at h
    · next b =>
      split at h
      · next d =>
        subst h
        simp only [] at hj
        have := e1 (by omega)
        subst this
        rw [if_pos ⟨b.1, by omega, b.2.2⟩, if_pos d]
      · subst h; exact absurd ⟨rfl, rfl⟩ hv
    · next b =>
      split at h
      · next d =>
        split at h
        · next g =>
          subst h
          simp only [] at hj
          have := e1 (by omega)
          have := e2 (by omega)
          subst c1 c2
          rw [if_neg (by omega), if_pos ⟨d.1, ⟨by omega, d.2.1.2⟩, by omega, d.2.2.2⟩, if_pos g]
        · subst h; exact absurd ⟨rfl, rfl⟩ hv
      · next d =>
        split at h
        · next g =>
          split at h
          · next k =>
            subst h
            simp only [] at hj
            have := e1 (by omega)
            have := e2 (by omega)
            have := e3 (by omega)
            subst c1 c2 c3
            rw [if_neg (by omega), if_neg (by omega), if_pos ⟨g.1, ⟨by omega, g.2.1.2⟩, ⟨by omega, g.2.2.1.2⟩, by omega, g.2.2.2.2⟩, if_pos k]
          · subst h; exact absurd ⟨rfl, rfl⟩ hv
        · subst h; exact absurd ⟨rfl, rfl⟩ hv
/-- A whole character stays what it is where less stands behind it. -/
theorem decode_take {l : List UInt8} {j : Nat} (hv : ¬ ((Lib.decodeL l).1 = 65533 ∧ (Lib.decodeL l).2 = 1)) (hj : (Lib.decodeL l).2 ≤ j) : Lib.decodeL (l.take j) = Lib.decodeL l := by
  have hp := decode_pos l
  rw [Lib.decodeL_N (l.take j), List.length_take, getD_take, getD_take, getD_take, getD_take, if_pos (by omega)]
  refine decodeN_cut (Lib.decodeL_N l).symm hv hj (by omega) ?_ ?_ ?_
  · intro h; rw [if_pos h]
  · intro h; rw [if_pos h]
  · intro h; rw [if_pos h]
theorem decode_92 {l : List UInt8} (h : (Lib.decodeL l).1 = 92) : (Lib.decodeL l).2 = 1 := by
  rw [Lib.decodeL_N] at h ⊢
  generalize (l.getD 0 0).toNat = b0 at *
  generalize (l.getD 1 0).toNat = b1 at *
  generalize (l.getD 2 0).toNat = b2 at *
  generalize (l.getD 3 0).toNat = b3 at *
  unfold Lib.decodeN at h ⊢
  split at h
  · next a => rw [if_pos a]
  · next a =>
    rw [if_neg a]
    split at h
    · split at h <;> simp at h <;> omega
    · split at h
      · split at h <;> simp at h <;> omega
      · split at h
        · split at h <;> simp at h <;> omega
        · simp at h
theorem by8_data (s : ByteArray) (i : Nat) : (s.data.toList.getD i 0).toNat = by8 s i := rfl
theorem fullB_cut (n b0 b1 b2 c1 c2 : Nat) (h1 : 1 < n → c1 = b1) (h2 : 2 < n → c2 = b2) : fullB n b0 c1 c2 = fullB n b0 b1 b2 := by
  by_cases a : n ≤ 1
  · exact fullB_1 _ _ _ _ _ _ a
  · rw [h1 (by omega)]
    by_cases b : n ≤ 2
    · exact fullB_2 _ _ _ _ _ b
    · rw [h2 (by omega)]
/-- What is not whole is no character where nothing stands behind it. -/
theorem not_full {k b0 b1 b2 : Nat} (hk : 1 ≤ k) (h : fullB k b0 b1 b2 = false) (c1 c2 c3 : Nat) : Lib.decodeN k b0 c1 c2 c3 = (65533, 1) := by
  unfold fullB at h
  split at h
  · cases h
  · next a =>
    have a' : k < Lib.firstT b0 % 8 := by omega
    clear h a
    unfold Lib.decodeN
    unfold Lib.firstT at a'
    repeat' split at a'
    all_goals (first | omega | (rw [if_neg (by omega), if_neg (by omega), if_neg (by omega), if_neg (by omega)]))
theorem esc_take_ok {s : ByteArray} {c n : Int} {j : Nat} (h : EscV s (c, n, true)) (hj : n ≤ (j : Int)) (hs : j ≤ s.size) : EscV (s.extract 0 j) (c, n, true) := by
  have z := ext0_size s j hs
  rcases h with ⟨h1, hv⟩ | ⟨h1, d, hd, h2, hv⟩ | ⟨h1, h2, k, hk, hv⟩
  · cases hv
  · cases hv
    exact .inr (.inl ⟨by omega, c, hd, by rw [ext_by8 s j 1 (by omega)]; exact h2, rfl⟩)
  · have hn : n = 6 ∧ k = 4 := by
      unfold codedV at hv
      split at hv
      · cases hv
      · split at hv
        · cases hv
        · split at hv
          · cases hv
          · split at hv
            · cases hv
            · next a _ _ _ => cases hv; exact ⟨rfl, by have := hk.le4; omega⟩
    obtain ⟨rfl, rfl⟩ := hn
    refine .inr (.inr ⟨by omega, ?_, 4, ⟨by omega, by omega, fun i hi => by rw [ext_by8 s j i (by omega)]; exact hk.all i hi, fun h => absurd h (by omega)⟩, ?_⟩)
    · rw [ext_by8 s j 1 (by omega)]; exact h2
    · rw [hv]
      unfold codedV at hv
      split at hv
      · cases hv
      · split at hv
        · cases hv
        · split at hv
          · cases hv
          · split at hv
            · cases hv
            · next a b d e =>
              have e1 : codedV s 4 = (ixD (by8 s 4) * 16 + ixD (by8 s 5), 6, true) := by unfold codedV; rw [if_neg a, if_neg b, if_neg d, if_neg e]
              have e2 : codedV (s.extract 0 j) 4 = (ixD (by8 s 4) * 16 + ixD (by8 s 5), 6, true) := by
                unfold codedV
                rw [ext_by8 s j 4 (by omega), ext_by8 s j 5 (by omega), z, if_neg (show ¬ (4 < 4 ∨ 4 = j) by omega), if_neg b, if_neg (show ¬ j = 5 by omega), if_neg e]
              rw [e1, e2]
theorem esc_take_no {s : ByteArray} {c n : Int} {j : Nat} (h0 : by8 s 0 = 92) (hp : 0 < s.size) (h : EscV s (c, n, false)) (hj : n = (j : Int)) : EscV (s.extract 0 j) (c, n, false) := by
  rcases h with ⟨h1, hv⟩ | ⟨h1, d, hd, h2, hv⟩ | ⟨h1, h2, k, hk, hv⟩
  · cases hv
    have : j = s.size := by omega
    subst this
    exact .inl ⟨by rw [ext0_size s s.size (Nat.le_refl _)]; exact h1, by rw [ext0_size s s.size (Nat.le_refl _)]⟩
  · cases hv
  · have hk1 : 1 ≤ k := by
      rcases Nat.eq_zero_or_pos k with rfl | h
      · exact absurd h0 (hk.stop (by omega) (by omega))
      · exact h
    have l4 := hk.le4
    have l5 := hk.le
    have short : ∀ {m : Nat}, m = k → c = 0 → n = m → EscV (s.extract 0 j) (c, n, false) := by
      rintro m rfl rfl rfl
      have : j = m := by omega
      subst this
      have z := ext0_size s j l5
      by_cases h3 : j < 2
      · exact .inl ⟨by omega, by rw [z]⟩
      · refine .inr (.inr ⟨by omega, by rw [ext_by8 s j 1 (by omega)]; exact h2, j, ⟨l4, by omega, fun i hi => by rw [ext_by8 s j i hi]; exact hk.all i hi, fun _ h => absurd h (by omega)⟩, ?_⟩)
        unfold codedV
        rw [if_pos (.inr z.symm)]
    unfold codedV at hv
    split at hv
    · cases hv; exact short rfl rfl rfl
    · next a =>
      have k4 : k = 4 := by omega
      split at hv
      · cases hv; exact short k4.symm rfl rfl
      · next b =>
        have five : c = 0 → n = 5 → EscV (s.extract 0 j) (c, n, false) := by
          rintro rfl rfl
          have : j = 5 := by omega
          subst this
          have z := ext0_size s 5 (by omega)
          refine .inr (.inr ⟨by omega, by rw [ext_by8 s 5 1 (by omega)]; exact h2, 4, ⟨by omega, by omega, fun i hi => by rw [ext_by8 s 5 i (by omega)]; exact hk.all i (by omega), fun h => absurd h (by omega)⟩, ?_⟩)
          unfold codedV
          rw [z, ext_by8 s 5 4 (by omega), if_neg (by omega), if_neg b, if_pos rfl]
        split at hv
        · cases hv; exact five rfl rfl
        · split at hv
          · cases hv; exact five rfl rfl
          · cases hv
theorem decode_b0 {s : ByteArray} (h0 : 0 < s.size) (h : (Lib.decodeL s.data.toList).1 = 92) : by8 s 0 = 92 := by
  rw [Lib.decodeL_N] at h
  simp only [by8_data] at h
  unfold Lib.decodeN at h
  split at h
  · exact h
  · split at h
    · split at h <;> simp at h <;> omega
    · split at h
      · split at h <;> simp at h <;> omega
      · split at h
        · split at h <;> simp at h <;> omega
        · simp at h
theorem chr_take_ok {s : ByteArray} {c n : Int} {j : Nat} (h0 : 0 < s.size) (h : ChrV s (c, n, true)) (hj : n ≤ (j : Int)) (hs : j ≤ s.size) : ChrV (s.extract 0 j) (c, n, true) := by
  have hn := (chr_ok h0 h).2.2 rfl
  rcases h with ⟨h1, h2⟩ | ⟨h1, h2, k, hk, hv⟩ | ⟨h1, h2, h3, hv⟩ | ⟨h1, h2, h3, hv⟩
  · refine .inl ⟨?_, esc_take_ok h2 hj hs⟩
    rw [ext_take, decode_take (by omega) (by rw [decode_92 h1]; omega)]
    exact h1
  · cases hv
  · cases hv
  · have e : Lib.decodeL (s.extract 0 j).data.toList = Lib.decodeL s.data.toList := by
      rw [ext_take]
      exact decode_take h2 (by cases hv; omega)
    refine .inr (.inr (.inr ?_))
    rw [e]
    exact ⟨h1, h2, h3, hv⟩
theorem chr_take_no {s : ByteArray} {c n : Int} {j : Nat} (h0 : 0 < s.size) (h : ChrV s (c, n, false)) (hj : n = (j : Int)) (hpos : 0 < j) : ChrV (s.extract 0 j) (c, n, false) := by
  have hn := (chr_ok h0 h).2.1
  have z := ext0_size s j (by omega)
  rcases h with ⟨h1, h2⟩ | ⟨h1, h2, k, hk, hv⟩ | ⟨h1, h2, h3, hv⟩ | ⟨h1, h2, h3, hv⟩
  · refine .inl ⟨?_, esc_take_no (decode_b0 h0 h1) h0 h2 hj⟩
    rw [ext_take, decode_take (by omega) (by rw [decode_92 h1]; omega)]
    exact h1
  · cases hv
    have : j = k := by omega
    subst this
    have hf : ∀ i, i < j → fullAt (s.extract 0 j) (i + 1) = fullAt s (i + 1) := fun i hi => by
      unfold fullAt
      rw [ext_by8 s j 0 hpos]
      exact fullB_cut _ _ _ _ _ _ (fun h => ext_by8 s j 1 (by omega)) (fun h => ext_by8 s j 2 (by omega))
    have e : Lib.decodeL (s.extract 0 j).data.toList = (65533, 1) := by
      rw [Lib.decodeL_N]
      have hl : (s.extract 0 j).data.toList.length = j := by rw [Array.length_toList]; exact z
      rw [hl]
      simp only [by8_data]
      have := hk.no (j - 1) (by omega)
      rw [show j - 1 + 1 = j by omega] at this
      unfold fullAt at this
      rw [ext_by8 s j 0 hpos]
      exact not_full hpos this _ _ _
    refine .inr (.inl ?_)
    rw [e]
    exact ⟨rfl, rfl, j, ⟨by omega, fun i hi => by rw [hf i hi]; exact hk.no i hi, fun h => absurd h (by omega)⟩, rfl⟩
  · cases hv; omega
  · cases hv
theorem chrF_spec {x : ByteArray} (h : (chrF x).2.2 = true) : ChrV x (chrF x) := by
  unfold chrF at h ⊢
  by_cases hx : ∃ v, ChrV x v
  · rw [dif_pos hx]
    exact Classical.choose_spec hx
  · rw [dif_neg hx] at h
    cases h
theorem chrF_no {x : ByteArray} (h : (chrF x).2.2 = false) : ChrV x (chrF x) ∨ chrF x = (0, 0, false) := by
  unfold chrF at h ⊢
  by_cases hx : ∃ v, ChrV x v
  · rw [dif_pos hx]
    exact .inl (Classical.choose_spec hx)
  · rw [dif_neg hx]
    exact .inr rfl
theorem tail_cut (t : ByteArray) (i j : Nat) (hj : j ≤ t.size) : (t.extract 0 j).extract i (t.extract 0 j).size = (t.extract i t.size).extract 0 (j - i) := by
  have e : ∀ {a b : ByteArray}, a.data.toList = b.data.toList → a = b := by
    rintro ⟨⟨l⟩⟩ ⟨⟨m⟩⟩ h
    simp at h
    rw [h]
  apply e
  rw [Lib.ext_list, ext_take, ext_take, Lib.ext_list, List.drop_take]
/-- What is unquoted from a place on is so where less stands behind it. -/
theorem unqF_ok (t : ByteArray) (j : Nat) (hjt : j ≤ t.size) : ∀ (f i : Nat) (acc : List UInt8) (f' : Nat) (l : List UInt8) (n : Int), i ≤ t.size → t.size + 1 ≤ i + f → unqF t f i acc = (l, n, 0) → (i : Int) < n ∧ (n ≤ (j : Int) → j + 1 ≤ i + f' → unqF (t.extract 0 j) f' i acc = (l, n, 0))
  | 0, i, acc, f', l, n, h1, h2, h => by omega
  | f + 1, i, acc, f', l, n, h1, h2, h => by
    rw [unqF] at h
    split at h
    · next a =>
      split at h
      · next b =>
        have zx : (t.extract i t.size).size = t.size - i := Lib.ext_size t i
        have hc := chrF_spec b
        have hk := chr_ok (by omega) (show ChrV _ ((chrF (t.extract i t.size)).1, (chrF (t.extract i t.size)).2.1, (chrF (t.extract i t.size)).2.2) from hc)
        have hp := hk.2.2 b
        obtain ⟨r1, r2⟩ := unqF_ok t j hjt f _ _ (f' - 1) l n (by omega) (by omega) h
        refine ⟨by omega, fun h3 h4 => ?_⟩
        have r2 := r2 h3 (by omega)
        obtain ⟨g, rfl⟩ : ∃ g, f' = g + 1 := ⟨f' - 1, by omega⟩
        have zj := ext0_size t j hjt
        have hx : chrF ((t.extract 0 j).extract i (t.extract 0 j).size) = chrF (t.extract i t.size) := by
          rw [tail_cut t i j hjt]
          apply chrF_of
          have e3 : chrF (t.extract i t.size) = ((chrF (t.extract i t.size)).1, (chrF (t.extract i t.size)).2.1, true) := by rw [← b]
          rw [e3]
          exact chr_take_ok (by omega) (by rw [← e3]; exact hc) (by omega) (by omega)
        rw [unqF, if_pos ⟨by omega, by rw [ext_by8 t j i (by omega)]; exact a.2⟩, hx, if_pos b]
        exact r2
      · cases h
    · next a =>
      split at h
      · cases h
      · next b =>
        cases h
        have hi : i < t.size := by omega
        have h34 : by8 t i = 34 := by
          rcases Nat.decEq (by8 t i) 34 with h | h
          · exact absurd ⟨hi, h⟩ a
          · exact h
        refine ⟨by omega, fun h3 h4 => ?_⟩
        obtain ⟨g, rfl⟩ : ∃ g, f' = g + 1 := ⟨f' - 1, by omega⟩
        have zj := ext0_size t j hjt
        rw [unqF, if_neg (by rw [ext_by8 t j i (by omega)]; intro h; exact h.2 h34), if_neg (by omega)]
/-- A fault stands where it stands, where nothing stands behind it. -/
theorem unqF_no (t : ByteArray) (j : Nat) (hjt : j ≤ t.size) : ∀ (f i : Nat) (acc : List UInt8) (f' : Nat) (l : List UInt8) (n : Int), i ≤ t.size → t.size + 1 ≤ i + f → unqF t f i acc = (l, n, 31) → (i : Int) ≤ n ∧ n ≤ (t.size : Int) ∧ (n = (j : Int) → j + 1 ≤ i + f' → unqF (t.extract 0 j) f' i acc = ([], n, 31))
  | 0, i, acc, f', l, n, h1, h2, h => by omega
  | f + 1, i, acc, f', l, n, h1, h2, h => by
    have zj := ext0_size t j hjt
    rw [unqF] at h
    split at h
    · next a =>
      have zx : (t.extract i t.size).size = t.size - i := Lib.ext_size t i
      split at h
      · next b =>
        have hc := chrF_spec b
        have hk := chr_ok (by omega) (show ChrV _ ((chrF (t.extract i t.size)).1, (chrF (t.extract i t.size)).2.1, (chrF (t.extract i t.size)).2.2) from hc)
        have hp := hk.2.2 b
        obtain ⟨r1, r3, r2⟩ := unqF_no t j hjt f _ _ (f' - 1) l n (by omega) (by omega) h
        refine ⟨by omega, r3, fun h3 h4 => ?_⟩
        have r2 := r2 h3 (by omega)
        obtain ⟨g, rfl⟩ : ∃ g, f' = g + 1 := ⟨f' - 1, by omega⟩
        have hx : chrF ((t.extract 0 j).extract i (t.extract 0 j).size) = chrF (t.extract i t.size) := by
          rw [tail_cut t i j hjt]
          apply chrF_of
          have e3 : chrF (t.extract i t.size) = ((chrF (t.extract i t.size)).1, (chrF (t.extract i t.size)).2.1, true) := by rw [← b]
          rw [e3]
          exact chr_take_ok (by omega) (by rw [← e3]; exact hc) (by omega) (by omega)
        rw [unqF, if_pos ⟨by omega, by rw [ext_by8 t j i (by omega)]; exact a.2⟩, hx, if_pos b]
        exact r2
      · next b =>
        have b' : (chrF (t.extract i t.size)).2.2 = false := by simpa using b
        have hb : 0 ≤ (chrF (t.extract i t.size)).2.1 ∧ (chrF (t.extract i t.size)).2.1 ≤ ((t.extract i t.size).size : Int) := by
          rcases chrF_no b' with hc | hc
          · have := chr_ok (by omega) (show ChrV _ ((chrF (t.extract i t.size)).1, (chrF (t.extract i t.size)).2.1, (chrF (t.extract i t.size)).2.2) from hc)
            exact ⟨this.1, this.2.1⟩
          · rw [hc]; exact ⟨by simp, by simp⟩
        cases h
        refine ⟨by omega, by omega, fun h3 h4 => ?_⟩
        obtain ⟨g, rfl⟩ : ∃ g, f' = g + 1 := ⟨f' - 1, by omega⟩
        by_cases hz : (chrF (t.extract i t.size)).2.1 = 0
        · rw [unqF, if_neg (by omega), if_pos (by omega), hz]
          simp
        · have hx : chrF ((t.extract 0 j).extract i (t.extract 0 j).size) = chrF (t.extract i t.size) := by
            rw [tail_cut t i j hjt]
            rcases chrF_no b' with hc | hc
            · apply chrF_of
              have e3 : chrF (t.extract i t.size) = ((chrF (t.extract i t.size)).1, (chrF (t.extract i t.size)).2.1, false) := by rw [← b']
              rw [e3]
              exact chr_take_no (by omega) (by rw [← e3]; exact hc) (by omega) (by omega)
            · rw [hc] at hz; exact absurd rfl hz
          rw [unqF, if_pos ⟨by omega, by rw [ext_by8 t j i (by omega)]; exact a.2⟩, hx, if_neg b]
    · next a =>
      split at h
      · next b =>
        cases h
        refine ⟨by omega, by omega, fun h3 h4 => ?_⟩
        obtain ⟨g, rfl⟩ : ∃ g, f' = g + 1 := ⟨f' - 1, by omega⟩
        rw [unqF, if_neg (by omega), if_pos (by omega)]
      · cases h
theorem unqA_ok {t : ByteArray} {j : Nat} {l : List UInt8} {n : Int} (h : unqA t = (l, n, 0)) (hj : n ≤ (j : Int)) (hjt : j ≤ t.size) : unqA (t.extract 0 j) = (l, n, 0) := by
  unfold unqA at h
  split at h
  · cases h
  · next a =>
    simp only [not_or] at a
    have h34 : by8 t 0 = 34 := by simpa using a.2
    obtain ⟨r1, r2⟩ := unqF_ok t j hjt t.size 1 [] j l n (by omega) (by omega) h
    have zj := ext0_size t j hjt
    unfold unqA
    rw [if_neg (by rw [ext_by8 t j 0 (by omega)]; omega), zj]
    exact r2 hj (by omega)
theorem unqA_no {t : ByteArray} {l : List UInt8} {n : Int} (h0 : 0 < t.size) (h34 : by8 t 0 = 34) (h : unqA t = (l, n, 31)) : 1 ≤ n ∧ n ≤ (t.size : Int) ∧ unqA (t.extract 0 n.toNat) = ([], n, 31) := by
  unfold unqA at h
  rw [if_neg (by omega)] at h
  have r0 := unqF_no t t.size (Nat.le_refl _) t.size 1 [] 0 l n (by omega) (by omega) h
  obtain ⟨r1, r3, r2⟩ := unqF_no t n.toNat (by omega) t.size 1 [] n.toNat l n (by omega) (by omega) h
  have zj := ext0_size t n.toNat (by omega)
  refine ⟨by omega, by omega, ?_⟩
  unfold unqA
  rw [if_neg (by rw [ext_by8 t n.toNat 0 (by omega)]; omega), zj]
  exact r2 (by omega) (by omega)
end Go.Proofs.YtepkanibcljdkaaDoor.Q.X

namespace Go.Proofs.YtepkanibcljdkaaDoor
open Go.RowKit
set_option linter.unusedVariables false
set_option linter.unusedSimpArgs false

theorem cut_by8 (s : ByteArray) (m j : Nat) (hj : j < m) : K.V.by8 (s.extract 0 m) j = K.V.by8 s j := by
  unfold K.V.by8
  have e : (s.extract 0 m).data.toList = s.data.toList.take m := by simp [ByteArray.data_extract]
  rw [e, List.getD_eq_getElem?_getD, List.getD_eq_getElem?_getD, List.getElem?_take, if_pos hj]
theorem cut_size (s : ByteArray) (m : Nat) (h : m ≤ s.size) : (s.extract 0 m).size = m := by rw [ByteArray.size_extract]; omega
theorem cut_tail (t : ByteArray) (i j : Nat) (hj : j ≤ t.size) : (t.extract 0 j).extract i (t.extract 0 j).size = (t.extract i t.size).extract 0 (j - i) := by
  have e : ∀ m, (t.extract 0 m).data.toList = t.data.toList.take m := fun m => by simp [ByteArray.data_extract]
  have e' : ∀ (u : ByteArray) m, (u.extract 0 m).data.toList = u.data.toList.take m := fun u m => by simp [ByteArray.data_extract]
  apply ba_ext
  rw [Lib.ext_list, e, e', Lib.ext_list, List.drop_take]
theorem numP_lo (s : ByteArray) (k0 f k n : Nat) : k ≤ (numP s k0 f k n).2.1 := (numP_le s k0 f k n).1
/-- A number that is read stays what it is where less stands behind it. -/
theorem num_cut (s : ByteArray) (k0 m : Nat) (hm : m ≤ s.size) : ∀ (f k n a p : Nat), k0 ≤ k → k + f = s.size → numP s k0 f k n = (a, p, true) → p ≤ m → numP (s.extract 0 m) k0 (m - k) k n = (a, p, true)
  | 0, k, n, a, p, h0, h1, h, hp => by
    have hl := numP_lo s k0 0 k n
    rw [h] at hl
    simp only [] at hl
    rw [show m - k = 0 by omega]
    unfold numP at h ⊢
    exact h
  | f + 1, k, n, a, p, h0, h1, h, hp => by
    have hl := numP_lo s k0 (f + 1) k n
    rw [h] at hl
    simp only [] at hl
    cases hd : dgC (K.V.by8 s k) with
    | true =>
      by_cases hb : 2147483647 < n * 10 + (K.V.by8 s k - 48) ∨ (k0 < k ∧ K.V.by8 s k0 = 48)
      · rw [numP_bad hd hb] at h; cases h
      · rw [numP_go hd hb] at h
        have hl := numP_lo s k0 f (k + 1) (n * 10 + (K.V.by8 s k - 48))
        rw [h] at hl
        simp only [] at hl
        have ih := num_cut s k0 m hm f (k + 1) _ a p (by omega) (by omega) h hp
        rw [show m - k = m - (k + 1) + 1 by omega, numP_go (by rw [cut_by8 s m k (by omega)]; exact hd) (by rw [cut_by8 s m k (by omega), cut_by8 s m k0 (by omega)]; exact hb), cut_by8 s m k (by omega)]
        exact ih
    | false =>
      rw [numP_end (.inr hd)] at h
      split at h
      · cases h
      · next hne =>
        cases h
        by_cases hmk : m = k
        · rw [numP_end (.inl (by omega)), if_neg hne]
        · rw [numP_end (.inr (by rw [cut_by8 s m k (by omega)]; exact hd)), if_neg hne]
/-- Where a number's fault stands, what stands ahead of it is a number, if it is something. -/
theorem num_fault (s : ByteArray) (k0 : Nat) : ∀ (f k n a p : Nat), k0 ≤ k → k + f = s.size → numP s k0 f k n = (a, p, false) → p ≤ s.size ∧ ∃ x, numP (s.extract 0 p) k0 (p - k) k n = (x, p, decide (p ≠ k0))
  | 0, k, n, a, p, h0, h1, h => by
    unfold numP at h
    split at h
    · next e =>
      cases h
      refine ⟨by omega, 0, ?_⟩
      rw [Nat.sub_self]
      unfold numP
      rw [if_pos e]
      simp [e]
    · cases h
  | f + 1, k, n, a, p, h0, h1, h => by
    cases hd : dgC (K.V.by8 s k) with
    | true =>
      by_cases hb : 2147483647 < n * 10 + (K.V.by8 s k - 48) ∨ (k0 < k ∧ K.V.by8 s k0 = 48)
      · rw [numP_bad hd hb] at h
        cases h
        refine ⟨by omega, ?_⟩
        rw [Nat.sub_self]
        unfold numP
        by_cases e : k = k0
        · exact ⟨0, by rw [if_pos e]; simp [e]⟩
        · exact ⟨n, by rw [if_neg e]; simp [e]⟩
      · rw [numP_go hd hb] at h
        have hl := numP_lo s k0 f (k + 1) (n * 10 + (K.V.by8 s k - 48))
        rw [h] at hl
        simp only [] at hl
        obtain ⟨hps, x, ih⟩ := num_fault s k0 f (k + 1) _ a p (by omega) (by omega) h
        refine ⟨hps, x, ?_⟩
        rw [show p - k = p - (k + 1) + 1 by omega, numP_go (by rw [cut_by8 s p k (by omega)]; exact hd) (by rw [cut_by8 s p k (by omega), cut_by8 s p k0 (by omega)]; exact hb), cut_by8 s p k (by omega)]
        exact ih
    | false =>
      rw [numP_end (.inr hd)] at h
      split at h
      · next e =>
        cases h
        refine ⟨by omega, 0, ?_⟩
        rw [Nat.sub_self]
        unfold numP
        rw [if_pos e]
        simp [e]
      · cases h
theorem ix_cut (s : ByteArray) (k0 m a p : Nat) (hm : m ≤ s.size) (hk : k0 ≤ s.size) (h : ixP s k0 = (a, p, true)) (hp : p ≤ m) : ixP (s.extract 0 m) k0 = (a, p, true) := by
  have z := cut_size s m hm
  unfold ixP at h
  generalize hN : numP s k0 (s.size - k0) k0 0 = N at h
  obtain ⟨x, q, ok⟩ := N
  simp only [] at h
  split at h
  · cases h
  · next h1 =>
    have hok : ok = true := by simpa using h1
    subst hok
    split at h
    · cases h
    · next h2 =>
      simp only [not_or] at h2
      cases h
      have e := num_cut s k0 m hm (s.size - k0) k0 0 a q (Nat.le_refl _) (by omega) hN (by omega)
      unfold ixP
      rw [z, e]
      simp only [Bool.true_eq_false, if_false]
      rw [if_neg]
      rw [cut_by8 s m q (by omega)]
      rintro (h | h)
      · omega
      · exact h2.2 h
theorem ix_fault (s : ByteArray) (k0 a p : Nat) (hk : k0 ≤ s.size) (h : ixP s k0 = (a, p, false)) : p ≤ s.size ∧ ixP (s.extract 0 p) k0 = (0, p, false) := by
  have hle := numP_le s k0 (s.size - k0) k0 0
  unfold ixP at h
  generalize hN : numP s k0 (s.size - k0) k0 0 = N at h
  rw [hN] at hle
  obtain ⟨x, q, ok⟩ := N
  simp only [] at h hle
  have hq : p = q ∧ q ≤ s.size := by
    split at h
    · cases h; exact ⟨rfl, by omega⟩
    · split at h
      · cases h; exact ⟨rfl, by omega⟩
      · cases h
  obtain ⟨rfl, hps⟩ := hq
  refine ⟨hps, ?_⟩
  have z := cut_size s p hps
  unfold ixP
  rw [z]
  cases ok with
  | true =>
    have e := num_cut s k0 p hps (s.size - k0) k0 0 x p (Nat.le_refl _) (by omega) hN (Nat.le_refl _)
    rw [e]
    simp
  | false =>
    obtain ⟨_, y, e⟩ := num_fault s k0 (s.size - k0) k0 0 x p (Nat.le_refl _) (by omega) hN
    rw [e]
    simp only []
    split
    · rfl
    · simp
theorem pl_cut (t : ByteArray) (j : Nat) : plN (t.extract 0 j) = min j (plN t) := by
  have e : (t.extract 0 j).data.toList = t.data.toList.take j := by simp [ByteArray.data_extract]
  unfold plN
  rw [e]
  clear e
  generalize t.data.toList = l
  induction l generalizing j with
  | nil => simp
  | cons a l ih =>
    cases j with
    | zero => simp
    | succ j =>
      rw [List.take_succ_cons, List.takeWhile_cons, List.takeWhile_cons]
      split
      · rw [List.length_cons, List.length_cons, ih]; omega
      · simp
theorem ky_none (u : ByteArray) (k0 : Nat) (h : k0 = u.size) : kyP u k0 = (⟨#[]⟩, k0, false) := by
  have hp := plN_le (u.extract k0 u.size)
  have zt : (u.extract k0 u.size).size = u.size - k0 := Lib.ext_size u k0
  unfold kyP
  rw [if_neg (by omega), if_pos (by omega)]
theorem ky_cut (s : ByteArray) (k0 m p : Nat) (a : ByteArray) (hm : m ≤ s.size) (hk : k0 ≤ s.size) (hU : Q.UB (s.extract k0 s.size)) (h : kyP s k0 = (a, p, true)) (hp : p ≤ m) : kyP (s.extract 0 m) k0 = (a, p, true) := by
  have z := cut_size s m hm
  have zt : (s.extract k0 s.size).size = s.size - k0 := Lib.ext_size s k0
  have tc := cut_tail s k0 m hm
  unfold kyP at h
  split at h
  · next hq =>
    unfold quP at h
    split at h
    · cases h
    · next h1 =>
      have h1' : (Q.unqA (s.extract k0 s.size)).2.2 = 0 := by simpa using h1
      split at h
      · cases h
      · next h2 =>
        cases h
        have hn := hU.2.2.1 h1'
        have e3 : Q.unqA (s.extract k0 s.size) = ((Q.unqA (s.extract k0 s.size)).1, (Q.unqA (s.extract k0 s.size)).2.1, 0) := by rw [← h1']
        have hc := Q.X.unqA_ok (j := m - k0) e3 (by omega) (by omega)
        rw [← e3] at hc
        unfold kyP
        rw [if_pos ⟨by omega, by rw [cut_by8 s m k0 (by omega)]; exact hq.2⟩]
        unfold quP
        rw [tc, hc, if_neg h1, if_neg h2]
  · next hq =>
    split at h
    · cases h
    · next h1 =>
      split at h
      · cases h
      · next h2 =>
        cases h
        have hpc := pl_cut (s.extract k0 s.size) (m - k0)
        have hpe : plN ((s.extract k0 s.size).extract 0 (m - k0)) = plN (s.extract k0 s.size) := by rw [hpc]; omega
        unfold kyP
        rw [if_neg (by rw [cut_by8 s m k0 (by omega)]; rintro ⟨_, b⟩; exact hq ⟨by omega, b⟩), tc, hpe, if_neg h1, if_neg h2]
        congr 1
        apply ba_ext
        have hz : s.data.toList.length = s.size := Array.length_toList
        simp [List.take_take, List.drop_take]
        omega
theorem ky_fault (s : ByteArray) (k0 p : Nat) (a : ByteArray) (hk : k0 ≤ s.size) (hU : Q.UB (s.extract k0 s.size)) (h : kyP s k0 = (a, p, false)) : p ≤ s.size ∧ ∃ y ok, kyP (s.extract 0 p) k0 = (y, p, ok) := by
  have zt : (s.extract k0 s.size).size = s.size - k0 := Lib.ext_size s k0
  have here : p = k0 → p ≤ s.size ∧ ∃ y ok, kyP (s.extract 0 p) k0 = (y, p, ok) := by
    rintro rfl
    exact ⟨hk, _, _, ky_none _ _ (cut_size s p hk).symm⟩
  unfold kyP at h
  split at h
  · next hq =>
    have e0 : K.V.by8 (s.extract k0 s.size) 0 = 34 := by rw [by8_ext]; exact hq.2
    unfold quP at h
    split at h
    · next h1 =>
      have h31 : (Q.unqA (s.extract k0 s.size)).2.2 = 31 := by
        rcases hU.2.2.2.1 with h | h
        · exact absurd h h1
        · exact h
      have e3 : Q.unqA (s.extract k0 s.size) = ((Q.unqA (s.extract k0 s.size)).1, (Q.unqA (s.extract k0 s.size)).2.1, 31) := by rw [← h31]
      obtain ⟨n1, n2, hc⟩ := Q.X.unqA_no (by omega) e0 e3
      generalize (Q.unqA (s.extract k0 s.size)).2.1 = n at *
      cases h
      have z := cut_size s (k0 + n.toNat) (by omega)
      have tc := cut_tail s k0 (k0 + n.toNat) (by omega)
      refine ⟨by omega, ⟨#[]⟩, false, ?_⟩
      unfold kyP
      rw [if_pos ⟨by omega, by rw [cut_by8 s _ k0 (by omega)]; exact hq.2⟩]
      unfold quP
      rw [tc, Nat.add_sub_cancel_left, hc, if_pos (show (([], n, 31) : List UInt8 × Int × Int).2.2 ≠ 0 by simp)]
    · split at h
      · cases h; exact here rfl
      · cases h
  · next hq =>
    split at h
    · cases h; exact here rfl
    · next h1 =>
      split at h
      · next h2 =>
        cases h
        have hp := plN_le (s.extract k0 s.size)
        have z := cut_size s (k0 + 64) (by omega)
        have tc := cut_tail s k0 (k0 + 64) (by omega)
        have hpc := pl_cut (s.extract k0 s.size) 64
        have hpe : plN ((s.extract k0 s.size).extract 0 64) = 64 := by rw [hpc]; omega
        refine ⟨by omega, (s.extract 0 (k0 + 64)).extract k0 (k0 + 64), true, ?_⟩
        unfold kyP
        rw [if_neg (by rw [cut_by8 s _ k0 (by omega)]; rintro ⟨_, b⟩; exact hq ⟨by omega, b⟩), tc, Nat.add_sub_cancel_left, hpe, if_neg (by decide), if_neg (by decide)]
      · cases h
theorem st_le (s : ByteArray) (k : Nat) (hk : k < s.size) (hU : Q.UB (s.extract (k + 1) s.size)) : k ≤ (stP s k).2.1 ∧ (stP s k).2.1 ≤ s.size ∧ ((stP s k).2.2 = true → k < (stP s k).2.1) := by
  have h1 := kyP_le s (k + 1) (by omega) hU
  have h2 := ixP_le s (k + 1) (by omega)
  have h3 := nuP_le s (k + 1) (by omega)
  unfold stP
  split
  · simp only []; omega
  · split
    · simp only []; omega
    · split
      · simp only []; omega
      · simp only []; exact ⟨by omega, by omega, fun h => by cases h⟩
/-- A step that is read stays what it is where less stands behind it. -/
theorem st_cut (s : ByteArray) (k m : Nat) (hk : k < s.size) (hm : m ≤ s.size) (hU : Q.UB (s.extract (k + 1) s.size)) (h : (stP s k).2.2 = true) (hp : (stP s k).2.1 ≤ m) : stP (s.extract 0 m) k = stP s k := by
  have hlt := (st_le s k hk hU).2.2 h
  have z := cut_size s m hm
  have eb := cut_by8 s m k (by omega)
  unfold stP at h hp hlt ⊢
  rw [eb]
  split
  · next h1 =>
    rw [if_pos h1] at h hp hlt
    generalize hK : kyP s (k + 1) = N at h hp hlt ⊢
    obtain ⟨a, p, ok⟩ := N
    simp only [] at h hp hlt
    subst h
    rw [ky_cut s (k + 1) m p a hm (by omega) hU hK hp]
  · next h1 =>
    rw [if_neg h1] at h hp hlt
    split
    · next h2 =>
      rw [if_pos h2] at h hp hlt
      generalize hK : ixP s (k + 1) = N at h hp hlt ⊢
      obtain ⟨a, p, ok⟩ := N
      simp only [] at h hp hlt
      subst h
      rw [ix_cut s (k + 1) m a p hm (by omega) hK hp]
    · next h2 =>
      rw [if_neg h2] at h hp hlt
      split
      · next h3 =>
        rw [if_pos h3] at h hp hlt
        generalize hK : numP s (k + 1) (s.size - (k + 1)) (k + 1) 0 = N at h hp hlt ⊢
        obtain ⟨a, p, ok⟩ := N
        simp only [] at h hp hlt
        subst h
        rw [z, num_cut s (k + 1) m hm (s.size - (k + 1)) (k + 1) 0 a p (Nat.le_refl _) (by omega) hK hp]
      · next h3 => rw [if_neg h3] at h
/-- Cut where its fault stands a step is read to its end, or its fault is its end. -/
theorem st_fault (s : ByteArray) (k : Nat) (hk : k < s.size) (hU : Q.UB (s.extract (k + 1) s.size)) (h : (stP s k).2.2 = false) (hlt : k < (stP s k).2.1) : (stP (s.extract 0 (stP s k).2.1) k).2.1 = (stP s k).2.1 := by
  have hle := (st_le s k hk hU).2.1
  have z := cut_size s _ hle
  have eb := cut_by8 s (stP s k).2.1 k hlt
  generalize hP : (stP s k).2.1 = p at *
  unfold stP at h hP ⊢
  rw [eb]
  split
  · next h1 =>
    rw [if_pos h1] at h hP
    generalize hK : kyP s (k + 1) = N at h hP
    obtain ⟨a, q, ok⟩ := N
    simp only [] at h hP
    subst h hP
    obtain ⟨_, y, ok, e⟩ := ky_fault s (k + 1) q a (by omega) hU hK
    rw [e]
  · next h1 =>
    rw [if_neg h1] at h hP
    split
    · next h2 =>
      rw [if_pos h2] at h hP
      generalize hK : ixP s (k + 1) = N at h hP
      obtain ⟨a, q, ok⟩ := N
      simp only [] at h hP
      subst h hP
      rw [(ix_fault s (k + 1) a q (by omega) hK).2]
    · next h2 =>
      rw [if_neg h2] at h hP
      split
      · next h3 =>
        rw [if_pos h3] at h hP
        generalize hK : numP s (k + 1) (s.size - (k + 1)) (k + 1) 0 = N at h hP
        obtain ⟨a, q, ok⟩ := N
        simp only [] at h hP
        subst h hP
        obtain ⟨_, x, e⟩ := num_fault s (k + 1) (s.size - (k + 1)) (k + 1) 0 a q (Nat.le_refl _) (by omega) hK
        rw [z, e]
      · next h3 =>
        rw [if_neg h3] at hP
        simp only [] at hP
        omega
/-- Up to the fault's place a text goes on as some way does. -/
theorem front_go (s : ByteArray) (hs : s.size ≤ 5000) (hU : ∀ t : ByteArray, t.size ≤ 5000 → Q.UB t) (p : Nat) : ∀ (f k : Nat) (acc : List St) (f' : Nat) (L : List St), k ≤ s.size → rP s f k acc = (L, p, false) →
    k ≤ p ∧ p ≤ s.size ∧ (k < p → p + 1 ≤ k + f' → (∃ M q, rP (s.extract 0 p) f' k acc = (M, q, true)) ∨ rP (s.extract 0 p) f' k acc = ([], p, false))
  | 0, k, acc, f', L, hk, h => by
    unfold rP at h
    cases h
    exact ⟨Nat.le_refl _, hk, fun h => absurd h (by omega)⟩
  | f + 1, k, acc, f', L, hk, h => by
    rw [rP] at h
    split at h
    · cases h
      exact ⟨Nat.le_refl _, hk, fun h => absurd h (by omega)⟩
    · next h1 =>
      simp only [not_or] at h1
      have hks : k < s.size := by omega
      have hu := hU (s.extract (k + 1) s.size) (by rw [Lib.ext_size]; omega)
      have hle := st_le s k hks hu
      split at h
      · next h2 =>
        cases h
        refine ⟨hle.1, hle.2.1, fun h3 h4 => ?_⟩
        have z := cut_size s _ hle.2.1
        have e := st_fault s k hks hu h2 h3
        obtain ⟨g, rfl⟩ : ∃ g, f' = g + 1 := ⟨f' - 1, by omega⟩
        rw [rP, if_neg (by rintro (h | h); omega; exact h1.2 h)]
        split
        · right; rw [e]
        · rw [if_neg (by omega)]
          exact .inl ⟨_, _, rfl⟩
      · next h2 =>
        have h2' : (stP s k).2.2 = true := by simpa using h2
        split at h
        · next h3 =>
          obtain ⟨r1, r2, r3⟩ := front_go s hs hU p f _ _ (f' - 1) L (by omega) h
          have hlt := hle.2.2 h2'
          refine ⟨by omega, r2, fun h4 h5 => ?_⟩
          have z := cut_size s p r2
          have e := st_cut s k p hks r2 hu h2' r1
          obtain ⟨g, rfl⟩ : ∃ g, f' = g + 1 := ⟨f' - 1, by omega⟩
          rw [rP, if_neg (by rintro (h | h); omega; exact h1.2 h), e, if_neg h2]
          split
          · next h6 => exact r3 (by omega) (by omega)
          · exact .inl ⟨_, _, rfl⟩
        · cases h
end Go.Proofs.YtepkanibcljdkaaDoor

namespace Go.Proofs.YtepkanibcljdkaaDoor
open Go.RowKit
set_option linter.unusedVariables false
set_option linter.unusedSimpArgs false

/-- Cut at its fault's place a text is a way, or its fault is its end. -/
theorem paF_front (s : ByteArray) (hU : ∀ t : ByteArray, t.size ≤ 5000 → Q.UB t) (h : (paF s).2.1 = 130) :
    (paF s).2.2 ≤ s.size ∧ ((paF (s.extract 0 (paF s).2.2)).2.1 = 0 ∨ ((paF (s.extract 0 (paF s).2.2)).2.1 = 130 ∧ (paF (s.extract 0 (paF s).2.2)).2.2 = (paF s).2.2)) := by
  by_cases h5 : 5000 < s.size
  · rw [paF_long h5] at h
    simp at h
  · cases h47 : (s.toList == [47]) with
    | true => rw [paF_root (by omega) h47] at h; simp at h
    | false =>
      have e := paF_go (by omega) h47
      generalize hR : rP s (s.size + 1) 0 [] = R at e
      obtain ⟨L, p, ok⟩ := R
      cases ok with
      | true => rw [e] at h; simp [cvP] at h
      | false =>
        have e2 : (paF s).2.2 = p := by rw [e]; rfl
        rw [e2]
        obtain ⟨_, hp, hf⟩ := front_go s (by omega) hU p (s.size + 1) 0 [] (p + 1) L (Nat.zero_le _) hR
        refine ⟨hp, ?_⟩
        have z := cut_size s p hp
        generalize s.extract 0 p = u at *
        cases u47 : (u.toList == [47]) with
        | true => rw [paF_root (by omega) u47]; exact .inl rfl
        | false =>
          rw [paF_go (by omega) u47, z]
          rcases Nat.eq_zero_or_pos p with h0 | h0
          · right
            subst h0
            rw [rP, if_pos (.inl z.symm)]
            exact ⟨rfl, rfl⟩
          · rcases hf h0 (by omega) with ⟨M, q, h1⟩ | h1
            · rw [h1]; exact .inl rfl
            · rw [h1]; exact .inr ⟨rfl, rfl⟩
theorem paF_none : paF ⟨#[]⟩ = ([], 130, 0) := by
  rw [paF_go (by decide) (by rw [ByteArray.toList_eq]; rfl)]
  rw [rP, if_pos (.inl rfl)]
  rfl
theorem paF_code (s : ByteArray) : (paF s).2.1 = 0 ∨ (paF s).2.1 = 6 ∨ (paF s).2.1 = 130 := by
  unfold paF
  split
  · exact .inr (.inl rfl)
  · split
    · exact .inl rfl
    · unfold cvP
      split
      · exact .inl rfl
      · exact .inr (.inr rfl)
set_option maxRecDepth 100000 in
set_option maxHeartbeats 1000000 in
theorem front_all (s : ByteArray) (w : World) (hT : K.V.Tabs w) (a0 a1 a2 : Addr) (hE : Snt w a0 a1 a2) (hU : ∀ t : ByteArray, t.size ≤ 5000 → Q.UB t) :
    Calls Tryd.prog 7 #[.string s] w fun e w' => e = .returned (.bool true) ∧ Below w.heap.size w w' := by
  have H1 := Hid.mk' (parse_any s w hT a0 a1 a2 hE)
  have HP : Hid (∀ (t : ByteArray) (w1 : World), Below w.heap.size w w1 → Calls Tryd.prog 14 #[.string t] w1 fun e w' => ∃ v, e = .returned (.tuple #[v, .int .i64 (paF t).2.1, .int .i64 ((paF t).2.2 : Int)]) ∧ Below w.heap.size w w') := fun t w1 h =>
    (parse_any t w1 (hT.below h) a0 a1 a2 (hE.below h)).mono fun e w' ⟨v, k1, _, k3⟩ => ⟨v, k1, h.trans (k3.mono h.size)⟩
  have HF := Hid.mk' (paF_front s hU)
  have HC := Hid.mk' (paF_code s)
  generalize hA : paF s = A at *
  obtain ⟨L, c, k⟩ := A
  simp only [] at H1 HF HC
  clear hT hE hU hA
  by_cases hc : c = 130
  · subst hc
    obtain ⟨hk, hf⟩ := HF.out rfl
    have h1 : ¬ ((k : Int) < 0) := by omega
    have h2 : ¬ ((s.size : Int) < (k : Int)) := by omega
    have SL := sl_to s k hk
    have H2 := Hid.mk' (fun w1 h => HP.out (s.extract 0 k) w1 h)
    generalize s.extract 0 k = u at *
    generalize paF u = B at *
    obtain ⟨M, d, j⟩ := B
    simp only [] at H2 hf
    clear HF HC HP hk
    go_enter Tryd.func7, Tryd.ntmps7
    go_wp2_with fail
    refine H1.out.mono ?_
    rintro e w1 ⟨v, rfl, _, b1⟩
    have B1 := Hid.mk' b1
    clear H1 b1
    go_wp2_with fail
    refine (H2.out w1 B1.out).mono ?_
    rintro e w2 ⟨v2, rfl, b2⟩
    have B2 := Hid.mk' b2
    clear H2 b2 B1
    rcases hf with rfl | ⟨rfl, rfl⟩
    · go_wp2
      go_ret
      exact ⟨by simp, B2.out⟩
    · go_wp2
      go_ret
      exact ⟨by simp, B2.out⟩
  · have hc' : (c == 130) = false := beq_eq_false_iff_ne.2 hc
    have H2 := Hid.mk' (fun w1 h => HP.out ⟨#[]⟩ w1 h)
    rw [paF_none] at H2
    clear HF HP HC
    go_enter Tryd.func7, Tryd.ntmps7
    go_wp2_with fail
    refine H1.out.mono ?_
    rintro e w1 ⟨v, rfl, _, b1⟩
    have B1 := Hid.mk' b1
    clear H1 b1
    go_wp2_with fail
    refine (H2.out w1 B1.out).mono ?_
    rintro e w2 ⟨v2, rfl, b2⟩
    have B2 := Hid.mk' b2
    clear H2 b2 B1
    go_wp2
    go_ret
    exact ⟨by simp, B2.out⟩
end Go.Proofs.YtepkanibcljdkaaDoor

