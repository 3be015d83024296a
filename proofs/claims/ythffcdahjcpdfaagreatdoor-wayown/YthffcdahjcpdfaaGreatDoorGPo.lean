import Derived.Test.YthffcdahjcpdfaaGreatDoorPm
import Derived.Test.YthffcdahjcpdfaaGreatDoorPn
import Derived.Test.YthffcdahjcpdfaaGreatDoorGZc
import Derived.Lib.AppendZeros
namespace Go.Proofs.YthffcdahjcpdfaaGreatDoor
open Go.RowKit
set_option linter.unusedVariables false
set_option linter.unusedSimpArgs false

theorem by8_ext (s : ByteArray) (k j : Nat) : K.V.by8 (s.extract k s.size) j = K.V.by8 s (k + j) := by
  unfold K.V.by8
  rw [Lib.ext_list, List.getD_eq_getElem?_getD, List.getD_eq_getElem?_getD, List.getElem?_drop]
theorem ba_ext {a b : ByteArray} (h : a.data.toList = b.data.toList) : a = b := by
  obtain ⟨⟨l⟩⟩ := a
  obtain ⟨⟨m⟩⟩ := b
  simp at h
  rw [h]
theorem ext_ext (s : ByteArray) (k j : Nat) : (s.extract k s.size).extract j (s.extract k s.size).size = s.extract (k + j) s.size := by
  apply ba_ext
  rw [Lib.ext_list, Lib.ext_list, Lib.ext_list, List.drop_drop]
/-- A number read at a place is the one read at the front of what is behind it. -/
theorem num_shift (s : ByteArray) (k0 : Nat) : ∀ (f j n : Nat), numP s k0 f (k0 + j) n = ((numP (s.extract k0 s.size) 0 f j n).1, k0 + (numP (s.extract k0 s.size) 0 f j n).2.1, (numP (s.extract k0 s.size) 0 f j n).2.2)
  | 0, j, n => by
    unfold numP
    by_cases h : j = 0
    · rw [if_pos (by omega), if_pos h]
    · rw [if_neg (by omega), if_neg h]
  | f + 1, j, n => by
    have e0 : K.V.by8 (s.extract k0 s.size) 0 = K.V.by8 s k0 := by rw [by8_ext]; rfl
    rw [numP, numP, by8_ext, e0]
    by_cases h : dgC (K.V.by8 s (k0 + j)) = true
    · rw [if_pos h, if_pos h]
      by_cases h2 : 2147483647 < n * 10 + (K.V.by8 s (k0 + j) - 48) ∨ (0 < j ∧ K.V.by8 s k0 = 48)
      · rw [if_pos h2, if_pos (by rcases h2 with h2 | h2; exact .inl h2; exact .inr ⟨by omega, h2.2⟩)]
      · rw [if_neg h2, if_neg (by rintro (h3 | h3); exact h2 (.inl h3); exact h2 (.inr ⟨by omega, h3.2⟩))]
        exact num_shift s k0 f (j + 1) _
    · rw [if_neg h, if_neg h]
      by_cases h3 : j = 0
      · rw [if_pos (by omega), if_pos h3]
      · rw [if_neg (by omega), if_neg h3]
/-- How the two read a number: alike, but where a 0 stands ahead of a digit. -/
theorem num_both (s : ByteArray) (k0 : Nat) (hk : k0 ≤ s.size) :
    numP s k0 (s.size - k0) k0 0 = ((nuT (s.extract k0 s.size)).1, k0 + (nuT (s.extract k0 s.size)).2.1, (nuT (s.extract k0 s.size)).2.2) ∨
    (numP s k0 (s.size - k0) k0 0 = (0, k0 + 1, false) ∧ nuT (s.extract k0 s.size) = (0, 1, true) ∧ k0 + 1 < s.size ∧ dgC (K.V.by8 s (k0 + 1)) = true) := by
  have zt : (s.extract k0 s.size).size = s.size - k0 := Lib.ext_size s k0
  have e := num_shift s k0 (s.size - k0) 0 0
  rw [Nat.add_zero] at e
  have e1 := by8_ext s k0 1
  generalize hN : numP s k0 (s.size - k0) k0 0 = N at *
  generalize s.extract k0 s.size = t at *
  rw [← zt] at e
  unfold nuT
  by_cases h0 : t.size = 0
  · rw [if_pos (.inl h0), e, h0]
    left
    simp [numP]
  · obtain ⟨m, hm⟩ : ∃ m, t.size = m + 1 := ⟨t.size - 1, by omega⟩
    by_cases hd : dgC (K.V.by8 t 0) = true
    · rw [if_neg (by rintro (h | h); exact h0 h; rw [hd] at h; cases h)]
      by_cases h48 : K.V.by8 t 0 = 48
      · rw [if_pos h48]
        rw [e, hm, numP_go hd (by rw [h48]; rintro (h | h); omega; omega)]
        rw [h48]
        cases m with
        | zero => left; simp [numP]
        | succ m =>
          by_cases hd1 : dgC (K.V.by8 t 1) = true
          · right
            rw [numP_bad hd1 (.inr ⟨by omega, h48⟩)]
            exact ⟨rfl, rfl, by omega, by rw [← e1]; exact hd1⟩
          · left
            rw [numP_end (.inr (by simpa using hd1))]
            simp
      · rw [if_neg h48]
        left
        exact e
    · have hd' : dgC (K.V.by8 t 0) = false := by simpa using hd
      rw [if_pos (.inr hd'), e, numP_end (.inr hd')]
      left
      simp
theorem ky_both (s : ByteArray) (k0 : Nat) (hk : k0 ≤ s.size) : kyP s k0 = ((kyT (s.extract k0 s.size)).1, k0 + (kyT (s.extract k0 s.size)).2.1, (kyT (s.extract k0 s.size)).2.2) := by
  have zt : (s.extract k0 s.size).size = s.size - k0 := Lib.ext_size s k0
  have e0 : K.V.by8 (s.extract k0 s.size) 0 = K.V.by8 s k0 := by rw [by8_ext]; rfl
  have hp := plN_le (s.extract k0 s.size)
  have ee : s.extract k0 (k0 + plN (s.extract k0 s.size)) = (s.extract k0 s.size).extract 0 (plN (s.extract k0 s.size)) := by
    apply ba_ext
    have hz : s.data.toList.length = s.size := Array.length_toList
    simp [List.drop_take, List.take_take]
    omega
  unfold kyP
  rw [ee]
  by_cases h : k0 < s.size ∧ K.V.by8 s k0 = 34
  · have hq : kyT (s.extract k0 s.size) = quT (s.extract k0 s.size) := by unfold kyT; rw [if_pos ⟨by omega, by rw [e0]; exact h.2⟩]
    rw [if_pos h, hq]
    unfold quP quT
    split
    · rfl
    · split <;> rfl
  · have hq : kyT (s.extract k0 s.size) = plT (s.extract k0 s.size) := by unfold kyT; rw [if_neg (by rw [e0]; rintro ⟨a, b⟩; exact h ⟨by omega, b⟩)]
    rw [if_neg h, hq]
    unfold plT
    by_cases h1 : plN (s.extract k0 s.size) = 0
    · rw [if_pos h1, if_pos h1]; rfl
    · rw [if_neg h1, if_neg h1]
      by_cases h2 : 64 < plN (s.extract k0 s.size)
      · rw [if_pos h2, if_pos h2]
      · rw [if_neg h2, if_neg h2]
/-- How the two read a step. -/
theorem st_both (s : ByteArray) (k : Nat) (hk : k < s.size) :
    ((stP s k).2.2 = (oneT (s.extract k s.size)).2.2 ∧ (stP s k).2.1 = k + (oneT (s.extract k s.size)).2.1 ∧ ((stP s k).2.2 = true → (stP s k).1 = (oneT (s.extract k s.size)).1)) ∨
    ((stP s k).2.2 = false ∧ (oneT (s.extract k s.size)).2.2 = true ∧ (stP s k).2.1 = k + (oneT (s.extract k s.size)).2.1 ∧ (stP s k).2.1 < s.size ∧ dgC (K.V.by8 s (stP s k).2.1) = true ∧ 1 ≤ (oneT (s.extract k s.size)).2.1) := by
  have e0 : K.V.by8 (s.extract k s.size) 0 = K.V.by8 s k := by rw [by8_ext]; rfl
  have zt : (s.extract k s.size).size = s.size - k := Lib.ext_size s k
  have e8 := by8_ext s k
  have ee := ext_ext s k 1
  have hb := num_both s (k + 1) (by omega)
  have hy := ky_both s (k + 1) (by omega)
  rw [← ee] at hb hy
  unfold stP oneT
  rw [e0]
  generalize s.extract k s.size = t at *
  generalize t.extract 1 t.size = u at *
  by_cases h1 : K.V.by8 s k = 47
  · rw [if_pos h1, if_pos h1, hy]
    left
    exact ⟨rfl, by simp only []; omega, fun _ => rfl⟩
  · rw [if_neg h1, if_neg h1]
    by_cases h2 : K.V.by8 s k = 91
    · have h3 : ¬ K.V.by8 s k = 126 := by omega
      rw [if_pos h2, if_neg h3, if_pos h2]
      left
      unfold ixP
      rcases hb with hb | ⟨hb, hu, hlt, hd⟩
      · rw [hb]
        simp only []
        generalize nuT u = N
        obtain ⟨n, m, ok⟩ := N
        simp only []
        cases ok with
        | false => simp; omega
        | true =>
          rw [e8, show k + (1 + m) = k + 1 + m by omega]
          simp only [Bool.true_eq_false, if_false, false_or]
          by_cases h4 : k + 1 + m = s.size ∨ K.V.by8 s (k + 1 + m) ≠ 93
          · rw [if_pos h4]
            by_cases h5 : t.size ≤ 1 + m ∨ K.V.by8 s (k + 1 + m) ≠ 93
            · rw [if_pos h5]; simp; omega
            · exact absurd (by rcases h4 with h | h; exact .inl (by omega); exact .inr h) h5
          · rw [if_neg h4]
            simp only [not_or] at h4
            by_cases h5 : t.size ≤ 1 + m ∨ K.V.by8 s (k + 1 + m) ≠ 93
            · rcases h5 with h5 | h5
              · exfalso
                have h6 := h4.2
                have h7 : s.size ≤ k + 1 + m := by omega
                have : K.V.by8 s (k + 1 + m) = 0 := by
                  unfold K.V.by8
                  rw [List.getD_eq_getElem?_getD, List.getElem?_eq_none (by rw [Array.length_toList]; exact h7)]
                  rfl
                omega
              · exact absurd h5 h4.2
            · rw [if_neg h5]; refine ⟨rfl, ?_, fun _ => rfl⟩; simp only []; omega
      · rw [hb, hu]
        simp only [if_true]
        rw [e8, if_pos]
        · exact ⟨rfl, by simp only [], fun h => by cases h⟩
        · right; right
          rw [show k + (1 + 1) = k + 1 + 1 by omega]
          intro h
          rw [h] at hd
          revert hd
          decide
    · rw [if_neg h2]
      by_cases h3 : K.V.by8 s k = 126
      · rw [if_pos h3, if_pos h3]
        rcases hb with hb | ⟨hb, hu, hlt, hd⟩
        · left
          rw [hb]
          exact ⟨rfl, by simp only []; omega, fun _ => rfl⟩
        · right
          rw [hb, hu]
          exact ⟨rfl, rfl, by simp only [], hlt, hd, by simp⟩
      · rw [if_neg h3, if_neg h3, if_neg h2]
        left
        simp
/-- What Parse tells of what read told. -/
def cvP (R : List St × Nat × Bool) : List St × Int × Nat := if R.2.2 = true then (R.1, 0, 0) else ([], 130, R.2.1)
theorem go_both (s : ByteArray) (hs : s.size ≤ 5000) (hU : ∀ t : ByteArray, t.size ≤ 5000 → Q.UB t) : ∀ (f i : Nat) (acc : List St), i < s.size → s.size + 1 ≤ i + f → rR s f i acc = cvP (rP s f i acc)
  | 0, i, acc, h1, h2 => by omega
  | f + 1, i, acc, h1, h2 => by
    rw [rR, rP, if_pos h1]
    by_cases h32 : acc.length = 32
    · rw [if_pos h32, if_pos (.inr h32)]
      rfl
    · have hn : ¬ (i = s.size ∨ acc.length = 32) := by rintro (h | h); omega; exact h32 h
      rw [if_neg h32, if_neg hn]
      have zt : (s.extract i s.size).size = s.size - i := Lib.ext_size s i
      have hle := oneT_le (s.extract i s.size) (by omega) (hU _ (by rw [Lib.ext_size]; omega))
      rcases st_both s i h1 with ⟨h3, h4, h5⟩ | ⟨h3, h4, h5, h6, h7, h8⟩
      · rw [← h3, ← h4]
        cases hok : (stP s i).2.2 with
        | false => rfl
        | true =>
          have hnt : ¬ (true = false) := by decide
          rw [if_neg hnt, if_neg hnt, ← h5 hok]
          have hpos := hle.2 (by rw [← h3]; exact hok)
          by_cases h6 : (stP s i).2.1 < s.size
          · rw [if_pos h6]
            exact go_both s hs hU f _ _ h6 (by omega)
          · rw [if_neg h6]
            cases f with
            | zero => rfl
            | succ f => rw [rR, if_neg h6]; rfl
      · have hnt : ¬ ((oneT (s.extract i s.size)).2.2 = false) := by rw [h4]; decide
        rw [if_neg hnt, if_pos h3, ← h5]
        obtain ⟨f, rfl⟩ : ∃ g, f = g + 1 := ⟨f - 1, by omega⟩
        rw [rR, if_pos h6]
        generalize (stP s i).2.1 = j at *
        have hj : oneT (s.extract j s.size) = (zSt, 0, false) := by
          have e0 : K.V.by8 (s.extract j s.size) 0 = K.V.by8 s j := by rw [by8_ext]; rfl
          have n1 : ¬ K.V.by8 (s.extract j s.size) 0 = 47 := by rw [e0]; intro h; rw [h] at h7; revert h7; decide
          have n2 : ¬ K.V.by8 (s.extract j s.size) 0 = 126 := by rw [e0]; intro h; rw [h] at h7; revert h7; decide
          have n3 : ¬ K.V.by8 (s.extract j s.size) 0 = 91 := by rw [e0]; intro h; rw [h] at h7; revert h7; decide
          unfold oneT
          rw [if_neg n1, if_neg n2, if_neg n3]
        rw [hj]
        split <;> rfl
end Go.Proofs.YthffcdahjcpdfaaGreatDoor

namespace Go.Proofs.YthffcdahjcpdfaaGreatDoor
open Go.RowKit
set_option linter.unusedVariables false
set_option linter.unusedSimpArgs false

set_option maxRecDepth 100000 in
set_option maxHeartbeats 1000000 in
theorem number_text (a0 a1 a2 : Addr) (w : World) (h : Snt w a0 a1 a2) : Calls Tryz.prog 13 #[.iface 189 (.pointer (some a2))] w fun e w' => e = .returned (.int .i64 130) ∧ w' = w := by
  have H := Hid.mk' (is_same a2 w)
  obtain ⟨c0, t0, e0⟩ := h.h0
  obtain ⟨c1, t1, e1⟩ := h.h1
  obtain ⟨c2, t2, e2⟩ := h.h2
  have H0 := Hid.mk' (is_other a2 a0 c2 c0 t2 t0 w (fun e => h.n02 e.symm) e2 e0)
  have H1 := Hid.mk' (is_other a2 a1 c2 c1 t2 t1 w (fun e => h.n12 e.symm) e2 e1)
  obtain ⟨g0, g1, g2, _, _, _, _, _, _⟩ := h
  clear e0 e1 e2
  go_enter Tryz.func13, Tryz.ntmps13
  go_wp2_with fail
  refine H0.out.mono ?_
  rintro e _ ⟨rfl, rfl⟩
  go_wp2_with fail
  refine H1.out.mono ?_
  rintro e _ ⟨rfl, rfl⟩
  go_wp2_with fail
  refine H.out.mono ?_
  rintro e _ ⟨rfl, rfl⟩
  go_wp2
  go_ret
  exact ⟨rfl, rfl⟩
set_option maxRecDepth 100000 in
set_option maxHeartbeats 1000000 in
theorem read_long (s : ByteArray) (w : World) (hs : 5000 < s.size) (a0 a1 a2 : Addr) (hE : Snt w a0 a1 a2) :
    Calls Tryz.prog 12 #[.string s] w fun e w' => e = .returned (.tuple #[.slice none 0 0, .int .i64 0, .iface 189 (.pointer (some a0))]) ∧ Below w.heap.size w w' := by
  have h5 : (5000 : Int) < (s.size : Int) := by omega
  obtain ⟨W0, hW0⟩ : ∃ W, W = w.alloc (.cells #[.int .u8 0, .string ⟨#[]⟩, .int .i64 0] 54) := ⟨_, rfl⟩
  have bw : Below w.heap.size w W0 := by rw [hW0]; exact (Below.refl _ _).alloc (Nat.le_refl _) _
  have hg := (hE.below bw).g0
  have BW := Hid.mk' bw
  have HW0 := Hid.mk' hW0
  clear bw hE hW0
  go_enter Tryz.func12, Tryz.ntmps12
  go_wp2
  refine wp_scope_jumps5 (fun _ _ _ => False) (fun _ _ _ => 0) (fun _ _ _ h => h.elim) rfl rfl rfl rfl rfl ?_ (fun _ _ h => h.elim) (fun _ _ h => h.elim) (fun _ _ h => h.elim) (fun _ _ h => h.elim) (fun _ _ h => h.elim)
  go_wp2
  rw [← HW0.out]
  go_quiet (fail)
  go_wp2
  first | go_ret3 | (rw [jumpN_ret]; go_ret3)
  exact ⟨rfl, below_drewN BW.out _⟩
set_option maxRecDepth 100000 in
set_option maxHeartbeats 1000000 in
theorem read_root (s : ByteArray) (w : World) (hs : s.size ≤ 5000) (h47 : (s.toList == [47]) = true) :
    Calls Tryz.prog 12 #[.string s] w fun e w' => e = .returned (.tuple #[.slice none 0 0, .int .i64 0, .nilIface]) ∧ Below w.heap.size w w' := by
  have h5 : ¬ (5000 : Int) < (s.size : Int) := by omega
  obtain ⟨W0, hW0⟩ : ∃ W, W = w.alloc (.cells #[.int .u8 0, .string ⟨#[]⟩, .int .i64 0] 54) := ⟨_, rfl⟩
  have bw : Below w.heap.size w W0 := by rw [hW0]; exact (Below.refl _ _).alloc (Nat.le_refl _) _
  have BW := Hid.mk' bw
  have HW0 := Hid.mk' hW0
  clear bw hW0
  go_enter Tryz.func12, Tryz.ntmps12
  go_wp2
  refine wp_scope_jumps5 (fun _ _ _ => False) (fun _ _ _ => 0) (fun _ _ _ h => h.elim) rfl rfl rfl rfl rfl ?_ (fun _ _ h => h.elim) (fun _ _ h => h.elim) (fun _ _ h => h.elim) (fun _ _ h => h.elim) (fun _ _ h => h.elim)
  go_wp2
  first
    | (rw [← HW0.out]; first | go_ret3 | (rw [jumpN_ret]; go_ret3); exact ⟨rfl, BW.out⟩)
    | (rw [← HW0.out]; go_quiet (fail); go_wp2; first | go_ret3 | (rw [jumpN_ret]; go_ret3); exact ⟨rfl, below_drewN BW.out _⟩)
/-- What Parse tells: the steps, the error's number, the place of the fault. -/
noncomputable def paF (s : ByteArray) : List St × Int × Nat := if 5000 < s.size then ([], 6, 0) else if (s.toList == [47]) = true then ([], 0, 0) else cvP (rP s (s.size + 1) 0 [])
theorem paF_long {s : ByteArray} (h : 5000 < s.size) : paF s = ([], 6, 0) := by unfold paF; rw [if_pos h]
theorem paF_root {s : ByteArray} (h : s.size ≤ 5000) (h47 : (s.toList == [47]) = true) : paF s = ([], 0, 0) := by unfold paF; rw [if_neg (by omega), if_pos h47]
theorem paF_go {s : ByteArray} (h : s.size ≤ 5000) (h47 : (s.toList == [47]) = false) : paF s = cvP (rP s (s.size + 1) 0 []) := by unfold paF; rw [if_neg (by omega), if_neg (by rw [h47]; decide)]
set_option maxRecDepth 100000 in
set_option maxHeartbeats 1000000 in
theorem parse_go (s : ByteArray) (w : World) (hs : s.size ≤ 5000) (h47 : (s.toList == [47]) = false) (hT : K.V.Tabs w) (a0 a1 a2 : Addr) (hE : Snt w a0 a1 a2) :
    Calls Tryz.prog 5 #[.string s] w fun e w' => ∃ v, e = .returned (.tuple #[v, .int .i64 (paF s).2.1, .int .i64 ((paF s).2.2 : Int)]) ∧ OwnS w' w.heap.size v (paF s).1 ∧ Below w.heap.size w w' := by
  have HP := Hid.mk' (paF_go hs h47)
  have H := Hid.mk' (read_go s w hs h47 hT a0 a1 a2 hE)
  have HE := Hid.mk' (fun wx (h : Below w.heap.size w wx) => hE.below h)
  generalize rP s (s.size + 1) 0 [] = R at *
  generalize paF s = A at *
  obtain ⟨L, k, ok⟩ := R
  clear hT hE
  go_enter Tryz.func5, Tryz.ntmps5
  go_wp2_with fail
  refine H.out.mono ?_
  rintro e w1 ⟨v, rfl, own, b1⟩
  obtain ⟨va, vc, rfl, _, _⟩ := own.slice
  have HO := Hid.mk' own
  have B1 := Hid.mk' b1
  clear H own b1
  simp only [] at *
  generalize L.length = n at *
  cases ok with
  | false =>
    have HN := Hid.mk' (number_text a0 a1 a2 w1 (HE.out _ B1.out))
    have HA : Hid (A = ([], 130, k)) := HP.out.trans rfl
    rw [show erV a2 false = .iface 189 (.pointer (some a2)) from rfl]
    clear HP HE
    go_wp2_with fail
    refine HN.out.mono ?_
    rintro e _ ⟨rfl, rfl⟩
    go_wp2
    go_ret3
    exact ⟨_, by rw [HA.out]; rfl, by rw [HA.out]; exact OwnS.nil _ _, B1.out⟩
  | true =>
    have HA : Hid (A = (L, 0, 0)) := HP.out.trans rfl
    rw [show erV a2 true = .nilIface from rfl]
    clear HP HE
    go_wp2
    go_ret3
    exact ⟨_, by rw [HA.out]; rfl, by rw [HA.out]; exact HO.out, B1.out⟩
set_option maxRecDepth 100000 in
set_option maxHeartbeats 1000000 in
theorem parse_long (s : ByteArray) (w : World) (hs : 5000 < s.size) (a0 a1 a2 : Addr) (hE : Snt w a0 a1 a2) :
    Calls Tryz.prog 5 #[.string s] w fun e w' => ∃ v, e = .returned (.tuple #[v, .int .i64 (paF s).2.1, .int .i64 ((paF s).2.2 : Int)]) ∧ OwnS w' w.heap.size v (paF s).1 ∧ Below w.heap.size w w' := by
  have HA := Hid.mk' (paF_long hs)
  have H := Hid.mk' (read_long s w hs a0 a1 a2 hE)
  have HE := Hid.mk' (fun wx (h : Below w.heap.size w wx) => hE.below h)
  generalize paF s = A at *
  clear hE hs
  go_enter Tryz.func5, Tryz.ntmps5
  go_wp2_with fail
  refine H.out.mono ?_
  rintro e w1 ⟨rfl, b1⟩
  have HN := Hid.mk' (number_long a0 a1 a2 w1 (HE.out _ b1))
  have B1 := Hid.mk' b1
  clear H b1 HE
  go_wp2_with fail
  refine HN.out.mono ?_
  rintro e _ ⟨rfl, rfl⟩
  go_wp2
  go_ret3
  exact ⟨_, by rw [HA.out]; rfl, by rw [HA.out]; exact OwnS.nil _ _, B1.out⟩
set_option maxRecDepth 100000 in
set_option maxHeartbeats 1000000 in
theorem parse_root (s : ByteArray) (w : World) (hs : s.size ≤ 5000) (h47 : (s.toList == [47]) = true) :
    Calls Tryz.prog 5 #[.string s] w fun e w' => ∃ v, e = .returned (.tuple #[v, .int .i64 (paF s).2.1, .int .i64 ((paF s).2.2 : Int)]) ∧ OwnS w' w.heap.size v (paF s).1 ∧ Below w.heap.size w w' := by
  have HA := Hid.mk' (paF_root hs h47)
  have H := Hid.mk' (read_root s w hs h47)
  generalize paF s = A at *
  clear hs h47
  go_enter Tryz.func5, Tryz.ntmps5
  go_wp2_with fail
  refine H.out.mono ?_
  rintro e w1 ⟨rfl, b1⟩
  have B1 := Hid.mk' b1
  clear H b1
  go_wp2
  go_ret3
  exact ⟨_, by rw [HA.out]; rfl, by rw [HA.out]; exact OwnS.nil _ _, B1.out⟩
/-- Parse, of any text. -/
theorem parse_any (s : ByteArray) (w : World) (hT : K.V.Tabs w) (a0 a1 a2 : Addr) (hE : Snt w a0 a1 a2) :
    Calls Tryz.prog 5 #[.string s] w fun e w' => ∃ v, e = .returned (.tuple #[v, .int .i64 (paF s).2.1, .int .i64 ((paF s).2.2 : Int)]) ∧ OwnS w' w.heap.size v (paF s).1 ∧ Below w.heap.size w w' := by
  by_cases hs : 5000 < s.size
  · exact parse_long s w hs a0 a1 a2 hE
  · cases h47 : (s.toList == [47]) with
    | true => exact parse_root s w (by omega) h47
    | false => exact parse_go s w (by omega) h47 hT a0 a1 a2 hE
end Go.Proofs.YthffcdahjcpdfaaGreatDoor

namespace Go.Proofs.YthffcdahjcpdfaaGreatDoor
open Go.RowKit
set_option linter.unusedVariables false
set_option linter.unusedSimpArgs false

theorem intU : Tryz.prog.underlying 3 = some (.int .i64) := Tryz.underlying3
set_option maxRecDepth 100000 in
set_option maxHeartbeats 2000000 in
theorem grow_any (n : Nat) (w : World) (hn : n ≤ 4398046510976) :
    Calls Tryz.prog 41 #[.slice none 0 0, .int .i64 (n : Int)] w fun e w' => ∃ v, e = .returned v ∧ OwnS w' w.heap.size v [] ∧ Below w.heap.size w w' := by
  obtain ⟨i, hi, hz, hs, hby⟩ := infoS
  by_cases h0 : n = 0
  · subst h0
    have N0 := Hid.mk' (OwnS.nil w w.heap.size)
    go_enter Tryz.func41, Tryz.ntmps41
    go_wp2
    go_ret
    exact ⟨_, rfl, N0.out, Below.refl _ _⟩
  · have h0' : (0 : Int) < (n : Int) := by omega
    have hm : ¬ (n : Int) < 0 := by omega
    have hr := Hid.mk' (Lib.run_append_nil_zeros (P := Tryz.prog) w 22 3 22 54 i (.agg zSt.c) .i64 .i64 Tryz.underlying22 intU hi hz n (by omega) (by omega) (by omega) (by rw [hby]; omega))
    have hcap : grownCap w n 0 54 ≤ maxLen := grownCap_le_maxLen w n 0 54 (by unfold maxLen; omega)
    have hge := grownCap_ge w n 0 54
    have hsz : (Builtin.zeroCells (Value.agg zSt.c).cells n ++ Builtin.zeroCells (Value.agg zSt.c).cells (grownCap w n 0 54 - n)).size = grownCap w n 0 54 * 3 := by
      rw [Array.size_append, size_zeroCells, size_zeroCells]
      show n * 3 + (grownCap w n 0 54 - n) * 3 = _
      omega
    have OW := Hid.mk' (World.ownsRow_made (base := w.heap.size) (e := 54) (size := 3) w.drew (Builtin.zeroCells (Value.agg zSt.c).cells n ++ Builtin.zeroCells (Value.agg zSt.c).cells (grownCap w n 0 54 - n)) (grownCap w n 0 54) (Nat.le_refl _) hcap hsz)
    have BW : Hid (Below w.heap.size w (w.drew.alloc (.cells (Builtin.zeroCells (Value.agg zSt.c).cells n ++ Builtin.zeroCells (Value.agg zSt.c).cells (grownCap w n 0 54 - n)) 54))) := ((Below.refl _ _).drew).alloc (Nat.le_refl _) _
    generalize Builtin.zeroCells (Value.agg zSt.c).cells n ++ Builtin.zeroCells (Value.agg zSt.c).cells (grownCap w n 0 54 - n) = C at *
    generalize grownCap w n 0 54 = cap at *
    have hc0 : (0 : Int) ≤ (cap : Int) := by omega
    clear hi hz hs hby hcap hge hsz h0
    go_enter Tryz.func41, Tryz.ntmps41
    go_wp2_with (first | (at_builtin; refine Lib.wpList_append_run _ rfl (.tmp 20) (.tmp 21) 22 3 rfl (.slice none 0 0) (.int .i64 (n : Int)) rfl rfl _ _ hr.out ?_) | fail)
    go_ret
    exact ⟨_, rfl, OW.out, BW.out⟩
end Go.Proofs.YthffcdahjcpdfaaGreatDoor

