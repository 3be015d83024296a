import Derived.Test.YtefoipjbbfcjhaaDoorQWi
import Derived.Lib.ValidAsc
namespace Go.Proofs.YtefoipjbbfcjhaaDoor.Q
open Go.RowKit
set_option linter.unusedVariables false
set_option linter.unusedSimpArgs false

theorem check_none (n b1 b2 b3 c lo hi : Nat) (h : c ≠ 2) (h3 : c ≠ 3) (h4 : c ≠ 4) : Lib.checkN n b1 b2 b3 c lo hi = none := by
  unfold Lib.checkN
  rw [if_neg h, if_neg h3, if_neg h4]
theorem wideN_of (s : ByteArray) (c sz lo hi : Nat) (hc : by8 s 0 = c) (h : ¬ c < 128) (e1 : Lib.firstT c % 8 = sz) (e2 : Lib.accLo (Lib.firstT c / 16) = lo) (e3 : Lib.accHi (Lib.firstT c / 16) = hi) :
    wideN s = (Lib.checkN s.size (by8 s 1) (by8 s 2) (by8 s 3) sz lo hi).getD 0 := by
  unfold wideN
  rw [hc, if_neg h, e1, e2, e3]
theorem wide_any (s : ByteArray) (w : World) (h0 : 0 < s.size) :
    Calls Tryd.prog 22 #[.string s] w fun e w' => e = .returned (.int .i64 (wideN s : Int)) ∧ w' = w := by
  by_cases h1 : by8 s 0 < 128
  · have e : wideN s = 1 := by unfold wideN; rw [if_pos h1]
    rw [e]
    exact wide_asc s w h0 h1
  obtain ⟨c, hc⟩ : ∃ c, by8 s 0 = c := ⟨_, rfl⟩
  have hlt := by8_lt s 0
  rw [hc] at h1 hlt
  by_cases c0 : c ≤ 193
  · have e1 : Lib.firstT c % 8 = 1 := by simp [Lib.firstT, show ¬ c < 128 by omega, show c < 194 by omega, show c < 224 by omega, show c < 237 by omega, show c < 240 by omega, show c < 244 by omega, show ¬ c = 224 by omega, show ¬ c = 237 by omega, show ¬ c = 240 by omega, show ¬ c = 244 by omega]
    have e : wideN s = 0 := by rw [wideN_of s c _ _ _ hc h1 e1 rfl rfl, check_none _ _ _ _ _ _ _ (by decide) (by decide) (by decide)]; rfl
    rw [e]
    exact wide_lo s w c h0 hc (by omega) (by omega)
  by_cases c1 : c ≤ 223
  · have e : wideN s = (Lib.checkN s.size (by8 s 1) (by8 s 2) (by8 s 3) 2 128 191).getD 0 := wideN_of s c _ _ _ hc h1 (by simp [Lib.firstT, show ¬ c < 128 by omega, show ¬ c < 194 by omega, show c < 224 by omega, show c < 237 by omega, show c < 240 by omega, show c < 244 by omega, show ¬ c = 224 by omega, show ¬ c = 237 by omega, show ¬ c = 240 by omega, show ¬ c = 244 by omega]) (by simp [Lib.firstT, Lib.accLo, show ¬ c < 128 by omega, show ¬ c < 194 by omega, show c < 224 by omega, show c < 237 by omega, show c < 240 by omega, show c < 244 by omega, show ¬ c = 224 by omega, show ¬ c = 237 by omega, show ¬ c = 240 by omega, show ¬ c = 244 by omega]) (by simp [Lib.firstT, Lib.accHi, show ¬ c < 128 by omega, show ¬ c < 194 by omega, show c < 224 by omega, show c < 237 by omega, show c < 240 by omega, show c < 244 by omega, show ¬ c = 224 by omega, show ¬ c = 237 by omega, show ¬ c = 240 by omega, show ¬ c = 244 by omega])
    rw [e]
    by_cases hT : TailP s 2 128 191
    · rw [(tail_2 s 128 191).1 hT]
      exact wide_two_t s w c h0 hc (by omega) (by omega) hT
    · rw [(tail_2 s 128 191).2 hT]
      exact wide_two_f s w c h0 hc (by omega) (by omega) hT
  by_cases c2 : c ≤ 224
  · have e : wideN s = (Lib.checkN s.size (by8 s 1) (by8 s 2) (by8 s 3) 3 160 191).getD 0 := wideN_of s c _ _ _ hc h1 (by simp [Lib.firstT, show ¬ c < 128 by omega, show ¬ c < 194 by omega, show ¬ c < 224 by omega, show c < 237 by omega, show c < 240 by omega, show c < 244 by omega, show ¬ c = 237 by omega, show ¬ c = 240 by omega, show ¬ c = 244 by omega, show c = 224 by omega]) (by simp [Lib.firstT, Lib.accLo, show ¬ c < 128 by omega, show ¬ c < 194 by omega, show ¬ c < 224 by omega, show c < 237 by omega, show c < 240 by omega, show c < 244 by omega, show ¬ c = 237 by omega, show ¬ c = 240 by omega, show ¬ c = 244 by omega, show c = 224 by omega]) (by simp [Lib.firstT, Lib.accHi, show ¬ c < 128 by omega, show ¬ c < 194 by omega, show ¬ c < 224 by omega, show c < 237 by omega, show c < 240 by omega, show c < 244 by omega, show ¬ c = 237 by omega, show ¬ c = 240 by omega, show ¬ c = 244 by omega, show c = 224 by omega])
    rw [e]
    by_cases hT : TailP s 3 160 191
    · rw [(tail_3 s 160 191).1 hT]
      exact wide_e0_t s w c h0 hc (by omega) (by omega) hT
    · rw [(tail_3 s 160 191).2 hT]
      exact wide_e0_f s w c h0 hc (by omega) (by omega) hT
  by_cases c3 : c ≤ 236
  · have e : wideN s = (Lib.checkN s.size (by8 s 1) (by8 s 2) (by8 s 3) 3 128 191).getD 0 := wideN_of s c _ _ _ hc h1 (by simp [Lib.firstT, show ¬ c < 128 by omega, show ¬ c < 194 by omega, show ¬ c < 224 by omega, show c < 237 by omega, show c < 240 by omega, show c < 244 by omega, show ¬ c = 224 by omega, show ¬ c = 237 by omega, show ¬ c = 240 by omega, show ¬ c = 244 by omega]) (by simp [Lib.firstT, Lib.accLo, show ¬ c < 128 by omega, show ¬ c < 194 by omega, show ¬ c < 224 by omega, show c < 237 by omega, show c < 240 by omega, show c < 244 by omega, show ¬ c = 224 by omega, show ¬ c = 237 by omega, show ¬ c = 240 by omega, show ¬ c = 244 by omega]) (by simp [Lib.firstT, Lib.accHi, show ¬ c < 128 by omega, show ¬ c < 194 by omega, show ¬ c < 224 by omega, show c < 237 by omega, show c < 240 by omega, show c < 244 by omega, show ¬ c = 224 by omega, show ¬ c = 237 by omega, show ¬ c = 240 by omega, show ¬ c = 244 by omega])
    rw [e]
    by_cases hT : TailP s 3 128 191
    · rw [(tail_3 s 128 191).1 hT]
      exact wide_e1_t s w c h0 hc (by omega) (by omega) hT
    · rw [(tail_3 s 128 191).2 hT]
      exact wide_e1_f s w c h0 hc (by omega) (by omega) hT
  by_cases c4 : c ≤ 237
  · have e : wideN s = (Lib.checkN s.size (by8 s 1) (by8 s 2) (by8 s 3) 3 128 159).getD 0 := wideN_of s c _ _ _ hc h1 (by simp [Lib.firstT, show ¬ c < 128 by omega, show ¬ c < 194 by omega, show ¬ c < 224 by omega, show ¬ c < 237 by omega, show c < 240 by omega, show c < 244 by omega, show ¬ c = 224 by omega, show ¬ c = 240 by omega, show ¬ c = 244 by omega, show c = 237 by omega]) (by simp [Lib.firstT, Lib.accLo, show ¬ c < 128 by omega, show ¬ c < 194 by omega, show ¬ c < 224 by omega, show ¬ c < 237 by omega, show c < 240 by omega, show c < 244 by omega, show ¬ c = 224 by omega, show ¬ c = 240 by omega, show ¬ c = 244 by omega, show c = 237 by omega]) (by simp [Lib.firstT, Lib.accHi, show ¬ c < 128 by omega, show ¬ c < 194 by omega, show ¬ c < 224 by omega, show ¬ c < 237 by omega, show c < 240 by omega, show c < 244 by omega, show ¬ c = 224 by omega, show ¬ c = 240 by omega, show ¬ c = 244 by omega, show c = 237 by omega])
    rw [e]
    by_cases hT : TailP s 3 128 159
    · rw [(tail_3 s 128 159).1 hT]
      exact wide_ed_t s w c h0 hc (by omega) (by omega) hT
    · rw [(tail_3 s 128 159).2 hT]
      exact wide_ed_f s w c h0 hc (by omega) (by omega) hT
  by_cases c5 : c ≤ 239
  · have e : wideN s = (Lib.checkN s.size (by8 s 1) (by8 s 2) (by8 s 3) 3 128 191).getD 0 := wideN_of s c _ _ _ hc h1 (by simp [Lib.firstT, show ¬ c < 128 by omega, show ¬ c < 194 by omega, show ¬ c < 224 by omega, show ¬ c < 237 by omega, show c < 240 by omega, show c < 244 by omega, show ¬ c = 224 by omega, show ¬ c = 237 by omega, show ¬ c = 240 by omega, show ¬ c = 244 by omega]) (by simp [Lib.firstT, Lib.accLo, show ¬ c < 128 by omega, show ¬ c < 194 by omega, show ¬ c < 224 by omega, show ¬ c < 237 by omega, show c < 240 by omega, show c < 244 by omega, show ¬ c = 224 by omega, show ¬ c = 237 by omega, show ¬ c = 240 by omega, show ¬ c = 244 by omega]) (by simp [Lib.firstT, Lib.accHi, show ¬ c < 128 by omega, show ¬ c < 194 by omega, show ¬ c < 224 by omega, show ¬ c < 237 by omega, show c < 240 by omega, show c < 244 by omega, show ¬ c = 224 by omega, show ¬ c = 237 by omega, show ¬ c = 240 by omega, show ¬ c = 244 by omega])
    rw [e]
    by_cases hT : TailP s 3 128 191
    · rw [(tail_3 s 128 191).1 hT]
      exact wide_ee_t s w c h0 hc (by omega) (by omega) hT
    · rw [(tail_3 s 128 191).2 hT]
      exact wide_ee_f s w c h0 hc (by omega) (by omega) hT
  by_cases c6 : c ≤ 240
  · have e : wideN s = (Lib.checkN s.size (by8 s 1) (by8 s 2) (by8 s 3) 4 144 191).getD 0 := wideN_of s c _ _ _ hc h1 (by simp [Lib.firstT, show ¬ c < 128 by omega, show ¬ c < 194 by omega, show ¬ c < 224 by omega, show ¬ c < 237 by omega, show ¬ c < 240 by omega, show c < 244 by omega, show ¬ c = 224 by omega, show ¬ c = 237 by omega, show ¬ c = 244 by omega, show c = 240 by omega]) (by simp [Lib.firstT, Lib.accLo, show ¬ c < 128 by omega, show ¬ c < 194 by omega, show ¬ c < 224 by omega, show ¬ c < 237 by omega, show ¬ c < 240 by omega, show c < 244 by omega, show ¬ c = 224 by omega, show ¬ c = 237 by omega, show ¬ c = 244 by omega, show c = 240 by omega]) (by simp [Lib.firstT, Lib.accHi, show ¬ c < 128 by omega, show ¬ c < 194 by omega, show ¬ c < 224 by omega, show ¬ c < 237 by omega, show ¬ c < 240 by omega, show c < 244 by omega, show ¬ c = 224 by omega, show ¬ c = 237 by omega, show ¬ c = 244 by omega, show c = 240 by omega])
    rw [e]
    by_cases hT : TailP s 4 144 191
    · rw [(tail_4 s 144 191).1 hT]
      exact wide_f0_t s w c h0 hc (by omega) (by omega) hT
    · rw [(tail_4 s 144 191).2 hT]
      exact wide_f0_f s w c h0 hc (by omega) (by omega) hT
  by_cases c7 : c ≤ 243
  · have e : wideN s = (Lib.checkN s.size (by8 s 1) (by8 s 2) (by8 s 3) 4 128 191).getD 0 := wideN_of s c _ _ _ hc h1 (by simp [Lib.firstT, show ¬ c < 128 by omega, show ¬ c < 194 by omega, show ¬ c < 224 by omega, show ¬ c < 237 by omega, show ¬ c < 240 by omega, show c < 244 by omega, show ¬ c = 224 by omega, show ¬ c = 237 by omega, show ¬ c = 240 by omega, show ¬ c = 244 by omega]) (by simp [Lib.firstT, Lib.accLo, show ¬ c < 128 by omega, show ¬ c < 194 by omega, show ¬ c < 224 by omega, show ¬ c < 237 by omega, show ¬ c < 240 by omega, show c < 244 by omega, show ¬ c = 224 by omega, show ¬ c = 237 by omega, show ¬ c = 240 by omega, show ¬ c = 244 by omega]) (by simp [Lib.firstT, Lib.accHi, show ¬ c < 128 by omega, show ¬ c < 194 by omega, show ¬ c < 224 by omega, show ¬ c < 237 by omega, show ¬ c < 240 by omega, show c < 244 by omega, show ¬ c = 224 by omega, show ¬ c = 237 by omega, show ¬ c = 240 by omega, show ¬ c = 244 by omega])
    rw [e]
    by_cases hT : TailP s 4 128 191
    · rw [(tail_4 s 128 191).1 hT]
      exact wide_f1_t s w c h0 hc (by omega) (by omega) hT
    · rw [(tail_4 s 128 191).2 hT]
      exact wide_f1_f s w c h0 hc (by omega) (by omega) hT
  by_cases c8 : c ≤ 244
  · have e : wideN s = (Lib.checkN s.size (by8 s 1) (by8 s 2) (by8 s 3) 4 128 143).getD 0 := wideN_of s c _ _ _ hc h1 (by simp [Lib.firstT, show ¬ c < 128 by omega, show ¬ c < 194 by omega, show ¬ c < 224 by omega, show ¬ c < 237 by omega, show ¬ c < 240 by omega, show ¬ c < 244 by omega, show ¬ c = 224 by omega, show ¬ c = 237 by omega, show ¬ c = 240 by omega, show c = 244 by omega]) (by simp [Lib.firstT, Lib.accLo, show ¬ c < 128 by omega, show ¬ c < 194 by omega, show ¬ c < 224 by omega, show ¬ c < 237 by omega, show ¬ c < 240 by omega, show ¬ c < 244 by omega, show ¬ c = 224 by omega, show ¬ c = 237 by omega, show ¬ c = 240 by omega, show c = 244 by omega]) (by simp [Lib.firstT, Lib.accHi, show ¬ c < 128 by omega, show ¬ c < 194 by omega, show ¬ c < 224 by omega, show ¬ c < 237 by omega, show ¬ c < 240 by omega, show ¬ c < 244 by omega, show ¬ c = 224 by omega, show ¬ c = 237 by omega, show ¬ c = 240 by omega, show c = 244 by omega])
    rw [e]
    by_cases hT : TailP s 4 128 143
    · rw [(tail_4 s 128 143).1 hT]
      exact wide_f4_t s w c h0 hc (by omega) (by omega) hT
    · rw [(tail_4 s 128 143).2 hT]
      exact wide_f4_f s w c h0 hc (by omega) (by omega) hT
  have e1 : Lib.firstT c % 8 = 1 := by simp [Lib.firstT, show ¬ c < 128 by omega, show ¬ c < 194 by omega, show ¬ c < 224 by omega, show ¬ c < 237 by omega, show ¬ c < 240 by omega, show ¬ c < 244 by omega, show ¬ c = 224 by omega, show ¬ c = 237 by omega, show ¬ c = 240 by omega, show ¬ c = 244 by omega]
  have e : wideN s = 0 := by rw [wideN_of s c _ _ _ hc h1 e1 rfl rfl, check_none _ _ _ _ _ _ _ (by decide) (by decide) (by decide)]; rfl
  rw [e]
  exact wide_hi s w c h0 hc (by omega) (by omega)

theorem check_le {n b1 b2 b3 sz lo hi k : Nat} (h : Lib.checkN n b1 b2 b3 sz lo hi = some k) : k ≤ n ∧ 2 ≤ k := by
  unfold Lib.checkN at h
  repeat' split at h
  all_goals first | (cases h; done) | (simp at h; omega)
theorem wideN_le (s : ByteArray) (h0 : 0 < s.size) : wideN s ≤ s.size := by
  unfold wideN
  split
  · omega
  · cases hq : Lib.checkN s.size (by8 s 1) (by8 s 2) (by8 s 3) (Lib.firstT (by8 s 0) % 8) (Lib.accLo (Lib.firstT (by8 s 0) / 16)) (Lib.accHi (Lib.firstT (by8 s 0) / 16)) with
    | none => simp
    | some k => simpa using (check_le hq).1
theorem ne_nil {s : ByteArray} (h0 : 0 < s.size) : s.data.toList ≠ [] := by
  intro e
  have : s.data.toList.length = s.size := by simp
  rw [e] at this
  simp at this
  omega
theorem valid_wide (s : ByteArray) (h0 : 0 < s.size) : Lib.validD s.data.toList = if wideN s = 0 then false else Lib.validD (s.data.toList.drop (wideN s)) := by
  have hne := ne_nil h0
  by_cases h1 : by8 s 0 < 128
  · have e : wideN s = 1 := by unfold wideN; rw [if_pos h1]
    rw [e, if_neg (by decide)]
    unfold by8 at h1
    cases hl : s.data.toList with
    | nil => exact absurd hl hne
    | cons b t =>
      rw [hl] at h1
      exact Lib.validD_cons b t (by simpa using h1)
  · have h128 : 128 ≤ (s.data.toList.getD 0 0).toNat := by unfold by8 at h1; omega
    rw [Lib.validD_lead _ hne h128]
    have hlen : s.data.toList.length = s.size := by simp
    rw [hlen]
    show (match Lib.checkN s.size (by8 s 1) (by8 s 2) (by8 s 3) (Lib.firstT (by8 s 0) % 8) (Lib.accLo (Lib.firstT (by8 s 0) / 16)) (Lib.accHi (Lib.firstT (by8 s 0) / 16)) with | none => false | some k => Lib.validD (s.data.toList.drop k)) = _
    cases hq : Lib.checkN s.size (by8 s 1) (by8 s 2) (by8 s 3) (Lib.firstT (by8 s 0) % 8) (Lib.accLo (Lib.firstT (by8 s 0) / 16)) (Lib.accHi (Lib.firstT (by8 s 0) / 16)) with
    | none =>
      have e : wideN s = 0 := by unfold wideN; rw [if_neg h1, hq]; rfl
      rw [e, if_pos rfl]
    | some k =>
      have e : wideN s = k := by unfold wideN; rw [if_neg h1, hq]; rfl
      have := (check_le hq).2
      rw [e, if_neg (by omega)]

set_option maxRecDepth 100000 in
set_option maxHeartbeats 1000000 in
theorem utf8_any (s : ByteArray) (w : World) (hs : s.size ≤ 140737488355328) :
    Calls Tryd.prog 8 #[.string s] w fun e w' => e = .returned (.bool (Lib.validD s.data.toList)) ∧ w' = w := by
  obtain ⟨A, hA⟩ : ∃ A, Lib.validD s.data.toList = A := ⟨_, rfl⟩
  rw [hA]
  have HA : Hid (Lib.validD s.data.toList = A) := hA
  clear hA
  go_enter Tryd.func8, Tryd.ntmps8
  go_wp2
  go_loopw [3] (fun i wr => ∃ k : Nat, k ≤ s.size ∧ i = .int .i64 k ∧ wr = w ∧ Hid (Lib.validD (s.data.toList.drop k) = A)) (fun i _ => s.size - (intOf i).toNat)
  case atStart => exact ⟨0, by omega, rfl, rfl, HA⟩
  case round =>
    obtain ⟨k, hk, rfl, rfl, hv⟩ := hrel
    by_cases h1 : k < s.size
    · have h1' : (k : Int) < (s.size : Int) := by omega
      obtain ⟨t, ht⟩ : ∃ t, s.extract k s.size = t := ⟨_, rfl⟩
      have zt : t.size = s.size - k := by rw [← ht, Lib.ext_size]
      have lt : t.data.toList = s.data.toList.drop k := by rw [← ht, Lib.ext_list]
      have ht' : Hid (s.extract k s.size = t) := ht
      have VW := valid_wide t (by omega)
      have WL := wideN_le t (by omega)
      have HW : Hid (∀ wx, Calls Tryd.prog 22 #[.string t] wx fun e w' => e = .returned (.int .i64 (wideN t : Int)) ∧ w' = wx) := fun wx => wide_any t wx (by omega)
      rw [lt] at VW
      rw [hv.out] at VW
      generalize wideN t = n at *
      have VW' : Hid (A = if n = 0 then false else Lib.validD ((s.data.toList.drop k).drop n)) := VW
      clear VW HA
      by_cases h0 : n = 0
      · subst h0
        obtain rfl : A = false := VW'.out.trans (if_pos rfl)
        clear VW'
        go_wp2_with fail
        refine (HW.out _).mono ?_
        rintro e _ ⟨rfl, rfl⟩
        go_wp2
        go_ret
        exact ⟨rfl, rfl⟩
      · have e2 : Hid (Lib.validD (s.data.toList.drop (k + n)) = A) := by
          show _ = _
          rw [VW'.out, if_neg h0, List.drop_drop]
        have hn0 : ¬ (n : Int) = 0 := by omega
        clear VW'
        go_wp2_with fail
        refine (HW.out _).mono ?_
        rintro e W ⟨rfl, rfl⟩
        go_wp2
        go_roundw
        case rel => exact ⟨k + n, by omega, by go_num, by trivial, e2⟩
        case measure => simp [intOf]; omega
    · have h1' : ¬ (k : Int) < (s.size : Int) := by omega
      obtain rfl : A = true := by
        rw [← hv.out, List.drop_eq_nil_of_le (by simp; omega)]
        rfl
      clear HA hv
      go_wp2
      go_ret
      exact ⟨rfl, rfl⟩
end Go.Proofs.YtefoipjbbfcjhaaDoor.Q
