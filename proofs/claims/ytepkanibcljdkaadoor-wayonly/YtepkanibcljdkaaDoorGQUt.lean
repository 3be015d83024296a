import Derived.Test.YtepkanibcljdkaaDoorGQQm
import Derived.Lib.ValidAsc
import Derived.Ground.NamesProg
import Derived.Shelf.Unicode.ValidAny
import Derived.Laws.RangeAny
import Derived.Laws.MakeOwn
namespace Go.Proofs.YtepkanibcljdkaaDoor.Q
open Go.RowKit
set_option linter.unusedVariables false
set_option linter.unusedSimpArgs false

theorem check_none (n b1 b2 b3 c lo hi : Nat) (h : c ≠ 2) (h3 : c ≠ 3) (h4 : c ≠ 4) : Lib.checkN n b1 b2 b3 c lo hi = none := by
  unfold Lib.checkN
  rw [if_neg h, if_neg h3, if_neg h4]
theorem wideN_of (s : ByteArray) (c sz lo hi : Nat) (hc : by8 s 0 = c) (h : ¬ c < 128) (e1 : Lib.firstT c % 8 = sz) (e2 : Lib.accLo (Lib.firstT c / 16) = lo) (e3 : Lib.accHi (Lib.firstT c / 16) = hi) :
    wideN s = (Lib.checkN s.size (by8 s 1) (by8 s 2) (by8 s 3) sz lo hi).getD 0 := by
  unfold wideN
  rw [hc, if_neg h, e1, e2, e3]
theorem wide_any (s : ByteArray) (w : World) (h0 : 0 < s.size) :
    Calls Tryd.prog 47 #[.string s] w fun e w' => e = .returned (.int .i64 (wideN s : Int)) ∧ w' = w := by
  by_cases h1 : by8 s 0 < 128
  · have e : wideN s = 1 := by unfold wideN; rw [if_pos h1]
    rw [e]
    exact wide_asc s w h0 h1
  obtain ⟨c, hc⟩ : ∃ c, by8 s 0 = c := ⟨_, rfl⟩
  have hlt := by8_lt s 0
  rw [hc] at h1 hlt
  by_cases c0 : c ≤ 193
  · have e1 : Lib.firstT c % 8 = 1 := by simp [Lib.firstT, show ¬ c < 128 by omega, show c < 194 by omega, show c < 224 by omega, show c < 237 by omega, show c < 240 by omega, show c < 244 by omega, show ¬ c = 224 by omega, show ¬ c = 237 by omega, show ¬ c = 240 by omega, show ¬ c = 244 by omega]
    have e : wideN s = 0 := by rw [wideN_of s c _ _ _ hc h1 e1 rfl rfl, check_none _ _ _ _ _ _ _ (by decide) (by decide) (by decide)]; rfl
    rw [e]
    exact wide_lo s w c h0 hc (by omega) (by omega)
  by_cases c1 : c ≤ 223
  · have e : wideN s = (Lib.checkN s.size (by8 s 1) (by8 s 2) (by8 s 3) 2 128 191).getD 0 := wideN_of s c _ _ _ hc h1 (by simp [Lib.firstT, show ¬ c < 128 by omega, show ¬ c < 194 by omega, show c < 224 by omega, show c < 237 by omega, show c < 240 by omega, show c < 244 by omega, show ¬ c = 224 by omega, show ¬ c = 237 by omega, show ¬ c = 240 by omega, show ¬ c = 244 by omega]) (by simp [Lib.firstT, Lib.accLo, show ¬ c < 128 by omega, show ¬ c < 194 by omega, show c < 224 by omega, show c < 237 by omega, show c < 240 by omega, show c < 244 by omega, show ¬ c = 224 by omega, show ¬ c = 237 by omega, show ¬ c = 240 by omega, show ¬ c = 244 by omega]) (by simp [Lib.firstT, Lib.accHi, show ¬ c < 128 by omega, show ¬ c < 194 by omega, show c < 224 by omega, show c < 237 by omega, show c < 240 by omega, show c < 244 by omega, show ¬ c = 224 by omega, show ¬ c = 237 by omega, show ¬ c = 240 by omega, show ¬ c = 244 by omega])
    rw [e]
    by_cases hT : TailP s 2 128 191
    · rw [(tail_2 s 128 191).1 hT]
      exact wide_two_t s w c h0 hc (by omega) (by omega) hT
    · rw [(tail_2 s 128 191).2 hT]
      exact wide_two_f s w c h0 hc (by omega) (by omega) hT
  by_cases c2 : c ≤ 224
  · have e : wideN s = (Lib.checkN s.size (by8 s 1) (by8 s 2) (by8 s 3) 3 160 191).getD 0 := wideN_of s c _ _ _ hc h1 (by simp [Lib.firstT, show ¬ c < 128 by omega, show ¬ c < 194 by omega, show ¬ c < 224 by omega, show c < 237 by omega, show c < 240 by omega, show c < 244 by omega, show ¬ c = 237 by omega, show ¬ c = 240 by omega, show ¬ c = 244 by omega, show c = 224 by omega]) (by simp [Lib.firstT, Lib.accLo, show ¬ c < 128 by omega, show ¬ c < 194 by omega, show ¬ c < 224 by omega, show c < 237 by omega, show c < 240 by omega, show c < 244 by omega, show ¬ c = 237 by omega, show ¬ c = 240 by omega, show ¬ c = 244 by omega, show c = 224 by omega]) (by simp [Lib.firstT, Lib.accHi, show ¬ c < 128 by omega, show ¬ c < 194 by omega, show ¬ c < 224 by omega, show c < 237 by omega, show c < 240 by omega, show c < 244 by omega, show ¬ c = 237 by omega, show ¬ c = 240 by omega, show ¬ c = 244 by omega, show c = 224 by omega])
    rw [e]
    by_cases hT : TailP s 3 160 191
    · rw [(tail_3 s 160 191).1 hT]
      exact wide_e0_t s w c h0 hc (by omega) (by omega) hT
    · rw [(tail_3 s 160 191).2 hT]
      exact wide_e0_f s w c h0 hc (by omega) (by omega) hT
  by_cases c3 : c ≤ 236
  · have e : wideN s = (Lib.checkN s.size (by8 s 1) (by8 s 2) (by8 s 3) 3 128 191).getD 0 := wideN_of s c _ _ _ hc h1 (by simp [Lib.firstT, show ¬ c < 128 by omega, show ¬ c < 194 by omega, show ¬ c < 224 by omega, show c < 237 by omega, show c < 240 by omega, show c < 244 by omega, show ¬ c = 224 by omega, show ¬ c = 237 by omega, show ¬ c = 240 by omega, show ¬ c = 244 by omega]) (by simp [Lib.firstT, Lib.accLo, show ¬ c < 128 by omega, show ¬ c < 194 by omega, show ¬ c < 224 by omega, show c < 237 by omega, show c < 240 by omega, show c < 244 by omega, show ¬ c = 224 by omega, show ¬ c = 237 by omega, show ¬ c = 240 by omega, show ¬ c = 244 by omega]) (by simp [Lib.firstT, Lib.accHi, show ¬ c < 128 by omega, show ¬ c < 194 by omega, show ¬ c < 224 by omega, show c < 237 by omega, show c < 240 by omega, show c < 244 by omega, show ¬ c = 224 by omega, show ¬ c = 237 by omega, show ¬ c = 240 by omega, show ¬ c = 244 by omega])
    rw [e]
    by_cases hT : TailP s 3 128 191
    · rw [(tail_3 s 128 191).1 hT]
      exact wide_e1_t s w c h0 hc (by omega) (by omega) hT
    · rw [(tail_3 s 128 191).2 hT]
      exact wide_e1_f s w c h0 hc (by omega) (by omega) hT
  by_cases c4 : c ≤ 237
  · have e : wideN s = (Lib.checkN s.size (by8 s 1) (by8 s 2) (by8 s 3) 3 128 159).getD 0 := wideN_of s c _ _ _ hc h1 (by simp [Lib.firstT, show ¬ c < 128 by omega, show ¬ c < 194 by omega, show ¬ c < 224 by omega, show ¬ c < 237 by omega, show c < 240 by omega, show c < 244 by omega, show ¬ c = 224 by omega, show ¬ c = 240 by omega, show ¬ c = 244 by omega, show c = 237 by omega]) (by simp [Lib.firstT, Lib.accLo, show ¬ c < 128 by omega, show ¬ c < 194 by omega, show ¬ c < 224 by omega, show ¬ c < 237 by omega, show c < 240 by omega, show c < 244 by omega, show ¬ c = 224 by omega, show ¬ c = 240 by omega, show ¬ c = 244 by omega, show c = 237 by omega]) (by simp [Lib.firstT, Lib.accHi, show ¬ c < 128 by omega, show ¬ c < 194 by omega, show ¬ c < 224 by omega, show ¬ c < 237 by omega, show c < 240 by omega, show c < 244 by omega, show ¬ c = 224 by omega, show ¬ c = 240 by omega, show ¬ c = 244 by omega, show c = 237 by omega])
    rw [e]
    by_cases hT : TailP s 3 128 159
    · rw [(tail_3 s 128 159).1 hT]
      exact wide_ed_t s w c h0 hc (by omega) (by omega) hT
    · rw [(tail_3 s 128 159).2 hT]
      exact wide_ed_f s w c h0 hc (by omega) (by omega) hT
  by_cases c5 : c ≤ 239
  · have e : wideN s = (Lib.checkN s.size (by8 s 1) (by8 s 2) (by8 s 3) 3 128 191).getD 0 := wideN_of s c _ _ _ hc h1 (by simp [Lib.firstT, show ¬ c < 128 by omega, show ¬ c < 194 by omega, show ¬ c < 224 by omega, show ¬ c < 237 by omega, show c < 240 by omega, show c < 244 by omega, show ¬ c = 224 by omega, show ¬ c = 237 by omega, show ¬ c = 240 by omega, show ¬ c = 244 by omega]) (by simp [Lib.firstT, Lib.accLo, show ¬ c < 128 by omega, show ¬ c < 194 by omega, show ¬ c < 224 by omega, show ¬ c < 237 by omega, show c < 240 by omega, show c < 244 by omega, show ¬ c = 224 by omega, show ¬ c = 237 by omega, show ¬ c = 240 by omega, show ¬ c = 244 by omega]) (by simp [Lib.firstT, Lib.accHi, show ¬ c < 128 by omega, show ¬ c < 194 by omega, show ¬ c < 224 by omega, show ¬ c < 237 by omega, show c < 240 by omega, show c < 244 by omega, show ¬ c = 224 by omega, show ¬ c = 237 by omega, show ¬ c = 240 by omega, show ¬ c = 244 by omega])
    rw [e]
    by_cases hT : TailP s 3 128 191
    · rw [(tail_3 s 128 191).1 hT]
      exact wide_ee_t s w c h0 hc (by omega) (by omega) hT
    · rw [(tail_3 s 128 191).2 hT]
      exact wide_ee_f s w c h0 hc (by omega) (by omega) hT
  by_cases c6 : c ≤ 240
  · have e : wideN s = (Lib.checkN s.size (by8 s 1) (by8 s 2) (by8 s 3) 4 144 191).getD 0 := wideN_of s c _ _ _ hc h1 (by simp [Lib.firstT, show ¬ c < 128 by omega, show ¬ c < 194 by omega, show ¬ c < 224 by omega, show ¬ c < 237 by omega, show ¬ c < 240 by omega, show c < 244 by omega, show ¬ c = 224 by omega, show ¬ c = 237 by omega, show ¬ c = 244 by omega, show c = 240 by omega]) (by simp [Lib.firstT, Lib.accLo, show ¬ c < 128 by omega, show ¬ c < 194 by omega, show ¬ c < 224 by omega, show ¬ c < 237 by omega, show ¬ c < 240 by omega, show c < 244 by omega, show ¬ c = 224 by omega, show ¬ c = 237 by omega, show ¬ c = 244 by omega, show c = 240 by omega]) (by simp [Lib.firstT, Lib.accHi, show ¬ c < 128 by omega, show ¬ c < 194 by omega, show ¬ c < 224 by omega, show ¬ c < 237 by omega, show ¬ c < 240 by omega, show c < 244 by omega, show ¬ c = 224 by omega, show ¬ c = 237 by omega, show ¬ c = 244 by omega, show c = 240 by omega])
    rw [e]
    by_cases hT : TailP s 4 144 191
    · rw [(tail_4 s 144 191).1 hT]
      exact wide_f0_t s w c h0 hc (by omega) (by omega) hT
    · rw [(tail_4 s 144 191).2 hT]
      exact wide_f0_f s w c h0 hc (by omega) (by omega) hT
  by_cases c7 : c ≤ 243
  · have e : wideN s = (Lib.checkN s.size (by8 s 1) (by8 s 2) (by8 s 3) 4 128 191).getD 0 := wideN_of s c _ _ _ hc h1 (by simp [Lib.firstT, show ¬ c < 128 by omega, show ¬ c < 194 by omega, show ¬ c < 224 by omega, show ¬ c < 237 by omega, show ¬ c < 240 by omega, show c < 244 by omega, show ¬ c = 224 by omega, show ¬ c = 237 by omega, show ¬ c = 240 by omega, show ¬ c = 244 by omega]) (by simp [Lib.firstT, Lib.accLo, show ¬ c < 128 by omega, show ¬ c < 194 by omega, show ¬ c < 224 by omega, show ¬ c < 237 by omega, show ¬ c < 240 by omega, show c < 244 by omega, show ¬ c = 224 by omega, show ¬ c = 237 by omega, show ¬ c = 240 by omega, show ¬ c = 244 by omega]) (by simp [Lib.firstT, Lib.accHi, show ¬ c < 128 by omega, show ¬ c < 194 by omega, show ¬ c < 224 by omega, show ¬ c < 237 by omega, show ¬ c < 240 by omega, show c < 244 by omega, show ¬ c = 224 by omega, show ¬ c = 237 by omega, show ¬ c = 240 by omega, show ¬ c = 244 by omega])
    rw [e]
    by_cases hT : TailP s 4 128 191
    · rw [(tail_4 s 128 191).1 hT]
      exact wide_f1_t s w c h0 hc (by omega) (by omega) hT
    · rw [(tail_4 s 128 191).2 hT]
      exact wide_f1_f s w c h0 hc (by omega) (by omega) hT
  by_cases c8 : c ≤ 244
  · have e : wideN s = (Lib.checkN s.size (by8 s 1) (by8 s 2) (by8 s 3) 4 128 143).getD 0 := wideN_of s c _ _ _ hc h1 (by simp [Lib.firstT, show ¬ c < 128 by omega, show ¬ c < 194 by omega, show ¬ c < 224 by omega, show ¬ c < 237 by omega, show ¬ c < 240 by omega, show ¬ c < 244 by omega, show ¬ c = 224 by omega, show ¬ c = 237 by omega, show ¬ c = 240 by omega, show c = 244 by omega]) (by simp [Lib.firstT, Lib.accLo, show ¬ c < 128 by omega, show ¬ c < 194 by omega, show ¬ c < 224 by omega, show ¬ c < 237 by omega, show ¬ c < 240 by omega, show ¬ c < 244 by omega, show ¬ c = 224 by omega, show ¬ c = 237 by omega, show ¬ c = 240 by omega, show c = 244 by omega]) (by simp [Lib.firstT, Lib.accHi, show ¬ c < 128 by omega, show ¬ c < 194 by omega, show ¬ c < 224 by omega, show ¬ c < 237 by omega, show ¬ c < 240 by omega, show ¬ c < 244 by omega, show ¬ c = 224 by omega, show ¬ c = 237 by omega, show ¬ c = 240 by omega, show c = 244 by omega])
    rw [e]
    by_cases hT : TailP s 4 128 143
    · rw [(tail_4 s 128 143).1 hT]
      exact wide_f4_t s w c h0 hc (by omega) (by omega) hT
    · rw [(tail_4 s 128 143).2 hT]
      exact wide_f4_f s w c h0 hc (by omega) (by omega) hT
  have e1 : Lib.firstT c % 8 = 1 := by simp [Lib.firstT, show ¬ c < 128 by omega, show ¬ c < 194 by omega, show ¬ c < 224 by omega, show ¬ c < 237 by omega, show ¬ c < 240 by omega, show ¬ c < 244 by omega, show ¬ c = 224 by omega, show ¬ c = 237 by omega, show ¬ c = 240 by omega, show ¬ c = 244 by omega]
  have e : wideN s = 0 := by rw [wideN_of s c _ _ _ hc h1 e1 rfl rfl, check_none _ _ _ _ _ _ _ (by decide) (by decide) (by decide)]; rfl
  rw [e]
  exact wide_hi s w c h0 hc (by omega) (by omega)

theorem check_le {n b1 b2 b3 sz lo hi k : Nat} (h : Lib.checkN n b1 b2 b3 sz lo hi = some k) : k ≤ n ∧ 2 ≤ k := by
  unfold Lib.checkN at h
  repeat' split at h
  all_goals first | (cases h; done) | (simp at h; omega)
theorem wideN_le (s : ByteArray) (h0 : 0 < s.size) : wideN s ≤ s.size := by
  unfold wideN
  split
  · omega
  · cases hq : Lib.checkN s.size (by8 s 1) (by8 s 2) (by8 s 3) (Lib.firstT (by8 s 0) % 8) (Lib.accLo (Lib.firstT (by8 s 0) / 16)) (Lib.accHi (Lib.firstT (by8 s 0) / 16)) with
    | none => simp
    | some k => simpa using (check_le hq).1
theorem ne_nil {s : ByteArray} (h0 : 0 < s.size) : s.data.toList ≠ [] := by
  intro e
  have : s.data.toList.length = s.size := by simp
  rw [e] at this
  simp at this
  omega
theorem valid_wide (s : ByteArray) (h0 : 0 < s.size) : Lib.validD s.data.toList = if wideN s = 0 then false else Lib.validD (s.data.toList.drop (wideN s)) := by
  have hne := ne_nil h0
  by_cases h1 : by8 s 0 < 128
  · have e : wideN s = 1 := by unfold wideN; rw [if_pos h1]
    rw [e, if_neg (by decide)]
    unfold by8 at h1
    cases hl : s.data.toList with
    | nil => exact absurd hl hne
    | cons b t =>
      rw [hl] at h1
      exact Lib.validD_cons b t (by simpa using h1)
  · have h128 : 128 ≤ (s.data.toList.getD 0 0).toNat := by unfold by8 at h1; omega
    rw [Lib.validD_lead _ hne h128]
    have hlen : s.data.toList.length = s.size := by simp
    rw [hlen]
    show (match Lib.checkN s.size (by8 s 1) (by8 s 2) (by8 s 3) (Lib.firstT (by8 s 0) % 8) (Lib.accLo (Lib.firstT (by8 s 0) / 16)) (Lib.accHi (Lib.firstT (by8 s 0) / 16)) with | none => false | some k => Lib.validD (s.data.toList.drop k)) = _
    cases hq : Lib.checkN s.size (by8 s 1) (by8 s 2) (by8 s 3) (Lib.firstT (by8 s 0) % 8) (Lib.accLo (Lib.firstT (by8 s 0) / 16)) (Lib.accHi (Lib.firstT (by8 s 0) / 16)) with
    | none =>
      have e : wideN s = 0 := by unfold wideN; rw [if_neg h1, hq]; rfl
      rw [e, if_pos rfl]
    | some k =>
      have e : wideN s = k := by unfold wideN; rw [if_neg h1, hq]; rfl
      have := (check_le hq).2
      rw [e, if_neg (by omega)]

set_option maxRecDepth 100000 in
set_option maxHeartbeats 1000000 in
theorem utf8_any (s : ByteArray) (w : World) (hs : s.size ≤ 140737488355328) :
    Calls Tryd.prog 32 #[.string s] w fun e w' => e = .returned (.bool (Lib.validD s.data.toList)) ∧ w' = w := by
  obtain ⟨A, hA⟩ : ∃ A, Lib.validD s.data.toList = A := ⟨_, rfl⟩
  rw [hA]
  have HA : Hid (Lib.validD s.data.toList = A) := hA
  clear hA
  go_enter Tryd.func32, Tryd.ntmps32
  go_wp2
  go_loopw [3] (fun i wr => ∃ k : Nat, k ≤ s.size ∧ i = .int .i64 k ∧ wr = w ∧ Hid (Lib.validD (s.data.toList.drop k) = A)) (fun i _ => s.size - (intOf i).toNat)
  case atStart => exact ⟨0, by omega, rfl, rfl, HA⟩
  case round =>
    obtain ⟨k, hk, rfl, rfl, hv⟩ := hrel
    by_cases h1 : k < s.size
    · have h1' : (k : Int) < (s.size : Int) := by omega
      obtain ⟨t, ht⟩ : ∃ t, s.extract k s.size = t := ⟨_, rfl⟩
      have zt : t.size = s.size - k := by rw [← ht, Lib.ext_size]
      have lt : t.data.toList = s.data.toList.drop k := by rw [← ht, Lib.ext_list]
      have ht' : Hid (s.extract k s.size = t) := ht
      have VW := valid_wide t (by omega)
      have WL := wideN_le t (by omega)
      have HW : Hid (∀ wx, Calls Tryd.prog 47 #[.string t] wx fun e w' => e = .returned (.int .i64 (wideN t : Int)) ∧ w' = wx) := fun wx => wide_any t wx (by omega)
      rw [lt] at VW
      rw [hv.out] at VW
      generalize wideN t = n at *
      have VW' : Hid (A = if n = 0 then false else Lib.validD ((s.data.toList.drop k).drop n)) := VW
      clear VW HA
      by_cases h0 : n = 0
      · subst h0
        obtain rfl : A = false := VW'.out.trans (if_pos rfl)
        clear VW'
        go_wp2_with fail
        refine (HW.out _).mono ?_
        rintro e _ ⟨rfl, rfl⟩
        go_wp2
        go_ret
        exact ⟨rfl, rfl⟩
      · have e2 : Hid (Lib.validD (s.data.toList.drop (k + n)) = A) := by
          show _ = _
          rw [VW'.out, if_neg h0, List.drop_drop]
        have hn0 : ¬ (n : Int) = 0 := by omega
        clear VW'
        go_wp2_with fail
        refine (HW.out _).mono ?_
        rintro e W ⟨rfl, rfl⟩
        go_wp2
        go_roundw
        case rel => exact ⟨k + n, by omega, by go_num, by trivial, e2⟩
        case measure => simp [intOf]; omega
    · have h1' : ¬ (k : Int) < (s.size : Int) := by omega
      obtain rfl : A = true := by
        rw [← hv.out, List.drop_eq_nil_of_le (by simp; omega)]
        rfl
      clear HA hv
      go_wp2
      go_ret
      exact ⟨rfl, rfl⟩
end Go.Proofs.YtepkanibcljdkaaDoor.Q

namespace Go.Proofs.YtepkanibcljdkaaDoor.Q
open Go.Shelf Go.RowKit
def laysValid_ren : Go.Shelf.Ren := ⟨fun | 196 => 44 | 259 => 56 | n => n, fun | 9 => 9 | 4 => 4 | 3 => 3 | 5 => 5 | 12 => 12 | 119 => 76 | 0 => 0 | 46 => 80 | 139 => 79 | 138 => 78 | 53 => 73 | n => n, fun | 3 => 3 | 4 => 4 | n => n⟩
theorem laysValid : Lays.n196 Tryd.prog laysValid_ren := {
  mixed := by kernel_rfl
  f196 := Tryd.func44.trans (congrArg some (by kernel_rfl))
  f259 := Tryd.func56.trans (congrArg some (by kernel_rfl))
  t0 := Tryd.underlying0
  a0 := Tryd.isAgg0
  z0 := Tryd.sizeOf0
  v0 := Tryd.zeroValue0
  t3 := Tryd.underlying3
  a3 := Tryd.isAgg3
  z3 := Tryd.sizeOf3
  v3 := Tryd.zeroValue3
  t4 := Tryd.underlying4
  a4 := Tryd.isAgg4
  z4 := Tryd.sizeOf4
  v4 := Tryd.zeroValue4
  t5 := Tryd.underlying5
  a5 := Tryd.isAgg5
  z5 := Tryd.sizeOf5
  v5 := Tryd.zeroValue5
  t9 := Tryd.underlying9
  a9 := Tryd.isAgg9
  z9 := Tryd.sizeOf9
  v9 := Tryd.zeroValue9
  t12 := Tryd.underlying12
  a12 := Tryd.isAgg12
  z12 := Tryd.sizeOf12
  v12 := Tryd.zeroValue12
  t46 := Tryd.underlying80
  a46 := Tryd.isAgg80
  z46 := Tryd.sizeOf80
  v46 := Tryd.zeroValue80
  t53 := Tryd.underlying73
  a53 := Tryd.isAgg73
  z53 := Tryd.sizeOf73
  v53 := Tryd.zeroValue73
  t119 := Tryd.underlying76
  a119 := Tryd.isAgg76
  z119 := Tryd.sizeOf76
  t138 := Tryd.underlying78
  a138 := Tryd.isAgg78
  z138 := Tryd.sizeOf78
  v138 := Tryd.zeroValue78
  t139 := Tryd.underlying79
  a139 := Tryd.isAgg79
  z139 := Tryd.sizeOf79
  v139 := Tryd.zeroValue79
  g3 := by kernel_rfl
  g4 := by kernel_rfl }

def Tabs (w : World) : Prop := Lib.Utf8Tabs 3 4 w
theorem Tabs.below {w w' : World} (h : Tabs w) (hb : Below w.heap.size w w') : Tabs w' := Utf8Tabs_below h hb
theorem valid_any (s : ByteArray) (w : World) (hs : s.size ≤ 9223372036854775807) (hT : Tabs w) :
    Calls Tryd.prog 44 #[.string s] w fun e w' => e = .returned (.bool (Lib.validD s.data.toList)) ∧ Below w.heap.size w w' :=
  Any.utf8_ValidString laysValid s w hs hT
end Go.Proofs.YtepkanibcljdkaaDoor.Q

namespace Go.Proofs.YtepkanibcljdkaaDoor.Q
open Go.RowKit
set_option linter.unusedVariables false
set_option linter.unusedSimpArgs false

/-- The world with its iterator moved. -/
def setIter (w : World) (q : Nat) (s : ByteArray) (p : Nat) : World := { w with heap := w.heap.setIfInBounds q (.stringIter s p) }
theorem setIter_at {w : World} {q : Nat} {s : ByteArray} {p0 p : Nat} (h : w.heap[q]? = some (.stringIter s p0)) : (setIter w q s p).heap[q]? = some (.stringIter s p) := by
  have hq := (Array.getElem?_eq_some_iff.1 h).1
  simp [setIter, hq]
theorem setIter_other {w : World} {q k : Nat} {s : ByteArray} {p : Nat} (h : k ≠ q) : (setIter w q s p).heap[k]? = w.heap[k]? := by
  simp [setIter, Array.getElem?_setIfInBounds, h.symm]
theorem setIter_size (w : World) (q : Nat) (s : ByteArray) (p : Nat) : (setIter w q s p).heap.size = w.heap.size := by simp [setIter]
theorem setIter_below {w0 w : World} {base q : Nat} {s : ByteArray} {p : Nat} (h : Below base w0 w) (hq : base ≤ q) : Below base w0 (setIter w q s p) :=
  ⟨h.os, h.tape, h.output, by rw [setIter_size]; exact h.size, fun k hk => by rw [setIter_other (by omega)]; exact h.block k hk⟩
theorem setIter_own {w : World} {base q : Nat} {s : ByteArray} {p : Nat} {v : Value} {L : List UInt8} (h : OwnB w base v L) (hq : v.ownBlock ≠ some q) : OwnB (setIter w q s p) base v L := by
  refine ⟨h.1, ?_⟩
  rcases h.2 with hn | ⟨g, cap, cur, rfl, hbg, hg, rest⟩
  · exact .inl hn
  · refine .inr ⟨g, cap, cur, rfl, hbg, ?_, rest⟩
    rw [setIter_other (fun e => hq (by simp [Value.ownBlock]; exact e))]
    exact hg
theorem next_some (w : World) (q : Nat) (s : ByteArray) (pos : Nat) (ty : TypeId) (hq : w.heap[q]? = some (.stringIter s pos)) (h : pos < s.size) :
    (Instr.next (.pointer (some ⟨q, 0, none⟩)) true ty).run Tryd.prog w = .ok (.tuple #[.bool true, .int .i64 pos, .int .i32 ((Lib.decodeL (s.data.toList.drop pos)).1 : Nat)]) (setIter w q s (pos + (Lib.decodeL (s.data.toList.drop pos)).2)) := by
  rw [← decode_drop]
  simp [Instr.next, getObj, setObj, Sem.run, hq, h, goInt, setIter]
theorem next_none (w : World) (q : Nat) (s : ByteArray) (pos : Nat) (ty : TypeId) (hq : w.heap[q]? = some (.stringIter s pos)) (h : ¬ pos < s.size) :
    (Instr.next (.pointer (some ⟨q, 0, none⟩)) true ty).run Tryd.prog w = .ok (.tuple #[.bool false]) w := by
  simp [Instr.next, getObj, Sem.run, hq, h]
end Go.Proofs.YtepkanibcljdkaaDoor.Q

