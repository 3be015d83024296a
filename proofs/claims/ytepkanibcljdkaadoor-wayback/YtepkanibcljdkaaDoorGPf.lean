import Derived.Test.YtepkanibcljdkaaDoorGQUv
import Derived.Test.YtepkanibcljdkaaDoorGQRo
namespace Go.Proofs.YtepkanibcljdkaaDoor
open Go.RowKit
set_option linter.unusedVariables false
set_option linter.unusedSimpArgs false

/-- The reference's number at the front. -/
def nuT (t : ByteArray) : Nat × Nat × Bool := if t.size = 0 ∨ dgC (K.V.by8 t 0) = false then (0, 0, false) else if K.V.by8 t 0 = 48 then (0, 1, true) else numP t 0 t.size 0 0
set_option maxRecDepth 100000 in
set_option maxHeartbeats 1000000 in
theorem rnumber_any (s : ByteArray) (w : World) (hs : s.size ≤ 5000) :
    Calls Tryd.prog 41 #[.string s] w fun e w' => e = .returned (.tuple #[.int .i64 ((nuT s).1 : Int), .int .i64 ((nuT s).2.1 : Int), .bool (nuT s).2.2]) ∧ w' = w := by
  have HX : Hid (∀ k, k < s.size → ∀ wx, (Instr.index 9 (.string s) (.int .i64 (k : Int))).run Tryd.prog wx = .ok (.int .u8 (K.V.by8 s k : Int)) wx) := fun k h wx => K.V.index_str s k wx h
  have HI : Hid (nuT s = if s.size = 0 ∨ dgC (K.V.by8 s 0) = false then (0, 0, false) else if K.V.by8 s 0 = 48 then (0, 1, true) else numP s 0 s.size 0 0) := rfl
  generalize nuT s = R at *
  by_cases h0 : s.size = 0
  · have e0 : s.toList.isEmpty = true := empty_size h0
    have HRR : Hid (R = (0, 0, false)) := by show _ = _; rw [HI.out, if_pos (.inl h0)]
    clear HI HX
    go_enter Tryd.func41, Tryd.ntmps41
    go_wp2
    go_ret3
    exact ⟨by rw [HRR.out]; rfl, rfl⟩
  · have e0 : s.toList.isEmpty = false := K.V.not_empty s (by omega)
    have ix0 : ∀ wx, (Instr.index 9 (.string s) (.int .i64 0)).run Tryd.prog wx = .ok (.int .u8 (K.V.by8 s 0 : Int)) wx := HX.out 0 (by omega)
    have hb0 := K.V.by8_lt s 0
    cases hd0 : dgC (K.V.by8 s 0) with
    | false =>
      have HRR : Hid (R = (0, 0, false)) := by show _ = _; rw [HI.out, if_pos (.inr hd0)]
      have hno := @dg_no _ hd0
      clear HI HX hd0
      generalize K.V.by8 s 0 = c at *
      by_cases h48 : (48 : Int) ≤ (c : Int)
      · have h57 := hno h48
        have h48b : ¬ (c : Int) < 48 := by omega
        have h57b : (57 : Int) < (c : Int) := by omega
        clear hno
        go_enter Tryd.func41, Tryd.ntmps41
        go_wp2
        go_ret3
        exact ⟨by rw [HRR.out]; rfl, rfl⟩
      · have h48b : (c : Int) < 48 := by omega
        clear hno
        go_enter Tryd.func41, Tryd.ntmps41
        go_wp2
        go_ret3
        exact ⟨by rw [HRR.out]; rfl, rfl⟩
    | true =>
      obtain ⟨d1, d2⟩ := dg_yes hd0
      have d1b : ¬ (K.V.by8 s 0 : Int) < 48 := by omega
      have d2b : ¬ (57 : Int) < (K.V.by8 s 0 : Int) := by omega
      by_cases h48 : K.V.by8 s 0 = 48
      · have HRR : Hid (R = (0, 1, true)) := by show _ = _; rw [HI.out, if_neg (by rw [hd0]; simp [h0]), if_pos h48]
        rw [h48] at ix0
        clear HI HX hd0 d1 d2 d1b d2b h48 hb0
        go_enter Tryd.func41, Tryd.ntmps41
        go_wp2
        go_ret3
        exact ⟨by rw [HRR.out]; rfl, rfl⟩
      · have HR : Hid (R = numP s 0 s.size 0 0) := by show _ = _; rw [HI.out, if_neg (by rw [hd0]; simp [h0]), if_neg h48]
        have H48 := Hid.mk' h48
        have h48b : ((K.V.by8 s 0 : Int) == 48) = false := by simp; omega
        have HB := Hid.mk' (K.V.by8_lt s)
        have HD0 := Hid.mk' hd0
        clear HI h48 hd0
        generalize hc0 : K.V.by8 s 0 = c0 at *
        have HC0 := Hid.mk' hc0
        clear hc0
        go_enter Tryd.func41, Tryd.ntmps41
        go_wp2
        go_loopw [5, 6] (fun v i wr => ∃ k n : Nat, k ≤ s.size ∧ i = .int .i64 k ∧ v = .int .i64 n ∧ n ≤ 2147483647 ∧ wr = w ∧ Hid (R = numP s 0 (s.size - k) k n)) (fun _ i _ => s.size - (intOf i).toNat)
        case atStart => exact ⟨0, 0, by omega, rfl, rfl, by omega, rfl, HR⟩
        case round =>
          obtain ⟨k, n, hk, rfl, rfl, hn, rfl, HN⟩ := hrel
          clear HR
          have HE : Hid (K.V.by8 s k ≠ 48 ∨ True) := .inr trivial
          by_cases hks : k < s.size
          · have hks' : (k : Int) < (s.size : Int) := by omega
            have ix := HX.out k hks
            have hb := HB.out k
            have hf : s.size - k = (s.size - (k + 1)) + 1 := by omega
            have HN2 : Hid (R = numP s 0 (s.size - (k + 1) + 1) k n) := by show _ = _; rw [HN.out, hf]
            cases hd : dgC (K.V.by8 s k) with
            | true =>
              obtain ⟨f1, f2⟩ := dg_yes hd
              obtain ⟨d, hdd⟩ : ∃ d, K.V.by8 s k = d + 48 := ⟨K.V.by8 s k - 48, by omega⟩
              have hd9 : d ≤ 9 := by omega
              have hval : n * 10 + (K.V.by8 s k - 48) = n * 10 + d := by omega
              have HBAD : Hid (2147483647 < n * 10 + d → R = (0, k, false)) := fun h => by rw [HN2.out]; exact numP_bad hd (.inl (by rw [hval]; exact h))
              have HGO : Hid (¬ 2147483647 < n * 10 + d → R = numP s 0 (s.size - (k + 1)) (k + 1) (n * 10 + d)) := fun h => by
                rw [HN2.out, numP_go hd (by rw [hval]; exact fun e => e.elim (fun x => h x) (fun x => H48.out (by rw [← HC0.out]; exact x.2))), hval]
              rw [hdd] at ix f1 f2 hb
              have e1 : ((d + 48 : Nat) : Int) - 48 = (d : Int) := by omega
              have e2 : (d : Int) % 256 = (d : Int) := by omega
              clear hd HN HN2 hval hdd hf
              by_cases hov : 2147483647 < n * 10 + d
              · have hov' : (2147483647 : Int) < (n : Int) * 10 + (d : Int) := by omega
                have HRR : Hid (R = (0, k, false)) := HBAD.out hov
                clear HBAD HGO
                go_wp2
                go_ret3
                exact ⟨by rw [HRR.out]; rfl, rfl⟩
              · have hov' : ¬ (2147483647 : Int) < (n : Int) * 10 + (d : Int) := by omega
                have HN3 := Hid.mk' (HGO.out hov)
                clear HBAD HGO
                go_wp2
                go_roundw
                case rel => exact ⟨k + 1, n * 10 + d, by omega, by go_num, by go_num, by omega, by trivial, HN3⟩
                case measure => simp [intOf]; omega
            | false =>
              have hk0 : k ≠ 0 := fun e => by
                subst e
                have h1 := HC0.out
                have h2 := HD0.out
                rw [h1] at hd
                rw [hd] at h2
                cases h2
              have HRR : Hid (R = (n, k, true)) := by show _ = _; rw [HN2.out, numP_end (.inr hd), if_neg hk0]
              have hno := @dg_no _ hd
              clear hd HN HN2 hf
              generalize K.V.by8 s k = c at *
              by_cases h48 : (48 : Int) ≤ (c : Int)
              · have h57 := hno h48
                go_wp2
                go_ret3
                exact ⟨by rw [HRR.out]; rfl, rfl⟩
              · clear hno
                go_wp2
                go_ret3
                exact ⟨by rw [HRR.out]; rfl, rfl⟩
          · have hks' : ¬ (k : Int) < (s.size : Int) := by omega
            have HRR : Hid (R = (n, k, true)) := by show _ = _; rw [HN.out, numP_end (.inl (by omega)), if_neg (by omega)]
            clear HN
            go_wp2
            go_ret3
            exact ⟨by rw [HRR.out]; rfl, rfl⟩
end Go.Proofs.YtepkanibcljdkaaDoor

namespace Go.Proofs.YtepkanibcljdkaaDoor
open Go.RowKit
set_option linter.unusedVariables false
set_option linter.unusedSimpArgs false

theorem ub_of (t : ByteArray) (w : World) (hs : t.size ≤ 140737488351232) (hT : Q.Tabs w) : Q.UB t := by
  obtain ⟨e, w', fr, h, _⟩ := Q.unquote_b t w hs hT []
  exact h.2.2
theorem tw_ge {f : UInt8 → Bool} : ∀ (l : List UInt8) (m : Nat), m ≤ l.length → (∀ j (h : j < l.length), j < m → f l[j] = true) → m ≤ (l.takeWhile f).length
  | _, 0, _, _ => Nat.zero_le _
  | [], m + 1, h, _ => by simp at h
  | a :: l, m + 1, h, h1 => by
    have h0 := h1 0 (by simp) (by omega)
    simp at h0
    have ih := tw_ge (f := f) l m (by simpa using h) (fun j hj hjm => by have := h1 (j + 1) (by simpa using hj) (by omega); simpa using this)
    simp [List.takeWhile_cons, h0]
    exact ih
theorem plN_ge {s : ByteArray} {m : Nat} (hm : m ≤ s.size) (h : ∀ j, j < m → plC (K.V.by8 s j) = true) : m ≤ plN s := by
  have hz : s.data.toList.length = s.size := Array.length_toList
  refine tw_ge _ m (by omega) (fun j hj hjm => ?_)
  have := h j hjm
  rw [by8_at s j hj] at this
  exact this
/-- A key in quotes at the front. -/
noncomputable def quT (t : ByteArray) : ByteArray × Nat × Bool :=
  if (Q.unqA t).2.2 ≠ 0 then (⟨#[]⟩, (Q.unqA t).2.1.toNat, false)
  else if keyB ⟨(Q.unqA t).1.toArray⟩ = false ∨ plS ⟨(Q.unqA t).1.toArray⟩ = true then (⟨#[]⟩, 0, false)
  else (⟨(Q.unqA t).1.toArray⟩, (Q.unqA t).2.1.toNat, true)
/-- A key without them. -/
def plT (t : ByteArray) : ByteArray × Nat × Bool :=
  if plN t = 0 then (⟨#[]⟩, 0, false) else if 64 < plN t then (⟨#[]⟩, 64, false) else (t.extract 0 (plN t), plN t, true)
noncomputable def kyT (t : ByteArray) : ByteArray × Nat × Bool := if 0 < t.size ∧ K.V.by8 t 0 = 34 then quT t else plT t
theorem sl_to (s : ByteArray) (m : Nat) (h2 : m ≤ s.size) (w : World) : (Instr.slice 9 (.string s) none (some (.int .i64 (m : Int))) none).run Tryd.prog w = .ok (.string (s.extract 0 m)) w := by
  have h3 : ¬ ((m : Int) < 0) := by omega
  simp [Instr.slice, run_underlying Tryd.underlying9, Instr.sliceBounds, Instr.sliceBound, asIntOf, h3, h2]
set_option maxRecDepth 100000 in
set_option maxHeartbeats 1000000 in
theorem rkeyq_any (s : ByteArray) (w : World) (hs : s.size ≤ 5000) (h0 : 0 < s.size) (h34 : K.V.by8 s 0 = 34) (hU : Q.UB s) :
    Calls Tryd.prog 40 #[.string s] w fun e w' => e = .returned (.tuple #[.string (quT s).1, .int .i64 ((quT s).2.1 : Int), .bool (quT s).2.2]) ∧ Below w.heap.size w w' := by
  have ix0 : ∀ wx, (Instr.index 9 (.string s) (.int .i64 0)).run Tryd.prog wx = .ok (.int .u8 (K.V.by8 s 0 : Int)) wx := fun wx => K.V.index_str s 0 wx h0
  rw [h34] at ix0
  have e0 : s.toList.isEmpty = false := K.V.not_empty s h0
  have H := Hid.mk' (Q.runquote_any s w (by omega))
  have HI : Hid (quT s = if (Q.unqA s).2.2 ≠ 0 then (⟨#[]⟩, (Q.unqA s).2.1.toNat, false)
    else if keyB ⟨(Q.unqA s).1.toArray⟩ = false ∨ plS ⟨(Q.unqA s).1.toArray⟩ = true then (⟨#[]⟩, 0, false)
    else (⟨(Q.unqA s).1.toArray⟩, (Q.unqA s).2.1.toNat, true)) := rfl
  unfold Q.UnqOut at H
  unfold Q.UB at hU
  generalize quT s = R at *
  generalize Q.unqA s = U at *
  obtain ⟨l, n, er⟩ := U
  simp only [] at H HI hU
  obtain ⟨u1, u2, u3, u4, u5⟩ := hU
  obtain ⟨m, rfl⟩ := Int.eq_ofNat_of_zero_le u1
  obtain ⟨key, hkey⟩ : ∃ K : ByteArray, K = ⟨l.toArray⟩ := ⟨_, rfl⟩
  rw [← hkey] at H HI
  have hkl : key.size = l.length := by rw [hkey, ba_size]
  clear hkey h34
  go_enter Tryd.func40, Tryd.ntmps40
  go_wp2_with fail
  refine H.out.mono ?_
  rintro e w1 ⟨rfl, b1⟩
  have BW := Hid.mk' b1
  rcases u4 with rfl | rfl
  · have HK : Hid (∀ wx, Calls Tryd.prog 36 #[.string key] wx fun e w' => e = .returned (.bool (keyB key)) ∧ w' = wx) := fun wx => rkey_any key wx
    have HP : Hid (∀ wx, Calls Tryd.prog 19 #[.string key] wx fun e w' => e = .returned (.bool (plS key && decide (0 < key.size))) ∧ w' = wx) := fun wx => rplain_any key wx (by omega)
    clear H b1 u3
    cases hkb : keyB key with
    | false =>
      have HRR : Hid (R = (⟨#[]⟩, 0, false)) := by show _ = _; rw [HI.out, if_neg (by simp), if_pos (.inl hkb)]
      rw [hkb] at HK
      clear HI hkb HP
      go_wp2_with fail
      refine (HK.out _).mono ?_
      rintro e _ ⟨rfl, rfl⟩
      go_wp2
      go_ret3
      exact ⟨by rw [HRR.out]; rfl, BW.out⟩
    | true =>
      have hk0 : 0 < key.size := by unfold keyB at hkb; simp only [Bool.and_eq_true, decide_eq_true_eq] at hkb; exact hkb.1.1
      rw [hkb] at HK
      rw [decide_eq_true hk0, Bool.and_true] at HP
      by_cases hpl : plS key = true
      · have HRR : Hid (R = (⟨#[]⟩, 0, false)) := by show _ = _; rw [HI.out, if_neg (by simp), if_pos (.inr hpl)]
        rw [hpl] at HP
        clear HI hkb hpl
        go_wp2_with fail
        refine (HK.out _).mono ?_
        rintro e _ ⟨rfl, rfl⟩
        go_wp2_with fail
        refine (HP.out _).mono ?_
        rintro e _ ⟨rfl, rfl⟩
        go_wp2
        go_ret3
        exact ⟨by rw [HRR.out]; rfl, BW.out⟩
      · have HRR : Hid (R = (key, m, true)) := by show _ = _; rw [HI.out, if_neg (by simp), if_neg (by rw [hkb]; simp [hpl])]; rfl
        have hpl' : plS key = false := by simpa using hpl
        rw [hpl'] at HP
        clear HI hkb hpl hpl'
        go_wp2_with fail
        refine (HK.out _).mono ?_
        rintro e _ ⟨rfl, rfl⟩
        go_wp2_with fail
        refine (HP.out _).mono ?_
        rintro e _ ⟨rfl, rfl⟩
        go_wp2
        go_ret3
        exact ⟨by rw [HRR.out]; rfl, BW.out⟩
  · have HRR : Hid (R = (⟨#[]⟩, m, false)) := by show _ = _; rw [HI.out, if_pos (by simp)]; rfl
    clear HI H b1 u3
    go_wp2
    go_ret3
    exact ⟨by rw [HRR.out]; rfl, BW.out⟩
end Go.Proofs.YtepkanibcljdkaaDoor

namespace Go.Proofs.YtepkanibcljdkaaDoor
open Go.RowKit
set_option linter.unusedVariables false
set_option linter.unusedSimpArgs false

set_option maxRecDepth 100000 in
set_option maxHeartbeats 1000000 in
theorem rkeyp_any (s : ByteArray) (w : World) (hs : s.size ≤ 5000) (hq : ¬ (0 < s.size ∧ K.V.by8 s 0 = 34)) :
    Calls Tryd.prog 40 #[.string s] w fun e w' => e = .returned (.tuple #[.string (plT s).1, .int .i64 ((plT s).2.1 : Int), .bool (plT s).2.2]) ∧ w' = w := by
  have HX : Hid (∀ k, k < s.size → ∀ wx, (Instr.index 9 (.string s) (.int .i64 (k : Int))).run Tryd.prog wx = .ok (.int .u8 (K.V.by8 s k : Int)) wx) := fun k h wx => K.V.index_str s k wx h
  have HB := Hid.mk' (K.V.by8_lt s)
  have HC : Hid (∀ (c : Nat) (wx : World), c < 256 → Calls Tryd.prog 31 #[.int .u8 (c : Int)] wx fun e w' => e = .returned (.bool (plC c)) ∧ w' = wx) := fun c wx h => rplainC_any c wx h
  have HI : Hid (plT s = if plN s = 0 then (⟨#[]⟩, 0, false) else if 64 < plN s then (⟨#[]⟩, 64, false) else (s.extract 0 (plN s), plN s, true)) := rfl
  generalize plT s = R at *
  by_cases h0 : s.size = 0
  · have e0 : s.toList.isEmpty = true := empty_size h0
    clear hq
    have hpn : plN s = 0 := by have := plN_le s; omega
    have HRR : Hid (R = (⟨#[]⟩, 0, false)) := by show _ = _; rw [HI.out, if_pos hpn]
    have hsz : (s.size : Int) = 0 := by omega
    clear HI hpn
    go_enter Tryd.func40, Tryd.ntmps40
    go_wp2
    refine wp_loop_rounds 1 ?_
    rw [rounds_succ]
    go_wp2
    go_ret3
    exact ⟨by rw [HRR.out]; rfl, rfl⟩
  · have e0 : s.toList.isEmpty = false := K.V.not_empty s (by omega)
    have ix0 : ∀ wx, (Instr.index 9 (.string s) (.int .i64 0)).run Tryd.prog wx = .ok (.int .u8 (K.V.by8 s 0 : Int)) wx := HX.out 0 (by omega)
    have h34 : ((K.V.by8 s 0 : Int) == 34) = false := by
      have : ¬ K.V.by8 s 0 = 34 := fun e => hq ⟨by omega, e⟩
      simp
      omega
    clear hq
    generalize hc0 : K.V.by8 s 0 = c0 at ix0 h34
    clear hc0
    go_enter Tryd.func40, Tryd.ntmps40
    go_wp2
    go_loopw [8] (fun i wr => ∃ k : Nat, k ≤ s.size ∧ k ≤ 64 ∧ i = .int .i64 k ∧ wr = w ∧ Hid (∀ j, j < k → plC (K.V.by8 s j) = true)) (fun i _ => s.size - (intOf i).toNat)
    case atStart => exact ⟨0, by omega, by omega, rfl, rfl, fun j hj => by omega⟩
    case round =>
      obtain ⟨k, hk, hk64, rfl, rfl, HK⟩ := hrel
      by_cases hks : k < s.size
      · have hks' : (k : Int) < (s.size : Int) := by omega
        by_cases h64 : k < 64
        · have h64' : (k : Int) < 64 := by omega
          have ix := HX.out k hks
          have HCC := Hid.mk' (HC.out (K.V.by8 s k) wr (HB.out k))
          cases hok : plC (K.V.by8 s k) with
          | true =>
            have HK2 : Hid (∀ j, j < k + 1 → plC (K.V.by8 s j) = true) := fun j hj => by
              rcases Nat.lt_or_ge j k with h | h
              · exact HK.out j h
              · obtain rfl : j = k := by omega
                exact hok
            rw [hok] at HCC
            clear hok HK
            generalize K.V.by8 s k = c at *
            go_wp2_with fail
            refine HCC.out.mono ?_
            rintro e _ ⟨rfl, rfl⟩
            go_wp2
            go_roundw
            case rel => exact ⟨k + 1, by omega, by omega, by go_num, by trivial, HK2⟩
            case measure => simp [intOf]; omega
          | false =>
            have hpn : plN s = k := plN_at hks HK.out hok
            rw [hok] at HCC
            have SL := sl_to s k (by omega)
            clear hok HK
            generalize K.V.by8 s k = c at *
            by_cases hz : k = 0
            · have HRR : Hid (R = (⟨#[]⟩, k, false)) := by show _ = _; rw [HI.out, hpn, if_pos hz, hz]
              have hzb : ((k : Int) == 0) = true := by simp; omega
              clear HI hpn hz
              go_wp2_with fail
              refine HCC.out.mono ?_
              rintro e _ ⟨rfl, rfl⟩
              go_wp2
              go_ret3
              exact ⟨by rw [HRR.out]; rfl, rfl⟩
            · have HRR : Hid (R = (s.extract 0 k, k, true)) := by show _ = _; rw [HI.out, hpn, if_neg hz, if_neg (by omega)]
              have hzb : ((k : Int) == 0) = false := by simp; omega
              have h64b : ((k : Int) == 64) = false := by simp; omega
              clear HI hpn
              go_wp2_with fail
              refine HCC.out.mono ?_
              rintro e _ ⟨rfl, rfl⟩
              go_wp2
              go_ret3
              exact ⟨by rw [HRR.out]; rfl, rfl⟩
        · have hk64e : k = 64 := by omega
          have h64n : ¬ (k : Int) < 64 := by omega
          have h64b : ((k : Int) == 64) = true := by simp; omega
          have hz0 : ((k : Int) == 0) = false := by simp; omega
          have hs64 : (64 : Int) < (s.size : Int) := by omega
          have ix : ∀ wx, (Instr.index 9 (.string s) (.int .i64 64)).run Tryd.prog wx = .ok (.int .u8 (K.V.by8 s 64 : Int)) wx := HX.out 64 (by omega)
          have HCC := Hid.mk' (HC.out (K.V.by8 s 64) wr (HB.out 64))
          have SL := sl_to s k (by omega)
          cases hok : plC (K.V.by8 s 64) with
          | true =>
            have hpn : 65 ≤ plN s := plN_ge (by omega) (fun j hj => by
              rcases Nat.lt_or_ge j 64 with h | h
              · exact HK.out j (by omega)
              · obtain rfl : j = 64 := by omega
                exact hok)
            have HRR : Hid (R = (⟨#[]⟩, k, false)) := by show _ = _; rw [HI.out, if_neg (by omega), if_pos (by omega), hk64e]
            rw [hok] at HCC
            clear hok HK HI hpn hk64e h64
            generalize K.V.by8 s 64 = c at *
            go_wp2_with fail
            refine HCC.out.mono ?_
            rintro e _ ⟨rfl, rfl⟩
            go_wp2
            go_ret3
            exact ⟨by rw [HRR.out]; rfl, rfl⟩
          | false =>
            have hpn : plN s = k := plN_at hks HK.out (by rw [hk64e]; exact hok)
            have HRR : Hid (R = (s.extract 0 k, k, true)) := by show _ = _; rw [HI.out, hpn, if_neg (by omega), if_neg (by omega)]
            rw [hok] at HCC
            clear hok HK HI hpn hk64e h64
            generalize K.V.by8 s 64 = c at *
            go_wp2_with fail
            refine HCC.out.mono ?_
            rintro e _ ⟨rfl, rfl⟩
            go_wp2
            go_ret3
            exact ⟨by rw [HRR.out]; rfl, rfl⟩
      · obtain rfl : k = s.size := by omega
        have hpn : plN s = s.size := plN_all ((plS_iff s).2 HK.out)
        have hks' : ¬ (s.size : Int) < (s.size : Int) := by omega
        have hs64 : ¬ (64 : Int) < (s.size : Int) := by omega
        have SL := sl_to s s.size (by omega)
        by_cases hz : s.size = 0
        · exact absurd hz h0
        · have HRR : Hid (R = (s.extract 0 s.size, s.size, true)) := by show _ = _; rw [HI.out, hpn, if_neg hz, if_neg (by omega)]
          have hzb : ((s.size : Int) == 0) = false := beq_eq_false_iff_ne.2 (by omega)
          clear HI hpn HK
          by_cases h6 : s.size = 64
          · have h6b : ((s.size : Int) == 64) = true := beq_iff_eq.2 (by omega)
            clear h6
            go_wp2
            go_ret3
            exact ⟨by rw [HRR.out]; simp, rfl⟩
          · have h6b : ((s.size : Int) == 64) = false := beq_eq_false_iff_ne.2 (by omega)
            clear h6
            go_wp2
            go_ret3
            exact ⟨by rw [HRR.out]; simp, rfl⟩
end Go.Proofs.YtepkanibcljdkaaDoor

