import Derived.Test.YtdajeabhhkgibaaHh
import Derived.Test.YtdajeabhhkgibaaF
namespace Go.Proofs.Ytdajeabhhkgibaa
open Go.RowKit
set_option linter.unusedVariables false
set_option linter.unusedSimpArgs false

/-- A hash read out of a slice. -/
theorem loadH (w : World) (b o : Nat) (x : List UInt8) (hx : x.length = 32) (hr : w.rangeAt b o (hcs x)) :
    (Instr.loadAt 30 (.pointer (some ⟨b, o, none⟩))).run Try.prog w = .ok (.agg (bs x)) w := by
  have := run_loadAt_mid (P := Try.prog) w b o 30 (hcs x) _ hr Try.underlying30 rfl (by rw [hcs_len, hx]; exact hsH)
  rwa [hcs_arr] at this
theorem rangeAt_drewN {w : World} {b o : Nat} {cs : List Value} (h : w.rangeAt b o cs) (m : Nat) : (w.drewN m).rangeAt b o cs := h
theorem drawnOn {w wr : World} (h : ∃ m, wr = w.drewN m) (q : Nat) : ∃ m, wr.drewN q = w.drewN m := by
  obtain ⟨m, rfl⟩ := h
  exact ⟨m + q, World.drewN_drewN _ _ _⟩
theorem below_drewN' {B : Nat} {a w : World} (h : Below B a w) (n : Nat) : Below B a (w.drewN n) := ⟨h.os, h.tape, h.output, h.size, h.block⟩

set_option maxRecDepth 100000 in
set_option maxHeartbeats 1000000 in
theorem sameH_any (a1 a2 : Option Addr) (L M : List (List UInt8)) (c1 c2 : Nat) (w : World) (hL : All32 L) (hM : All32 M) (hb : L.length ≤ 4398046511104) (h1 : Hl w a1 L) (h2 : Hl w a2 M) :
    Calls Try.prog 48 #[.slice a1 L.length c1, .slice a2 M.length c2] w fun e w' => e = .returned (.bool (decide (L = M))) ∧ ∃ m, w' = w.drewN m := by
  by_cases hlen : L.length = M.length
  · obtain ⟨n, hn⟩ : ∃ n, n = L.length := ⟨_, rfl⟩
    have hn2 : M.length = n := by omega
    rw [← hn, hn2]
    rw [← hn] at hb
    have HN : Hid (n = L.length) := hn
    have HN2 : Hid (M.length = n) := hn2
    clear hn hn2 hlen
    obtain ⟨r, hr⟩ : ∃ r, r = decide (L = M) := ⟨_, rfl⟩
    have HR : Hid (r = decide (L = M)) := hr
    rw [← hr]
    clear hr
    go_enter Try.func48, Try.ntmps48
    go_wp2
    go_loopw [5] (fun i wr => ∃ k : Nat, k ≤ n ∧ i = .int .i64 k ∧ Hid (∀ j, j < k → L[j]? = M[j]?) ∧ Hid (∃ m, wr = w.drewN m)) (fun i _ => n - (intOf i).toNat)
    case atStart => exact ⟨0, by omega, rfl, (fun j hj => by omega : ∀ j, j < 0 → L[j]? = M[j]?), ⟨0, rfl⟩⟩
    case round =>
      obtain ⟨k, hk, rfl, hs, hw⟩ := hrel
      by_cases hkn : k < n
      · have hkL : k < L.length := by rw [← HN.out]; exact hkn
        have hkM : k < M.length := by rw [HN2.out]; exact hkn
        obtain ⟨b, off, rfl, hsA⟩ := h1.at hkL
        obtain ⟨b2, off2, rfl, hsB⟩ := h2.at hkM
        obtain ⟨x, hx⟩ : ∃ x, L[k]? = some x := ⟨_, List.getElem?_eq_getElem hkL⟩
        obtain ⟨y, hy⟩ : ∃ y, M[k]? = some y := ⟨_, List.getElem?_eq_getElem hkM⟩
        have hx32 := hL.get hx
        have hy32 := hM.get hy
        have r1 : Hid (wr.rangeAt b (off + 32 * k) (hcs x)) := (by obtain ⟨q, rfl⟩ := hw.out; exact hsA k x hx : wr.rangeAt b (off + 32 * k) (hcs x))
        have r2 : Hid (wr.rangeAt b2 (off2 + 32 * k) (hcs y)) := (by obtain ⟨q, rfl⟩ := hw.out; exact hsB k y hy : wr.rangeAt b2 (off2 + 32 * k) (hcs y))
        have ix1 := fun wx => indexH b off n c1 k wx hkn
        have ix2 := fun wx => indexH b2 off2 n c2 k wx hkn
        have hkn' : (k : Int) < (n : Int) := by omega
        have eqq := fun m => eq23 x y hx32 hy32 (wr.drewN m)
        clear h1 h2 hsA hsB
        by_cases hxy : x = y
        · have hd : decide (x = y) = true := by simp [hxy]
          simp only [hd] at eqq
          clear hd
          have HK : Hid (∀ j, j < k + 1 → L[j]? = M[j]?) := (fun j hj => by
            by_cases e : j = k
            · subst e; rw [hx, hy, hxy]
            · exact hs.out j (by omega) : ∀ j, j < k + 1 → L[j]? = M[j]?)
          clear hxy
          go_wp2
          refine wp_region_quiet_lit (by kernel_rfl) (by kernel_rfl) ?_
          repeat (first
            | (go_big_quiet_want; refine quiet_load_mid 30 _ rfl b (off + 32 * k) rfl (bs x) _ (by rintro _ ⟨q, rfl⟩; exact r1.out) Try.underlying30 rfl (by rw [show (bs x).toList = hcs x from rfl, hcs_len, hx32]; exact hsH) ?_; simp [Act.put]; go_big_quiet_on)
            | (go_big_quiet_want; refine quiet_load_mid 30 _ rfl b2 (off2 + 32 * k) rfl (bs y) _ (by rintro _ ⟨q, rfl⟩; exact r2.out) Try.underlying30 rfl (by rw [show (bs y).toList = hcs y from rfl, hcs_len, hy32]; exact hsH) ?_; simp [Act.put]; go_big_quiet_on)
            | go_big_quiet_step (fail))
          refine wpQuiet_nil ?_
          rintro _ ⟨nq, rfl⟩
          go_wp2
          exact ⟨⟨k + 1, by omega, by go_num, HK, drawnOn hw.out _⟩, by simp [intOf]; omega⟩
        · have hd : decide (x = y) = false := by simp [hxy]
          simp only [hd] at eqq
          clear hd
          have HF : Hid (r = false) := (by
            rw [HR.out, decide_eq_false_iff_not]
            intro e
            subst e
            rw [hx] at hy
            exact hxy (Option.some.inj hy) : r = false)
          clear hxy
          go_wp2
          refine wp_region_quiet_lit (by kernel_rfl) (by kernel_rfl) ?_
          repeat (first
            | (go_big_quiet_want; refine quiet_load_mid 30 _ rfl b (off + 32 * k) rfl (bs x) _ (by rintro _ ⟨q, rfl⟩; exact r1.out) Try.underlying30 rfl (by rw [show (bs x).toList = hcs x from rfl, hcs_len, hx32]; exact hsH) ?_; simp [Act.put]; go_big_quiet_on)
            | (go_big_quiet_want; refine quiet_load_mid 30 _ rfl b2 (off2 + 32 * k) rfl (bs y) _ (by rintro _ ⟨q, rfl⟩; exact r2.out) Try.underlying30 rfl (by rw [show (bs y).toList = hcs y from rfl, hcs_len, hy32]; exact hsH) ?_; simp [Act.put]; go_big_quiet_on)
            | go_big_quiet_step (fail))
          refine wpQuiet_nil ?_
          rintro _ ⟨nq, rfl⟩
          go_wp2
          go_ret
          exact ⟨ret_bool HF.out.symm, drawnOn hw.out _⟩
      · obtain rfl : k = n := by omega
        have HT : Hid (r = true) := (by
          rw [HR.out, decide_eq_true_eq]
          apply List.ext_getElem?
          intro j
          by_cases hj : j < k
          · exact hs.out j hj
          · rw [List.getElem?_eq_none (by rw [← HN.out]; omega), List.getElem?_eq_none (by rw [HN2.out]; omega)] : r = true)
        go_wp2
        go_ret
        exact ⟨ret_bool HT.out.symm, hw.out⟩
  · have hd : decide (L = M) = false := by rw [decide_eq_false_iff_not]; intro e; rw [e] at hlen; exact hlen rfl
    rw [hd]
    have hne : ¬ (L.length : Int) = (M.length : Int) := by omega
    go_enter Try.func48, Try.ntmps48
    go_wp2
    go_ret
    exact ⟨rfl, 0, rfl⟩
end Go.Proofs.Ytdajeabhhkgibaa
