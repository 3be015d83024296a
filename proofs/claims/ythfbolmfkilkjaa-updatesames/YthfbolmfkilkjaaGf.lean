import Derived.Test.YthfbolmfkilkjaaGd
namespace Go.Proofs.Ythfbolmfkilkjaa
open Go.RowKit
set_option linter.unusedVariables false
set_option linter.unusedSimpArgs false

set_option maxRecDepth 100000 in
set_option maxHeartbeats 1000000 in
theorem sameEs_any (a1 a2 : Option Addr) (L M : List EdV) (c1 c2 : Nat) (w : World) (hL : AllE L) (hM : AllE M) (hb : L.length ≤ 606627104962) (h1 : El w a1 L) (h2 : El w a2 M) :
    Calls Try.prog 15 #[.slice a1 L.length c1, .slice a2 M.length c2] w fun e w' => e = .returned (.bool (decide (L = M))) ∧ Below w.heap.size w w' := by
  by_cases hlen : L.length = M.length
  · obtain ⟨n, hn⟩ : ∃ n, n = L.length := ⟨_, rfl⟩
    have hn2 : M.length = n := by omega
    rw [← hn, hn2]
    rw [← hn] at hb
    have HN : Hid (n = L.length) := hn
    have HN2 : Hid (M.length = n) := hn2
    clear hn hn2 hlen
    obtain ⟨r, hr⟩ : ∃ r, r = decide (L = M) := ⟨_, rfl⟩
    have HR : Hid (r = decide (L = M)) := hr
    rw [← hr]
    clear hr
    go_enter Try.func15, Try.ntmps15
    go_wp2
    go_loopw [5] (fun i wr => ∃ k : Nat, k ≤ n ∧ i = .int .i64 k ∧ Hid (∀ j, j < k → L[j]? = M[j]?) ∧ Hid (Below w.heap.size w wr)) (fun i _ => n - (intOf i).toNat)
    case atStart => exact ⟨0, by omega, rfl, (fun j hj => by omega : ∀ j, j < 0 → L[j]? = M[j]?), (by first | exact Below.refl _ _ : Below w.heap.size w _)⟩
    case round =>
      obtain ⟨k, hk, rfl, hs, hw⟩ := hrel
      by_cases hkn : k < n
      · have hkL : k < L.length := by rw [← HN.out]; exact hkn
        have hkM : k < M.length := by rw [HN2.out]; exact hkn
        obtain ⟨b, off, rfl, hsA⟩ := h1.at hkL
        obtain ⟨b2, off2, rfl, hsB⟩ := h2.at hkM
        obtain ⟨x, hx⟩ : ∃ x, L[k]? = some x := ⟨_, List.getElem?_eq_getElem hkL⟩
        obtain ⟨y, hy⟩ : ∃ y, M[k]? = some y := ⟨_, List.getElem?_eq_getElem hkM⟩
        have hxo := hL.get hx
        have hyo := hM.get hy
        have lb : b < w.heap.size := hsA.lt hL (by omega)
        have lb2 : b2 < w.heap.size := hsB.lt hM (by omega)
        have ix1 := fun wx => indexE b off n c1 k wx hkn
        have ix2 := fun wx => indexE b2 off2 n c2 k wx hkn
        have hkn' : (k : Int) < (n : Int) := by omega
        have hk0 : (0 : Int) ≤ (k : Int) := by omega
        have L1 : ∀ wx, Below wr.heap.size wr wx → (Instr.loadAt 39 (.pointer (some ⟨b, off + 111 * k, none⟩))).run Try.prog wx = .ok (.agg x.c) wx := fun wx hx' => loadEs wx b (off + 111 * k) x hxo (rangeAt_below (rangeAt_below (hsA k x hx) hw.out lb) hx' (Nat.lt_of_lt_of_le lb hw.out.size))
        have L2 : ∀ wx, Below wr.heap.size wr wx → (Instr.loadAt 39 (.pointer (some ⟨b2, off2 + 111 * k, none⟩))).run Try.prog wx = .ok (.agg y.c) wx := fun wx hx' => loadEs wx b2 (off2 + 111 * k) y hyo (rangeAt_below (rangeAt_below (hsB k y hy) hw.out lb2) hx' (Nat.lt_of_lt_of_le lb2 hw.out.size))
        have HK : Hid (decide (x = y) = true → ∀ j, j < k + 1 → L[j]? = M[j]?) := (fun hxy j hj => by
          by_cases e : j = k
          · subst e; rw [hx, hy, of_decide_eq_true hxy]
          · exact hs.out j (by omega) : decide (x = y) = true → ∀ j, j < k + 1 → L[j]? = M[j]?)
        have HF : Hid (decide (x = y) = false → r = false) := (fun hxy => by
          rw [HR.out, decide_eq_false_iff_not]
          intro e
          subst e
          rw [hx] at hy
          exact of_decide_eq_false hxy (Option.some.inj hy) : decide (x = y) = false → r = false)
        clear h1 h2 hsA hsB hx hy hs hkL hkM
        have C1 : ∀ wx, Below wr.heap.size wr wx → Calls Try.prog 18 #[.agg x.c, .agg y.c] wx fun e w' => e = .returned (.bool (decide (x = y))) ∧ Below wr.heap.size wr w' := fun wx hx' => (rsameE_any x y hxo hyo wx).mono fun e w' h => ⟨h.1, hx'.trans (h.2.mono hx'.size)⟩
        go_upto_region 6 with fail
        refine edits15 b off c1 b2 off2 c2 n k x y (decide (x = y)) _ _ _ rfl rfl rfl rfl hk0 hkn' ix1 ix2 L1 L2 C1 ?_
        intro a' w' hb' ha'
        subst ha'
        simp only [Act.put, List.setIfInBounds_toArray, List.set_cons_zero, List.set_cons_succ]
        have BG : Hid (Below w.heap.size w w') := hw.out.trans (hb'.mono hw.out.size)
        clear hb' L1 L2
        cases hd : decide (x = y) with
        | true =>
          have HK2 : Hid (∀ j, j < k + 1 → L[j]? = M[j]?) := HK.out hd
          clear hd HK HF
          go_wp2
          go_roundw
          case rel => exact ⟨k + 1, by omega, by go_num, HK2, BG⟩
          case measure => simp [intOf]; omega
        | false =>
          have HF2 : Hid (r = false) := HF.out hd
          clear hd HK HF
          go_wp2
          go_ret
          exact ⟨ret_bool HF2.out.symm, BG.out⟩
      · obtain rfl : k = n := by omega
        have HT : Hid (r = true) := (by
          rw [HR.out, decide_eq_true_eq]
          apply List.ext_getElem?
          intro j
          by_cases hj : j < k
          · exact hs.out j hj
          · rw [List.getElem?_eq_none (by rw [← HN.out]; omega), List.getElem?_eq_none (by rw [HN2.out]; omega)] : r = true)
        clear h1 h2
        go_wp2
        go_ret
        exact ⟨ret_bool HT.out.symm, hw.out⟩
  · have hd : decide (L = M) = false := by rw [decide_eq_false_iff_not]; intro e; rw [e] at hlen; exact hlen rfl
    rw [hd]
    have hne : ¬ (L.length : Int) = (M.length : Int) := by omega
    go_enter Try.func15, Try.ntmps15
    go_wp2
    go_ret
    exact ⟨rfl, Below.refl _ _⟩
set_option maxRecDepth 100000 in
set_option maxHeartbeats 1000000 in
theorem equalH_any (a1 a2 : Option Addr) (L M : List (List UInt8)) (c1 c2 : Nat) (w : World) (hL : All32 L) (hM : All32 M) (hb : L.length ≤ 4398046511104) (h1 : Hl w a1 L) (h2 : Hl w a2 M) :
    Calls Try.prog 12 #[.slice a1 L.length c1, .slice a2 M.length c2] w fun e w' => e = .returned (.bool (decide (L = M))) ∧ Below w.heap.size w w' := by
  by_cases hlen : L.length = M.length
  · obtain ⟨n, hn⟩ : ∃ n, n = L.length := ⟨_, rfl⟩
    have hn2 : M.length = n := by omega
    rw [← hn, hn2]
    rw [← hn] at hb
    have HN : Hid (n = L.length) := hn
    have HN2 : Hid (M.length = n) := hn2
    clear hn hn2 hlen
    obtain ⟨r, hr⟩ : ∃ r, r = decide (L = M) := ⟨_, rfl⟩
    have HR : Hid (r = decide (L = M)) := hr
    rw [← hr]
    clear hr
    go_enter Try.func12, Try.ntmps12
    go_wp2
    go_loopw [5, 13] (fun _ i wr => ∃ k : Nat, k ≤ n ∧ i = .int .i64 k ∧ Hid (∀ j, j < k → L[j]? = M[j]?) ∧ Hid (Below w.heap.size w wr)) (fun _ i _ => n - (intOf i).toNat)
    case atStart => exact ⟨0, by omega, rfl, (fun j hj => by omega : ∀ j, j < 0 → L[j]? = M[j]?), (by first | exact Below.refl _ _ : Below w.heap.size w _)⟩
    case round =>
      obtain ⟨k, hk, rfl, hs, hw⟩ := hrel
      by_cases hkn : k < n
      · have hkL : k < L.length := by rw [← HN.out]; exact hkn
        have hkM : k < M.length := by rw [HN2.out]; exact hkn
        obtain ⟨b, off, rfl, hsA⟩ := h1.at hkL
        obtain ⟨b2, off2, rfl, hsB⟩ := h2.at hkM
        obtain ⟨x, hx⟩ : ∃ x, L[k]? = some x := ⟨_, List.getElem?_eq_getElem hkL⟩
        obtain ⟨y, hy⟩ : ∃ y, M[k]? = some y := ⟨_, List.getElem?_eq_getElem hkM⟩
        have hxo := hL.get hx
        have hyo := hM.get hy
        have lb : b < w.heap.size := hsA.lt hL (by omega)
        have lb2 : b2 < w.heap.size := hsB.lt hM (by omega)
        have ix1 := fun wx => indexH b off n c1 k wx hkn
        have ix2 := fun wx => indexH b2 off2 n c2 k wx hkn
        have hkn' : (k : Int) < (n : Int) := by omega
        have hk0 : (0 : Int) ≤ (k : Int) := by omega
        have L1 : ∀ wx, Below wr.heap.size wr wx → (Instr.loadAt 29 (.pointer (some ⟨b, off + 32 * k, none⟩))).run Try.prog wx = .ok (.agg (bs x)) wx := fun wx hx' => loadH wx b (off + 32 * k) x hxo (rangeAt_below (rangeAt_below (hsA k x hx) hw.out lb) hx' (Nat.lt_of_lt_of_le lb hw.out.size))
        have L2 : ∀ wx, Below wr.heap.size wr wx → (Instr.loadAt 29 (.pointer (some ⟨b2, off2 + 32 * k, none⟩))).run Try.prog wx = .ok (.agg (bs y)) wx := fun wx hx' => loadH wx b2 (off2 + 32 * k) y hyo (rangeAt_below (rangeAt_below (hsB k y hy) hw.out lb2) hx' (Nat.lt_of_lt_of_le lb2 hw.out.size))
        have HK : Hid (decide (x = y) = true → ∀ j, j < k + 1 → L[j]? = M[j]?) := (fun hxy j hj => by
          by_cases e : j = k
          · subst e; rw [hx, hy, of_decide_eq_true hxy]
          · exact hs.out j (by omega) : decide (x = y) = true → ∀ j, j < k + 1 → L[j]? = M[j]?)
        have HF : Hid (decide (x = y) = false → r = false) := (fun hxy => by
          rw [HR.out, decide_eq_false_iff_not]
          intro e
          subst e
          rw [hx] at hy
          exact of_decide_eq_false hxy (Option.some.inj hy) : decide (x = y) = false → r = false)
        clear h1 h2 hsA hsB hx hy hs hkL hkM
        have HQ : ∀ wx, (Op.equalIn 10000 29 (.agg (bs x)) (.agg (bs y))).run Try.prog wx = .ok (decide (x = y)) wx := fun wx => eq23 x y hxo hyo wx
        go_upto_region 6 with fail
        refine hashes12 b off c1 b2 off2 c2 n k x y (decide (x = y)) _ _ _ rfl rfl rfl rfl hk0 hkn' ix1 ix2 L1 L2 HQ ?_
        intro a' w' hb' ha'
        subst ha'
        simp only [Act.put, List.setIfInBounds_toArray, List.set_cons_zero, List.set_cons_succ]
        have BG : Hid (Below w.heap.size w w') := hw.out.trans (hb'.mono hw.out.size)
        clear hb' L1 L2
        cases hd : decide (x = y) with
        | true =>
          have HK2 : Hid (∀ j, j < k + 1 → L[j]? = M[j]?) := HK.out hd
          clear hd HK HF
          go_wp2
          go_roundw
          case rel => exact ⟨k + 1, by omega, by go_num, HK2, BG⟩
          case measure => simp [intOf]; omega
        | false =>
          have HF2 : Hid (r = false) := HF.out hd
          clear hd HK HF
          go_wp2
          go_ret
          exact ⟨ret_bool HF2.out.symm, BG.out⟩
      · obtain rfl : k = n := by omega
        have HT : Hid (r = true) := (by
          rw [HR.out, decide_eq_true_eq]
          apply List.ext_getElem?
          intro j
          by_cases hj : j < k
          · exact hs.out j hj
          · rw [List.getElem?_eq_none (by rw [← HN.out]; omega), List.getElem?_eq_none (by rw [HN2.out]; omega)] : r = true)
        clear h1 h2
        go_wp2
        go_ret
        exact ⟨ret_bool HT.out.symm, hw.out⟩
  · have hd : decide (L = M) = false := by rw [decide_eq_false_iff_not]; intro e; rw [e] at hlen; exact hlen rfl
    rw [hd]
    have hne : ¬ (L.length : Int) = (M.length : Int) := by omega
    go_enter Try.func12, Try.ntmps12
    go_wp2
    go_ret
    exact ⟨rfl, Below.refl _ _⟩
end Go.Proofs.Ythfbolmfkilkjaa
