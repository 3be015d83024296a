import Derived.Test.YthfbolmfkilkjaaGf
namespace Go.Proofs.Ythfbolmfkilkjaa
open Go.RowKit
set_option linter.unusedVariables false
set_option linter.unusedSimpArgs false

set_option maxRecDepth 100000 in
set_option maxHeartbeats 1000000 in
theorem equalF_any (a1 a2 : Option Addr) (L M : List EdV) (c1 c2 : Nat) (w : World) (hL : AllE L) (hM : AllE M) (hb : L.length ≤ 606627104962) (h1 : El w a1 L) (h2 : El w a2 M) :
    Calls Try.prog 13 #[.slice a1 L.length c1, .slice a2 M.length c2, .func (.func 14) #[] #[]] w fun e w' => e = .returned (.bool (decide (L = M))) ∧ Below w.heap.size w w' := by
  by_cases hlen : L.length = M.length
  · obtain ⟨n, hn⟩ : ∃ n, n = L.length := ⟨_, rfl⟩
    have hn2 : M.length = n := by omega
    rw [← hn, hn2]
    rw [← hn] at hb
    have HN : Hid (n = L.length) := hn
    have HN2 : Hid (M.length = n) := hn2
    clear hn hn2 hlen
    obtain ⟨r, hr⟩ : ∃ r, r = decide (L = M) := ⟨_, rfl⟩
    have HR : Hid (r = decide (L = M)) := hr
    rw [← hr]
    clear hr
    go_enter Try.func13, Try.ntmps13
    go_wp2
    go_loopw [7, 8, 9, 17] (fun _ _ _ i wr => ∃ k : Nat, k ≤ n ∧ i = .int .i64 k ∧ Hid (∀ j, j < k → L[j]? = M[j]?) ∧ Hid (Below w.heap.size w wr)) (fun _ _ _ i _ => n - (intOf i).toNat)
    case atStart => exact ⟨0, by omega, rfl, (fun j hj => by omega : ∀ j, j < 0 → L[j]? = M[j]?), (by first | exact Below.refl _ _ : Below w.heap.size w _)⟩
    case round =>
      obtain ⟨k, hk, rfl, hs, hw⟩ := hrel
      by_cases hkn : k < n
      · have hkL : k < L.length := by rw [← HN.out]; exact hkn
        have hkM : k < M.length := by rw [HN2.out]; exact hkn
        obtain ⟨b, off, rfl, hsA⟩ := h1.at hkL
        obtain ⟨b2, off2, rfl, hsB⟩ := h2.at hkM
        obtain ⟨x, hx⟩ : ∃ x, L[k]? = some x := ⟨_, List.getElem?_eq_getElem hkL⟩
        obtain ⟨y, hy⟩ : ∃ y, M[k]? = some y := ⟨_, List.getElem?_eq_getElem hkM⟩
        have hxo := hL.get hx
        have hyo := hM.get hy
        have lb : b < w.heap.size := hsA.lt hL (by omega)
        have lb2 : b2 < w.heap.size := hsB.lt hM (by omega)
        have ix1 := fun wx => indexE b off n c1 k wx hkn
        have ix2 := fun wx => indexE b2 off2 n c2 k wx hkn
        have hkn' : (k : Int) < (n : Int) := by omega
        have hk0 : (0 : Int) ≤ (k : Int) := by omega
        have L1 : ∀ wx, Below wr.heap.size wr wx → (Instr.loadAt 39 (.pointer (some ⟨b, off + 111 * k, none⟩))).run Try.prog wx = .ok (.agg x.c) wx := fun wx hx' => loadEs wx b (off + 111 * k) x hxo (rangeAt_below (rangeAt_below (hsA k x hx) hw.out lb) hx' (Nat.lt_of_lt_of_le lb hw.out.size))
        have L2 : ∀ wx, Below wr.heap.size wr wx → (Instr.loadAt 39 (.pointer (some ⟨b2, off2 + 111 * k, none⟩))).run Try.prog wx = .ok (.agg y.c) wx := fun wx hx' => loadEs wx b2 (off2 + 111 * k) y hyo (rangeAt_below (rangeAt_below (hsB k y hy) hw.out lb2) hx' (Nat.lt_of_lt_of_le lb2 hw.out.size))
        have HK : Hid (decide (x = y) = true → ∀ j, j < k + 1 → L[j]? = M[j]?) := (fun hxy j hj => by
          by_cases e : j = k
          · subst e; rw [hx, hy, of_decide_eq_true hxy]
          · exact hs.out j (by omega) : decide (x = y) = true → ∀ j, j < k + 1 → L[j]? = M[j]?)
        have HF : Hid (decide (x = y) = false → r = false) := (fun hxy => by
          rw [HR.out, decide_eq_false_iff_not]
          intro e
          subst e
          rw [hx] at hy
          exact of_decide_eq_false hxy (Option.some.inj hy) : decide (x = y) = false → r = false)
        clear h1 h2 hsA hsB hx hy hs hkL hkM
        have l1 := L1 wr (Below.refl _ _)
        have be1 : Below wr.heap.size wr (wr.alloc (.cells x.c 39)) := (Below.refl _ _).alloc (Nat.le_refl _) _
        have g1 : (wr.alloc (.cells x.c 39)).heap[wr.heap.size]? = some (.cells x.c 39 (0, 0)) := heap_alloc_new _ _
        have z1 : (wr.alloc (.cells x.c 39)).heap.size = wr.heap.size + 1 := by simp
        have SX : Hid ((Try.prog.info? 39).map (·.size) = some x.c.size) := by show _ = _; rw [EdV.size hxo]; exact hs39
        have SY : Hid ((Try.prog.info? 39).map (·.size) = some y.c.size) := by show _ = _; rw [EdV.size hyo]; exact hs39
        have EX : Hid (ez.c.size = x.c.size) := by show _ = _; rw [EdV.size hxo, EdV.size ez_ok]
        have EY : Hid (ez.c.size = y.c.size) := by show _ = _; rw [EdV.size hyo, EdV.size ez_ok]
        have OX : Hid (x.c.all (·.oneCell') = true) := all_oneCell_toArray x.one
        have OY : Hid (y.c.all (·.oneCell') = true) := all_oneCell_toArray y.one
        go_upto_region 6 with (first | (refine wpList_load_v 39 (.tmp 20) rfl ⟨b, off + 111 * k, none⟩ _ rfl l1 rfl ?_) | (refine wpList_alloc_row rfl 39 rfl ez.c (hzE _) ?_) | (refine wpList_store_row rfl 39 (.tmp 8) (.tmp 21) rfl wr.heap.size x.c rfl rfl 39 ez.c (heap_alloc_new _ _) SX.out EX.out OX.out ?_; rw [World.setRow_alloc_new]))
        generalize (wr.alloc (.cells x.c 39)) = W1 at *
        have l2 := L2 W1 be1
        have be2 : Below W1.heap.size W1 (W1.alloc (.cells y.c 39)) := (Below.refl _ _).alloc (Nat.le_refl _) _
        have g2 : (W1.alloc (.cells y.c 39)).heap[wr.heap.size + 1]? = some (.cells y.c 39 (0, 0)) := by rw [← z1]; exact heap_alloc_new _ _
        have g12 : (W1.alloc (.cells y.c 39)).heap[wr.heap.size]? = some (.cells x.c 39 (0, 0)) := (be2.block _ (by omega)).trans g1
        clear l1
        go_upto_region 7 with (first | (refine wpList_load_v 39 (.tmp 24) rfl ⟨b2, off2 + 111 * k, none⟩ _ rfl l2 rfl ?_) | (refine wpList_alloc_row rfl 39 rfl ez.c (hzE _) ?_) | (refine wpList_store_row rfl 39 (.tmp 9) (.tmp 25) rfl W1.heap.size y.c rfl rfl 39 ez.c (heap_alloc_new _ _) SY.out EY.out OY.out ?_; rw [World.setRow_alloc_new]))
        have be3 : Below wr.heap.size wr (W1.alloc (.cells y.c 39)) := be1.trans (be2.mono (by omega))
        generalize (W1.alloc (.cells y.c 39)) = W2 at *
        have m1 := loadE W2 wr.heap.size x hxo _ g12
        have m2 := loadE W2 (wr.heap.size + 1) y hyo _ g2
        clear l2 L1 L2 g1 g2 g12 be1 be2 SX SY EX EY OX OY
        go_wp2_with (first | (refine wpList_load_v 39 (.tmp 8) rfl ⟨wr.heap.size, 0, none⟩ _ rfl m1 rfl ?_) | (refine wpList_load_v 39 (.tmp 9) rfl ⟨wr.heap.size + 1, 0, none⟩ _ rfl m2 rfl ?_) | fail)
        refine (sameE_any x y hxo hyo W2).mono ?_
        rintro e w' ⟨rfl, hb'⟩
        have BG : Hid (Below w.heap.size w w') := (hw.out.trans (be3.mono hw.out.size)).trans (hb'.mono (Nat.le_trans hw.out.size be3.size))
        clear hb' be3 m1 m2 z1
        cases hd : decide (x = y) with
        | true =>
          have HK2 : Hid (∀ j, j < k + 1 → L[j]? = M[j]?) := HK.out hd
          clear hd HK HF
          go_wp2
          go_roundw
          case rel => exact ⟨k + 1, by omega, by go_num, HK2, BG⟩
          case measure => simp [intOf]; omega
        | false =>
          have HF2 : Hid (r = false) := HF.out hd
          clear hd HK HF
          go_wp2
          go_ret
          exact ⟨ret_bool HF2.out.symm, BG.out⟩
      · obtain rfl : k = n := by omega
        have HT : Hid (r = true) := (by
          rw [HR.out, decide_eq_true_eq]
          apply List.ext_getElem?
          intro j
          by_cases hj : j < k
          · exact hs.out j hj
          · rw [List.getElem?_eq_none (by rw [← HN.out]; omega), List.getElem?_eq_none (by rw [HN2.out]; omega)] : r = true)
        clear h1 h2
        go_wp2
        go_ret
        exact ⟨ret_bool HT.out.symm, hw.out⟩
  · have hd : decide (L = M) = false := by rw [decide_eq_false_iff_not]; intro e; rw [e] at hlen; exact hlen rfl
    rw [hd]
    have hne : ¬ (L.length : Int) = (M.length : Int) := by omega
    go_enter Try.func13, Try.ntmps13
    go_wp2
    go_ret
    exact ⟨rfl, Below.refl _ _⟩
end Go.Proofs.Ythfbolmfkilkjaa
