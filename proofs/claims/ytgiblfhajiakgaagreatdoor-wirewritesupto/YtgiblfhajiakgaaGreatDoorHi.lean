import Derived.Test.YtgiblfhajiakgaaGreatDoorHh
namespace Go.Proofs.YtgiblfhajiakgaaGreatDoor
open Go.RowKit
set_option linter.unusedVariables false
set_option linter.unusedSimpArgs false

set_option maxRecDepth 100000 in
set_option maxHeartbeats 1000000 in
theorem handH_any (a : Option Addr) (L : List (List UInt8)) (cap : Nat) (w : World) (hL : All32 L) (hn : L.length ≤ 4398046511104) (hl : Hl w a L) :
    Calls Tryz.prog 40 #[.slice a L.length cap] w fun e w' => e = .returned (.slice (some ⟨w.heap.size, 0, none⟩) L.length (L.length + 9)) ∧ Below w.heap.size w w' ∧ w.heap.size < w'.heap.size ∧
      Hs w' w.heap.size 0 (L ++ marks) ∧ w'.there w.heap.size 0 (32 * (L.length + 9)) := by
  obtain ⟨n, hnl⟩ : ∃ n, n = L.length := ⟨_, rfl⟩
  have hmk := make_hashes (n + 9) (by omega) w
  rw [show ((n + 9 : Nat) : Int) = (n : Int) + 9 by omega] at hmk
  have hP : (L ++ marks).length = n + 9 := by rw [List.length_append, marks_len, hnl]
  have hP32 : All32 (L ++ marks) := all32_app hL all32_marks
  have h0 : Hs (w.alloc (.cells (madeCells (bs z32) ((n + 9) * 32)) 36)) w.heap.size 0 (part (L ++ marks) (n + 9) 0) := by rw [part_zero]; exact hs_made w (n + 9) _
  have t0 := there_made w (n + 9) 36
  have HH0 : Hid (Hs (w.alloc (.cells (madeCells (bs z32) ((n + 9) * 32)) 36)) w.heap.size 0 (part (L ++ marks) (n + 9) 0)) := h0
  have HT0 : Hid ((w.alloc (.cells (madeCells (bs z32) ((n + 9) * 32)) 36)).there w.heap.size 0 (32 * (n + 9))) := t0
  clear h0 t0
  rw [← hnl] at hn ⊢
  have HN : Hid (n = L.length) := hnl
  have HPL : Hid ((L ++ marks).length = n + 9) := hP
  clear hnl hP
  go_enter Tryz.func40, Tryz.ntmps40
  go_wp2
  clear hmk
  go_loopw [4] (fun i wr => ∃ k : Nat, k ≤ n ∧ i = .int .i64 k ∧ Hid (Hs wr w.heap.size 0 (part (L ++ marks) (n + 9) k)) ∧ Hid (wr.there w.heap.size 0 (32 * (n + 9))) ∧ Below w.heap.size w wr ∧ w.heap.size < wr.heap.size) (fun i _ => n - (intOf i).toNat)
  case atStart => exact ⟨0, by omega, rfl, HH0, HT0, (Below.refl _ _).alloc (Nat.le_refl _) _, by simp⟩
  case round =>
    obtain ⟨k, hk, rfl, hs, ht, bel, hlt⟩ := hrel
    by_cases hkn : k < n
    · have hkL : k < L.length := by rw [← HN.out]; exact hkn
      obtain ⟨b, off, rfl, hsA⟩ := hl.at hkL
      obtain ⟨x, hx⟩ : ∃ x, L[k]? = some x := ⟨_, List.getElem?_eq_getElem hkL⟩
      have hx32 := hL.get hx
      have hbB : b < w.heap.size := hsA.lt hL (by omega)
      have HR : Hid (wr.rangeAt b (off + 32 * k) (hcs x)) := rangeAt_below (hsA k x hx) bel hbB
      have HX : Hid (Hs (wr.setCells w.heap.size (32 * k) (hcs x)) w.heap.size 0 (part (L ++ marks) (n + 9) (k + 1))) := by
        have := Hs.set hs.out (all32_part hP32 _ _) k x hx32 (by rw [part_len _ _ _ (by omega) HPL.out]; omega) (there_part ht.out (by omega))
        rw [Nat.zero_add] at this
        rwa [part_set _ _ _ (by omega) HPL.out x (by rw [List.getElem?_append_left hkL]; exact hx)] at this
      have ix1 := fun wx => indexH b off n cap k wx hkn
      have ix2 := fun wx => indexH w.heap.size 0 (n + 9) (n + 9) k wx (by omega)
      have HTH : Hid (wr.there w.heap.size (32 * k) 32) := (by have := there_part (m := 32) (i := 32 * k) ht.out (by omega); rwa [Nat.zero_add] at this : wr.there w.heap.size (32 * k) 32)
      clear hl hsA
      go_wp2_with (first
        | (refine wpList_load_mid rfl 36 _ rfl b (off + 32 * k) rfl (hcs x) _ HR.out Tryz.underlying36 rfl (by rw [hcs_len, hx32]; exact hsH) ?_; rw [hcs_arr])
        | (refine wpList_store_mid rfl 36 _ _ rfl w.heap.size (32 * k) (bs x) rfl rfl (by rw [bs_size, hx32]; exact HTH.out) (by rw [bs_size, hx32]; exact hsH) (bs_one _) ?_)
        | fail)
      go_roundw
      case rel => exact ⟨k + 1, by omega, by go_num, HX, World.there_setCells ht.out _ _ _, below_setCells bel (Nat.le_refl _) _ _, by rw [size_setCells]; exact hlt⟩
      case measure => simp [intOf]; omega
    · obtain rfl : k = n := by omega
      go_wp2
      go_loopw [5] (fun i wr => ∃ m : Nat, k ≤ m ∧ m ≤ k + 9 ∧ i = .int .i64 (m : Int) ∧ Hid (Hs wr w.heap.size 0 (part (L ++ marks) (k + 9) m)) ∧ Hid (wr.there w.heap.size 0 (32 * (k + 9))) ∧ Below w.heap.size w wr ∧ w.heap.size < wr.heap.size) (fun i _ => k + 9 - (intOf i).toNat)
      case atStart => exact ⟨k, by omega, by omega, rfl, hs, ht, bel, hlt⟩
      case round =>
        obtain ⟨m, hkm, hm9, rfl, hs, ht, bel, hlt⟩ := hrel
        by_cases hm : m < k + 9
        · obtain ⟨j, hj⟩ : ∃ j : Nat, m = k + j := ⟨m - k, by omega⟩
          have ej : (m : Int) - (k : Int) = (j : Int) := by omega
          have hj9 : j < 9 := by omega
          have HX : Hid (Hs (wr.setCells w.heap.size (32 * m) (hcs (mk j))) w.heap.size 0 (part (L ++ marks) (k + 9) (m + 1))) := by
            have := Hs.set hs.out (all32_part hP32 _ _) m (mk j) (mk_len j) (by rw [part_len _ _ _ (by omega) HPL.out]; omega) (there_part ht.out (by omega))
            rw [Nat.zero_add] at this
            rwa [part_set _ _ _ (by omega) HPL.out (mk j) (by rw [List.getElem?_append_right (by rw [← HN.out]; omega), ← HN.out, hj, Nat.add_sub_cancel_left]; exact marks_get j hj9)] at this
          have ix2 := fun wx => indexH w.heap.size 0 (k + 9) (k + 9) m wx hm
          have HTH : Hid (wr.there w.heap.size (32 * m) 32) := (by have := there_part (m := 32) (i := 32 * m) ht.out (by omega); rwa [Nat.zero_add] at this : wr.there w.heap.size (32 * m) 32)
          have hbu := built_mk j (by omega)
          have HMK : Hid ((mk j).length = 32) := mk_len j
          have HJ : Hid (m = k + j) := hj
          clear hj
          generalize mk j = x at *
          go_wp2_with (first
            | (refine wpList_build_is rfl 36 _ rfl [(0, .int .u8 160), (1, .int .u8 (j : Int))] (by first | kernel_rfl | simp) (bs x) hbu ?_)
            | (refine wpList_store_mid rfl 36 _ _ rfl w.heap.size (32 * m) (bs x) rfl rfl (by rw [bs_size, HMK.out]; exact HTH.out) (by rw [bs_size, HMK.out]; exact hsH) (bs_one _) ?_)
            | fail)
          go_roundw
          case rel => exact ⟨m + 1, by omega, by omega, by go_num, HX, World.there_setCells ht.out _ _ _, below_setCells bel (Nat.le_refl _) _ _, by rw [size_setCells]; exact hlt⟩
          case measure => simp [intOf]; omega
        · obtain rfl : m = k + 9 := by omega
          go_wp2
          go_ret
          refine ⟨rfl, bel, hlt, ?_, ht.out⟩
          have := hs.out
          rwa [part_all _ _ HPL.out] at this
end Go.Proofs.YtgiblfhajiakgaaGreatDoor
