import Derived.Test.YtmmdbilfjgmdhaaD
import Derived.Test.YtmmdbilfjgmdhaaE
namespace Go.Proofs.Ytmmdbilfjgmdhaa
open Go.RowKit
set_option linter.unusedVariables false
set_option linter.unusedSimpArgs false

theorem hx_all (d : Int) (h0 : 0 ≤ d) (h1 : d < 16) : isDg ((hx d).toNat : Int) = true ∧ dgVal ((hx d).toNat : Int) = d := by
  have : d = 0 ∨ d = 1 ∨ d = 2 ∨ d = 3 ∨ d = 4 ∨ d = 5 ∨ d = 6 ∨ d = 7 ∨ d = 8 ∨ d = 9 ∨ d = 10 ∨ d = 11 ∨ d = 12 ∨ d = 13 ∨ d = 14 ∨ d = 15 := by omega
  rcases this with h | h | h | h | h | h | h | h | h | h | h | h | h | h | h | h <;> subst h <;> decide

theorem hx_back (c : UInt8) (h : isDg (c.toNat : Int) = true) : hx (dgVal (c.toNat : Int)) = c := by
  have hd := isDg_digit h
  apply UInt8.toNat_inj.1
  unfold dgVal hx
  split
  · rw [if_neg (by omega), UInt8.toNat_ofNat']; omega
  · rw [if_pos (by omega), UInt8.toNat_ofNat']; omega

theorem at8_hexl (h : List UInt8) (m j : Nat) (hj : j < m) : at8 (hexl h m) j = ((hx (dig h j)).toNat : Int) := by
  simp [at8, hexl, hj]

theorem good_hexl (h : List UInt8) : good (hexl h 64) = 64 :=
  goodOf_eq 64 _ 64 (by omega) (by rw [hexl_len]; omega) (fun j hj => by rw [at8_hexl _ _ _ hj]; exact (hx_all _ (dig_bd h j).1 (dig_bd h j).2).1) (.inl rfl)

theorem at8_unTo (l : List UInt8) (k : Nat) (hk : k < 32) : at8 (unTo l 32) k = ((two l k).toNat : Int) := by
  simp [at8, unTo, hk]

theorem un_hexl (h : List UInt8) (hl : h.length = 32) : unTo (hexl h 64) 32 = h := by
  apply at8_ext 32 (unTo_len _ _) hl
  intro k hk
  rw [at8_unTo _ _ hk]
  unfold two
  rw [at8_hexl _ _ _ (by omega), at8_hexl _ _ _ (by omega), (hx_all _ (dig_bd h _).1 (dig_bd h _).2).2, (hx_all _ (dig_bd h _).1 (dig_bd h _).2).2]
  have e1 : dig h (2 * k) = at8 h k / 16 := by unfold dig; rw [if_pos (by omega), show 2 * k / 2 = k by omega]
  have e2 : dig h (2 * k + 1) = at8 h k % 16 := by unfold dig; rw [if_neg (by omega), show (2 * k + 1) / 2 = k by omega]
  rw [e1, e2, UInt8.toNat_ofNat']
  have := at8_lo h k
  have := at8_hi h k
  omega

theorem hexl_un (l : List UInt8) (hl : l.length = 64) (hg : good l = 64) : hexl (unTo l 32) 64 = l := by
  apply at8_ext 64 (hexl_len _ _) hl
  intro j hj
  rw [at8_hexl _ _ _ hj]
  have hall := goodOf_all 64 l hg
  have d1 := dgVal_digit (hall (2 * (j / 2)) (by omega))
  have d2 := dgVal_digit (hall (2 * (j / 2) + 1) (by omega))
  have ht : ((two l (j / 2)).toNat : Int) = dgVal (at8 l (2 * (j / 2))) * 16 + dgVal (at8 l (2 * (j / 2) + 1)) := by
    unfold two; rw [UInt8.toNat_ofNat']; omega
  have key : dig (unTo l 32) j = dgVal (at8 l j) := by
    unfold dig
    rw [at8_unTo _ _ (by omega), ht]
    split
    · have e : 2 * (j / 2) = j := by omega
      rw [e] at d1 d2 ⊢; omega
    · have e : 2 * (j / 2) + 1 = j := by omega
      rw [e] at d2 ⊢; omega
  rw [key]
  have hj2 := hall j hj
  unfold at8 at hj2 ⊢
  rw [hx_back _ hj2]

theorem hz_i5 : ∃ i, Try.prog.info? 5 = some i := by
  have h := Try.info5
  cases hq : Try.prog.info? 5 with
  | none => rw [hq] at h; simp at h
  | some i => exact ⟨i, rfl⟩
theorem eq23 (a b : List UInt8) (ha : a.length = 32) (hb : b.length = 32) (w : World) :
    (Op.equalIn 10000 23 (.agg (bs a)) (.agg (bs b))).run Try.prog w = .ok (decide (a = b)) w := by
  obtain ⟨i, hi⟩ := hz_i5
  exact eq_bytes 9998 Try.underlying23 hi (by kernel_rfl) Try.underlying5 a b ha hb w

set_option maxHeartbeats 1600000 in
theorem back_any (h : List UInt8) (hl : h.length = 32) (s : ByteArray) (hs : s.size ≤ maxLen) (w : World) :
    Calls Try.prog 4 #[.agg (bs h), .string s] w fun e w' => e = .returned (.bool true) ∧ Below w.heap.size w w' := by
  have hsz : (⟨(hexl h 64).toArray⟩ : ByteArray).size = 64 := by show (hexl h 64).toArray.size = 64; simp [hexl_len]
  have HU := fun wx => unhex_yes ⟨(hexl h 64).toArray⟩ wx (good_hexl h) hsz
  have eL : ((⟨(hexl h 64).toArray⟩ : ByteArray).data.toList) = hexl h 64 := rfl
  rw [eL, un_hexl h hl] at HU
  clear eL
  have HUU : Hid (∀ wx, Calls Try.prog 5 #[.string ⟨(hexl h 64).toArray⟩] wx fun e w' => e = .returned (.tuple #[.agg (bs h), .int .i64 0, .int .i64 0]) ∧ Below wx.heap.size wx w') := HU
  clear HU
  have eqh := fun wx => eq23 h h hl hl wx
  simp only [decide_true] at eqh
  go_enter Try.func4, Try.ntmps4
  go_wp2_with (first | (refine wpList_load_arr rfl 23 _ rfl w.heap.size rfl 23 (bs h) (0, 0) _ (heap_alloc_new _ _) Try.underlying23 rfl (by rw [bs_size, hl]; exact hs23) ?_) | fail)
  refine (hex_any h hl _).mono ?_
  rintro e w1 ⟨rfl, hb1⟩
  go_wp2_with fail
  refine (HUU.out _).mono ?_
  rintro e w2 ⟨rfl, hb2⟩
  have l1 : w.heap.size + 1 ≤ w1.heap.size := by have := hb1.size; simpa using this
  have l2 : w1.heap.size ≤ w2.heap.size := hb2.size
  have g2 : (w2.alloc (.cells (bs h) 23)).heap[w.heap.size]? = some (.cells (bs h) 23 (0, 0)) := by
    rw [Below.heap_alloc _ _ _ (by omega), hb2.block _ (by omega), hb1.block _ (by simp)]; exact heap_alloc_new _ _
  have bel2 : Below w.heap.size w (w2.alloc (.cells (bs h) 23)) :=
    ((((Below.refl _ _).alloc (Nat.le_refl _) _).trans (hb1.mono (by simp))).trans (hb2.mono (by omega))).alloc (by omega) _
  go_wp2_with (first | (refine wpList_alloc_row rfl 23 rfl (bs z32) (hz23 _) ?_) | (refine wpList_store_row rfl 23 (.tmp 6) (.tmp 14) rfl w2.heap.size (bs h) rfl rfl 23 (bs z32) (heap_alloc_new _ _) (by rw [bs_size, hl]; exact hs23) (by rw [bs_size, bs_size, hl]; rfl) (bs_one _) ?_; rw [World.setRow_alloc_new]) | (refine wpList_load_arr rfl 23 (.tmp 6) rfl w2.heap.size rfl 23 (bs h) (0, 0) _ (heap_alloc_new _ _) Try.underlying23 rfl (by rw [bs_size, hl]; exact hs23) ?_) | (refine wpList_load_arr rfl 23 (.tmp 2) rfl w.heap.size rfl 23 (bs h) (0, 0) _ g2 Try.underlying23 rfl (by rw [bs_size, hl]; exact hs23) ?_) | fail)
  refine (short_in h hl 64 (by omega) _).mono ?_
  rintro e w3 ⟨rfl, hb3⟩
  have l3 : w2.heap.size + 1 ≤ w3.heap.size := by have := hb3.size; simpa using this
  have g3 : w3.heap[w2.heap.size]? = some (.cells (bs h) 23 (0, 0)) := by rw [hb3.block _ (by simp)]; exact heap_alloc_new _ _
  have bel3 : Below w.heap.size w w3 := bel2.trans (hb3.mono (by simp; omega))
  clear HUU g2 bel2 hb1 hb2 hb3
  by_cases hc : good s.data.toList = 64 ∧ s.size = 64
  · obtain ⟨c1, c2⟩ := hc
    have HV : Hid (∀ wx, Calls Try.prog 5 #[.string s] wx fun e w' => e = .returned (.tuple #[.agg (bs (unTo s.data.toList 32)), .int .i64 0, .int .i64 0]) ∧ Below wx.heap.size wx w') := fun wx => unhex_yes s wx c1 c2
    have hlen : s.data.toList.length = 64 := by rw [Array.length_toList]; exact c2
    have eS : (⟨(hexl (unTo s.data.toList 32) 64).toArray⟩ : ByteArray) = s := by
      rw [hexl_un _ hlen c1]
    have HX := fun wx => hex_any (unTo s.data.toList 32) (unTo_len _ _) wx
    rw [eS] at HX
    have HXX : Hid (∀ wx, Calls Try.prog 7 #[.agg (bs (unTo s.data.toList 32))] wx fun e w' => e = .returned (.string s) ∧ Below wx.heap.size wx w') := HX
    clear HX eS hlen c1 c2
    obtain ⟨u, hu⟩ : ∃ u, u = unTo s.data.toList 32 := ⟨_, rfl⟩
    have hul : u.length = 32 := by rw [hu]; exact unTo_len _ _
    rw [← hu] at HV HXX
    clear hu
    go_wp2_with fail
    refine (HV.out _).mono ?_
    rintro e w4 ⟨rfl, hb4⟩
    have l4 : w3.heap.size ≤ w4.heap.size := hb4.size
    have g4 : w4.heap[w2.heap.size]? = some (.cells (bs h) 23 (0, 0)) := by rw [hb4.block _ (by omega)]; exact g3
    have bel4 : Below w.heap.size w w4 := bel3.trans (hb4.mono (by omega))
    go_wp2_with (first | (refine wpList_store_row rfl 23 (.tmp 6) (.tmp 42) rfl w2.heap.size (bs u) rfl rfl 23 (bs h) g4 (by rw [bs_size, hul]; exact hs23) (by rw [bs_size, bs_size, hl, hul]) (bs_one _) ?_) | (refine wpList_load_arr rfl 23 (.tmp 6) rfl w2.heap.size rfl 23 (bs u) (0, 0) _ (setRow_heap _ _ _ _ _ _ g4) Try.underlying23 rfl (by rw [bs_size, hul]; exact hs23) ?_) | fail)
    refine (HXX.out _).mono ?_
    rintro e w5 ⟨rfl, hb5⟩
    go_wp2
    go_ret
    exact ⟨rfl, (bel4.trans (below_setRow _ _ _ _ (by omega))).trans (hb5.mono (by simp; omega))⟩
  · have HV : Hid (∀ wx, Calls Try.prog 5 #[.string s] wx fun e w' => e = .returned (.tuple #[.agg (bs z32), .int .i64 10, .int .i64 (good s.data.toList)]) ∧ Below wx.heap.size wx w') := fun wx => unhex_no s wx hs (by omega)
    clear hc
    go_wp2_with fail
    refine (HV.out _).mono ?_
    rintro e w4 ⟨rfl, hb4⟩
    have l4 : w3.heap.size ≤ w4.heap.size := hb4.size
    have g4 : w4.heap[w2.heap.size]? = some (.cells (bs h) 23 (0, 0)) := by rw [hb4.block _ (by omega)]; exact g3
    have bel4 : Below w.heap.size w w4 := bel3.trans (hb4.mono (by omega))
    go_wp2_with (first | (refine wpList_store_row rfl 23 (.tmp 6) (.tmp 42) rfl w2.heap.size (bs z32) rfl rfl 23 (bs h) g4 (by rw [bs_size]; exact hs23) (by rw [bs_size, bs_size, hl]; rfl) (bs_one _) ?_) | fail)
    go_wp2
    go_ret
    exact ⟨rfl, bel4.trans (below_setRow _ _ _ _ (by omega))⟩
end Go.Proofs.Ytmmdbilfjgmdhaa
