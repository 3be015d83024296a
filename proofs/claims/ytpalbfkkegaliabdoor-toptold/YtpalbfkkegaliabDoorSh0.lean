import Derived.Test.YtpalbfkkegaliabDoorOw
namespace Go.Proofs.YtpalbfkkegaliabDoor
open Go.RowKit
set_option linter.unusedVariables false
set_option linter.unusedSimpArgs false

set_option maxHeartbeats 1600000 in
theorem short_neg (h : List UInt8) (hl : h.length = 32) (nn : Int) (hnn : nn < 0) (w : World) :
    Calls Tryd.prog 75 #[.agg (bs h), .int .i64 nn] w fun e w' => e = .returned (.string ⟨(hexl h 0).toArray⟩) ∧ Below w.heap.size w w' := by
  have hmk := fun wx => run_make_row' (P := Tryd.prog) 25 5 (.int .u8 0) 1 Tryd.underlying25 Tryd.info5 rfl .i64 .i64 0 (by omega) (by omega) wx
  have hmb := made_bs 0
  have hl2 := hexTo_zero h 0
  rw [← hl2] at hmb
  clear hl2
  rw [hmb] at hmk
  clear hmb
  have hmk' : ∀ wx, (Instr.makeSlice 25 (.int .i64 0) (.int .i64 0)).run Tryd.prog wx = .ok (.slice (some ⟨wx.heap.size, 0, none⟩) 0 0) (wx.alloc (.cells (bs (hexTo h 0 0)) 5)) := hmk
  clear hmk
  go_enter Tryd.func75, Tryd.ntmps75
  go_wp2
  clear hmk'
  go_loopw [6, 14] (fun _ n wr => ∃ k : Nat, k ≤ 0 ∧ n = .int .i64 k ∧ wr.heap[w.heap.size + 1]? = some (.cells (bs (hexTo h 0 k)) 5 (0, 0)) ∧ wr.heap[w.heap.size]? = some (.cells (bs h) 36 (0, 0)) ∧ Below w.heap.size w wr) (fun _ n _ => 0 - (intOf n).toNat)
  case atStart => exact ⟨0, by omega, rfl, heap_alloc2_new _ _ _, heap_alloc2_old _ _ _, ((Below.refl _ _).alloc (Nat.le_refl _) _).alloc (by simp) _⟩
  case round =>
    obtain ⟨k, hk, rfl, hb1, hb0, hbel⟩ := hrel
    have hlt : w.heap.size + 1 < wr.heap.size := (Array.getElem?_eq_some_iff.1 hb1).1
    by_cases h1 : k < 0
    · omega
    · have hk2 : k = 0 := by omega
      subst hk2
      rw [hexTo_all] at hb1
      have hcv := run_convert_bytes_back (P := Tryd.prog) wr 25 9 5 ⟨w.heap.size + 1, 0, none⟩ 0 (hexl h 0) Tryd.underlying25 Tryd.underlying5 Tryd.underlying9 (fun j hj => by
        have e : (⟨w.heap.size + 1, 0, none⟩ : Addr).add j = ⟨w.heap.size + 1, j, none⟩ := by simpa using Addr.add_mid (w.heap.size + 1) 0 j
        rw [e, cell_of_row wr _ j _ _ _ hb1, bs_get _ _ hj]
        simp [at8, List.getElem?_eq_getElem hj])
      rw [hexl_len] at hcv
      go_wp2
      go_ret
      exact ⟨rfl, hbel⟩

set_option maxHeartbeats 1600000 in
theorem short_big (h : List UInt8) (hl : h.length = 32) (nn : Int) (hnn : 64 < nn) (w : World) :
    Calls Tryd.prog 75 #[.agg (bs h), .int .i64 nn] w fun e w' => e = .returned (.string ⟨(hexl h 64).toArray⟩) ∧ Below w.heap.size w w' := by
  have hmk := fun wx => run_make_row' (P := Tryd.prog) 25 5 (.int .u8 0) 1 Tryd.underlying25 Tryd.info5 rfl .i64 .i64 64 (by omega) (by omega) wx
  have hmb := made_bs 64
  have hl2 := hexTo_zero h 64
  rw [← hl2] at hmb
  clear hl2
  rw [hmb] at hmk
  clear hmb
  have hmk' : ∀ wx, (Instr.makeSlice 25 (.int .i64 64) (.int .i64 64)).run Tryd.prog wx = .ok (.slice (some ⟨wx.heap.size, 0, none⟩) 64 64) (wx.alloc (.cells (bs (hexTo h 64 0)) 5)) := hmk
  clear hmk
  go_enter Tryd.func75, Tryd.ntmps75
  go_wp2
  clear hmk'
  go_loopw [6, 14] (fun _ n wr => ∃ k : Nat, k ≤ 64 ∧ n = .int .i64 k ∧ wr.heap[w.heap.size + 1]? = some (.cells (bs (hexTo h 64 k)) 5 (0, 0)) ∧ wr.heap[w.heap.size]? = some (.cells (bs h) 36 (0, 0)) ∧ Below w.heap.size w wr) (fun _ n _ => 64 - (intOf n).toNat)
  case atStart => exact ⟨0, by omega, rfl, heap_alloc2_new _ _ _, heap_alloc2_old _ _ _, ((Below.refl _ _).alloc (Nat.le_refl _) _).alloc (by simp) _⟩
  case round =>
    obtain ⟨k, hk, rfl, hb1, hb0, hbel⟩ := hrel
    have hlt : w.heap.size + 1 < wr.heap.size := (Array.getElem?_eq_some_iff.1 hb1).1
    by_cases h1 : k < 64
    · have hc := (cell_of_row wr (w.heap.size + 1) k _ _ _ hb1).trans (bs_get _ k (by rw [hexTo_len]; omega))
      have hf := frozen_of_row wr (w.heap.size + 1) k _ _ hb1
      have hd := dig_bd h k
      have hx1 := fun wx => index_digits (dig h k) wx hd.1 hd.2
      go_wp2_with (first | (go_at_call 89; refine (digitAt_any h k _ hl (by omega)).mono ?_; rintro e w' ⟨rfl, rfl⟩) | (refine wpList_load_row rfl 36 _ rfl w.heap.size rfl 36 (bs h) (0, 0) _ hb0 Tryd.underlying36 rfl (by rw [bs_size, hl]; exact hs23) ?_))
      go_roundw
      case rel =>
        refine ⟨k + 1, by omega, by go_num, ?_, ?_, ?_⟩
        · rw [Below.heap_alloc _ _ _ (by simpa using hlt), heap_setCell_same _ (w.heap.size + 1) k _ 5 _ hb1, bs_set, hexTo_succ _ _ _ h1]
        · rw [Below.heap_alloc _ _ _ (by simp; omega), heap_setCell_other _ _ _ _ (by simp)]; exact hb0
        · exact (hbel.setCell (by simp) _).alloc (by simp; omega) _
      case measure => simp [intOf]; omega
    · have hk2 : k = 64 := by omega
      subst hk2
      rw [hexTo_all] at hb1
      have hcv := run_convert_bytes_back (P := Tryd.prog) wr 25 9 5 ⟨w.heap.size + 1, 0, none⟩ 64 (hexl h 64) Tryd.underlying25 Tryd.underlying5 Tryd.underlying9 (fun j hj => by
        have e : (⟨w.heap.size + 1, 0, none⟩ : Addr).add j = ⟨w.heap.size + 1, j, none⟩ := by simpa using Addr.add_mid (w.heap.size + 1) 0 j
        rw [e, cell_of_row wr _ j _ _ _ hb1, bs_get _ _ hj]
        simp [at8, List.getElem?_eq_getElem hj])
      rw [hexl_len] at hcv
      go_wp2
      go_ret
      exact ⟨rfl, hbel⟩

/-- How many digits. -/
def upTo (nn : Int) : Nat := if nn < 0 then 0 else if 64 < nn then 64 else nn.toNat
theorem upTo_le (nn : Int) : upTo nn ≤ 64 := by unfold upTo; split; omega; split; omega; omega
theorem short_any (h : List UInt8) (hl : h.length = 32) (nn : Int) (w : World) :
    Calls Tryd.prog 75 #[.agg (bs h), .int .i64 nn] w fun e w' => e = .returned (.string ⟨(hexl h (upTo nn)).toArray⟩) ∧ Below w.heap.size w w' := by
  by_cases h1 : nn < 0
  · rw [show upTo nn = 0 by unfold upTo; rw [if_pos h1]]
    exact short_neg h hl nn h1 w
  by_cases h2 : 64 < nn
  · rw [show upTo nn = 64 by unfold upTo; rw [if_neg h1, if_pos h2]]
    exact short_big h hl nn h2 w
  obtain ⟨m, rfl⟩ : ∃ m : Nat, nn = (m : Int) := ⟨nn.toNat, by omega⟩
  rw [show upTo (m : Int) = m by unfold upTo; rw [if_neg h1, if_neg h2]; omega]
  exact short_in h hl m (by omega) w
theorem hexl_take (h : List UInt8) (m : Nat) (hm : m ≤ 64) : (hexl h 64).take m = hexl h m := by
  unfold hexl
  rw [← List.map_take, List.take_range, Nat.min_eq_left hm]
theorem cut_str (h : List UInt8) (m : Nat) (hm : m ≤ 64) : (⟨(hexl h 64).toArray⟩ : ByteArray).extract 0 m = ⟨(hexl h m).toArray⟩ := by
  apply ByteArray.ext
  rw [ByteArray.data_extract]
  apply Array.toList_inj.1
  simp only [Array.toList_extract, List.extract, Nat.sub_zero, List.drop_zero]
  exact hexl_take h m hm
theorem ret_str {a b : ByteArray} (h : a = b) : Ending.returned (.string a) = .returned (.string b) := by rw [h]
end Go.Proofs.YtpalbfkkegaliabDoor
