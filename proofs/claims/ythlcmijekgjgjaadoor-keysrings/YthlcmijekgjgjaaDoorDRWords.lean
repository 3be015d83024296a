import Derived.Test.YthlcmijekgjgjaaDoorDSched
import Derived.Test.YthlcmijekgjgjaaDoorDRTurn
namespace Go.Proofs.YthlcmijekgjgjaaDoor
open Go.RowKit
set_option linter.unusedVariables false
set_option linter.unusedSimpArgs false
attribute [local go_sem] bits_xor bits_or bits_and U_add U_addw shl24 shl16 shl8 shl24w shl16w shl8w shr3 shr10 at8_b4 at8_b4w

theorem res38 (tmps : Array Value) (w : World) (g : Nat) (t : TypeId) (l : List UInt32) (hl : l.length = 64) (fr : Nat × Nat) (hp : tmps.getD 2 undef = .pointer (some ⟨g, 0, none⟩)) (hg : w.heap[g]? = some (.cells (ws l) t fr)) :
    (results Tryd.f17 tmps).run Tryd.prog w = .ok (.agg (ws l)) w :=
  results_cell_row Tryd.results17 tmps w g t (ws l) fr _ hp hg Tryd.underlying58 rfl (by rw [ws_size, hl]; exact hs67)

set_option maxHeartbeats 4000000 in
theorem words_any (b off cap : Nat) (l : List UInt8) (w : World) (hl : l.length = 64) (hc : ∀ j, j < 64 → w.cell? ⟨b, off + j, none⟩ = some (.int .u8 (at8 l j))) :
    Calls Tryd.prog 17 #[.slice (some ⟨b, off, none⟩) 64 cap] w fun e w' => e = .returned (.agg (ws (schTo l 64))) ∧ Below w.heap.size w w' := by
  have hbb : b < w.heap.size := block_lt_of_cell (hc 0 (by omega))
  go_enter Tryd.func17, Tryd.ntmps17
  go_wp2_with (first | (refine wpList_alloc_row rfl 58 rfl (ws (pad64 [])) (hz67 _) ?_))
  go_loopw [4] (fun i wr => ∃ k : Nat, k ≤ 16 ∧ i = .int .i64 k ∧ wr.heap[w.heap.size + 1]? = some (.cells (ws (pad64 (schTo l k))) 58 (0, 0)) ∧ wr.heap[w.heap.size]? = some (.cells (ws (pad64 [])) 58 (0, 0)) ∧ Below w.heap.size w wr) (fun i _ => 16 - (intOf i).toNat)
  case atStart => exact ⟨0, by omega, rfl, heap_alloc2_new _ _ _, heap_alloc2_old _ _ _, ((Below.refl _ _).alloc (Nat.le_refl _) _).alloc (by simp) _⟩
  case round =>
    obtain ⟨k, hk, rfl, hb1, hb0, hbel⟩ := hrel
    have hlt : w.heap.size + 1 < wr.heap.size := (Array.getElem?_eq_some_iff.1 hb1).1
    by_cases h1 : k < 16
    · have d0 := (hbel.cell (p := ⟨b, off + 4 * k, none⟩) hbb).trans (hc (4 * k) (by omega))
      have d1 := (hbel.cell (p := ⟨b, off + (4 * k + 1), none⟩) hbb).trans (hc (4 * k + 1) (by omega))
      have d2 := (hbel.cell (p := ⟨b, off + (4 * k + 2), none⟩) hbb).trans (hc (4 * k + 2) (by omega))
      have d3 := (hbel.cell (p := ⟨b, off + (4 * k + 3), none⟩) hbb).trans (hc (4 * k + 3) (by omega))
      have hcl := (cell_of_row wr (w.heap.size + 1) k _ _ _ hb1).trans (ws_get _ k (by rw [pad_len _ (by rw [schTo_len]; omega)]; omega))
      have hf := frozen_of_row wr (w.heap.size + 1) k _ _ hb1
      go_wp2
      go_region
      all_goals
        go_wp2
        go_roundw
        case rel =>
          refine ⟨k + 1, by omega, by go_num, ?_, ?_, (hbel.setCell (by simp) _).drew⟩
          · show (wr.setCell _ _).heap[_]? = _
            rw [heap_setCell_same wr (w.heap.size + 1) k _ 58 _ hb1, ws_set]
            have e := pad_set (schTo l k) (word l k) (by rw [schTo_len]; omega)
            rw [schTo_len] at e
            have e2 : schTo l (k + 1) = schTo l k ++ [word l k] := by simp [schTo, h1]
            rw [e2, ← e]
            rfl
          · show (wr.setCell _ _).heap[_]? = _
            rw [heap_setCell_other _ _ _ _ (by simp)]; exact hb0
        case measure => simp [intOf]; omega
    · have hk2 : k = 16 := by omega
      subst hk2
      clear h1 hk
      simp only [Int.cast_ofNat_Int]
      go_wp2
      go_loopw [5, 6, 7, 8, 9] (fun i _ _ _ _ wq => ∃ k : Nat, 16 ≤ k ∧ k ≤ 64 ∧ i = .int .i64 k ∧ wq.heap[w.heap.size + 1]? = some (.cells (ws (pad64 (schTo l k))) 58 (0, 0)) ∧ wq.heap[w.heap.size]? = some (.cells (ws (pad64 [])) 58 (0, 0)) ∧ Below w.heap.size w wq) (fun i _ _ _ _ _ => 64 - (intOf i).toNat)
      case atStart => exact ⟨16, by omega, by omega, rfl, hb1, hb0, hbel⟩
      case round =>
        clear hb1 hb0 hbel hlt
        obtain ⟨k, hk0, hk, rfl, hb1, hb0, hbel⟩ := hrel
        have hlt : w.heap.size + 1 < wr.heap.size := (Array.getElem?_eq_some_iff.1 hb1).1
        by_cases h1 : k < 64
        · have hL : (pad64 (schTo l k)).length = 64 := pad_len _ (by rw [schTo_len]; omega)
          have gc : ∀ j, j < k → wr.cell? ⟨w.heap.size + 1, j, none⟩ = some (.int .u32 (U ((schTo l k).getD j 0))) := fun j hj => by
            rw [← pad_get _ j (by rw [schTo_len]; omega)]
            exact (cell_of_row wr (w.heap.size + 1) j _ _ _ hb1).trans (ws_get _ j (by omega))
          have d15 := gc (k - 15) (by omega)
          have d2 := gc (k - 2) (by omega)
          have d7 := gc (k - 7) (by omega)
          have d16 := gc (k - 16) (by omega)
          have hcl := (cell_of_row wr (w.heap.size + 1) k _ _ _ hb1).trans (ws_get _ k (by omega))
          have hf := frozen_of_row wr (w.heap.size + 1) k _ _ hb1
          have E : Hid (nextW (schTo l k) k = sig1 ((schTo l k).getD (k - 2) 0) + (schTo l k).getD (k - 7) 0 + sig0 ((schTo l k).getD (k - 15) 0) + (schTo l k).getD (k - 16) 0) := rfl
          generalize (schTo l k).getD (k - 2) 0 = y2 at E d2
          generalize (schTo l k).getD (k - 7) 0 = y7 at E d7
          generalize (schTo l k).getD (k - 15) 0 = y15 at E d15
          generalize (schTo l k).getD (k - 16) 0 = y16 at E d16
          clear gc hL
          have bk : (0 : Int) ≤ (k : Int) - 16 := by omega
          go_wp2_with fail
          refine (tur7 _ _).mono ?_
          rintro e w' ⟨rfl, n7, rfl⟩
          go_wp2_with fail
          refine (tur18 _ _).mono ?_
          rintro e w' ⟨rfl, n18, rfl⟩
          go_wp2_with fail
          refine (tur17 _ _).mono ?_
          rintro e w' ⟨rfl, n17, rfl⟩
          go_wp2_with fail
          refine (tur19 _ _).mono ?_
          rintro e w' ⟨rfl, n19, rfl⟩
          go_wp2
          go_region
          all_goals
            go_wp2
            go_roundw
            case rel =>
              refine ⟨k + 1, by omega, by omega, by go_num, ?_, ?_, (below_drewN hbel _).setCell (by simp) _⟩
              · show (wr.setCell _ _).heap[_]? = _
                rw [heap_setCell_same wr (w.heap.size + 1) k _ 58 _ hb1, ws_set]
                have e := pad_set (schTo l k) (nextW (schTo l k) k) (by rw [schTo_len]; omega)
                rw [schTo_len] at e
                have e2 : schTo l (k + 1) = schTo l k ++ [nextW (schTo l k) k] := by simp [schTo, show ¬ k < 16 by omega]
                rw [e2, ← e, E.out]
                rfl
              · show (wr.setCell _ _).heap[_]? = _
                rw [heap_setCell_other _ _ _ _ (by simp)]; exact hb0
            case measure => simp [intOf]; omega
        · have hk2 : k = 64 := by omega
          subst hk2
          have hfull : pad64 (schTo l 64) = schTo l 64 := pad_full _ (schTo_len _ _)
          rw [hfull] at hb1
          clear hfull
          go_wp2_with (first | (refine wpList_load_arr rfl 58 _ rfl (w.heap.size + 1) rfl 58 (ws (schTo l 64)) (0, 0) _ hb1 Tryd.underlying58 rfl (by rw [ws_size, schTo_len]; exact hs67) ?_) | (refine wpList_store_row rfl 58 _ _ rfl w.heap.size (ws (schTo l 64)) rfl rfl 58 (ws (pad64 [])) hb0 (by rw [ws_size, schTo_len]; exact hs67) (by rw [ws_size, ws_size, schTo_len]; rfl) (ws_one _) ?_))
          exact bodyPost_ret (res38 _ _ w.heap.size 58 (schTo l 64) (schTo_len _ _) (0, 0) rfl (setRow_heap _ _ _ _ _ _ hb0)) rfl ⟨rfl, hbel.trans (below_setRow _ _ _ _ (Nat.le_refl _))⟩
end Go.Proofs.YthlcmijekgjgjaaDoor
