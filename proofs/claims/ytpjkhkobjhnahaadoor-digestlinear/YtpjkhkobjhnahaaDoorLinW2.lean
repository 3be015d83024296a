import Derived.Test.YtpjkhkobjhnahaaDoorLinB
namespace Go.Proofs.YtpjkhkobjhnahaaDoor
open Go.RowKit
set_option linter.unusedVariables false
set_option linter.unusedSimpArgs false
attribute [local go_sem] bits_xor
set_option maxHeartbeats 20000000 in
theorem lin_pos2 (n la lb lc ca cb cc : Nat) (b1 o1 b2 o2 b3 o3 : Nat) (A B C : List UInt8) (w : World)
    (hA : A.length = n) (hB : B.length = n) (hC : C.length = n) (h0 : 0 < n) (hla : la ≤ 140737488351232) (hca : la ≤ ca) (hcb : lb ≤ cb) (hcc : lc ≤ cc)
    (hsel : n = lb ∧ n < la ∧ n ≤ lc)
    (c1 : ∀ j, j < n → w.cell? ⟨b1, o1 + j, none⟩ = some (.int .u8 (at8 A j))) (c2 : ∀ j, j < n → w.cell? ⟨b2, o2 + j, none⟩ = some (.int .u8 (at8 B j))) (c3 : ∀ j, j < n → w.cell? ⟨b3, o3 + j, none⟩ = some (.int .u8 (at8 C j)))
    (hn : NibsAt w) :
    Calls Tryd.prog 8 #[.slice (some ⟨b1, o1, none⟩) la ca, .slice (some ⟨b2, o2, none⟩) lb cb, .slice (some ⟨b3, o3, none⟩) lc cc] w fun e w' => e = .returned (.bool true) ∧ Below w.heap.size w w' := by
  have hmk := fun wx => run_make_row' (P := Tryd.prog) 26 5 (.int .u8 0) 1 Tryd.underlying26 Tryd.info5 rfl .i64 .i64 n (by omega) (by omega) wx
  rw [made_bs] at hmk
  have q1 : b1 < w.heap.size := block_lt_of_cell (c1 0 h0)
  have q2 : b2 < w.heap.size := block_lt_of_cell (c2 0 h0)
  have q3 : b3 < w.heap.size := block_lt_of_cell (c3 0 h0)
  obtain ⟨rfl, h2, h3⟩ := hsel
  all_goals
    go_enter Tryd.func8, Tryd.ntmps8
    go_wp2
    clear hmk
    go_loopw [9] (fun i wr => ∃ k : Nat, k ≤ n ∧ i = .int .i64 k ∧ wr.heap[w.heap.size]? = some (.cells (bs (xTo n A B C k)) 5 (0, 0)) ∧ Below w.heap.size w wr) (fun i _ => n - (intOf i).toNat)
    case atStart => exact ⟨0, Nat.zero_le _, rfl, by rw [xTo_zero]; exact heap_alloc_new _ _, (Below.refl _ _).alloc (Nat.le_refl _) _⟩
    case round =>
      obtain ⟨k, hk, rfl, hg, hbel⟩ := hrel
      by_cases h1 : k < n
      · have d1 := (hbel.cell (p := ⟨b1, o1 + k, none⟩) q1).trans (c1 k h1)
        have d2 := (hbel.cell (p := ⟨b2, o2 + k, none⟩) q2).trans (c2 k h1)
        have d3 := (hbel.cell (p := ⟨b3, o3 + k, none⟩) q3).trans (c3 k h1)
        have hlt : w.heap.size < wr.heap.size := (Array.getElem?_eq_some_iff.1 hg).1
        have hc := (cell_of_row wr w.heap.size k _ _ _ hg).trans (bs_get _ k (by rw [xTo_len]; omega))
        have hf := frozen_of_row wr w.heap.size k _ _ hg
        have hx := x3_bits A B C k
        go_wp2
        go_region
        all_goals
          go_wp2
          go_roundw
          case rel =>
            refine ⟨k + 1, by omega, by go_num, ?_, ?_⟩
            · show (wr.setCell _ _).heap[_]? = _
              rw [heap_setCell_same wr w.heap.size k _ 5 _ hg, bs_set, xTo_succ _ _ _ _ _ h1]
            · exact (hbel.setCell (by simp) _).drew
          case measure => simp [intOf]; omega
      · have hk2 : k = n := by omega
        subst hk2
        rw [xTo_all k A B C hA hB hC] at hg
        have hn2 : NibsAt wr := fun j hj => (hbel.cell (p := ⟨0, j, none⟩) (block_lt_of_cell (hn j hj))).trans (hn j hj)
        have hlt : w.heap.size < wr.heap.size := (Array.getElem?_eq_some_iff.1 hg).1
        have H0 : Hid (∀ wx, Below wr.heap.size wr wx → Calls Tryd.prog 11 #[.slice (some ⟨w.heap.size, 0, none⟩) k k] wx fun e w' => e = .returned (.int .u32 (U (crc A ^^^ crc B ^^^ crc C))) ∧ w' = wx) := fun wx hx => by
          rw [← crc_xor3 A B C (by omega) (by omega)]
          refine crc_at k _ (xor3 A B C) k wx (by simp [xor3, hA, hB, hC]) (.inr ⟨_, _, rfl, fun j hj => ?_⟩) (by omega) (fun j hj => (hx.cell (p := ⟨0, j, none⟩) (block_lt_of_cell (hn2 j hj))).trans (hn2 j hj))
          rw [Nat.zero_add, hx.cell (p := ⟨w.heap.size, j, none⟩) hlt]
          exact (cell_of_row wr w.heap.size j _ _ _ hg).trans (bs_get _ j hj)
        have HH : ∀ (b o cap : Nat) (X : List UInt8), X.length = k → b < w.heap.size → (∀ j, j < k → w.cell? ⟨b, o + j, none⟩ = some (.int .u8 (at8 X j))) → ∀ wx, Below wr.heap.size wr wx → Calls Tryd.prog 11 #[.slice (some ⟨b, o, none⟩) k cap] wx fun e w' => e = .returned (.int .u32 (U (crc X))) ∧ w' = wx := fun b o cap X hX hb hcc wx hx =>
          crc_at k _ X cap wx hX (.inr ⟨_, _, rfl, fun j hj => ((hx.cell (p := ⟨b, o + j, none⟩) (by show b < _; omega)).trans (hbel.cell (p := ⟨b, o + j, none⟩) hb)).trans (hcc j (by omega))⟩) (by omega) (fun j hj => (hx.cell (p := ⟨0, j, none⟩) (block_lt_of_cell (hn2 j hj))).trans (hn2 j hj))
        have H1 : Hid (∀ cap wx, Below wr.heap.size wr wx → Calls Tryd.prog 11 #[.slice (some ⟨b1, o1, none⟩) k cap] wx fun e w' => e = .returned (.int .u32 (U (crc A))) ∧ w' = wx) := fun cap => HH b1 o1 cap A hA q1 c1
        have H2 : Hid (∀ cap wx, Below wr.heap.size wr wx → Calls Tryd.prog 11 #[.slice (some ⟨b2, o2, none⟩) k cap] wx fun e w' => e = .returned (.int .u32 (U (crc B))) ∧ w' = wx) := fun cap => HH b2 o2 cap B hB q2 c2
        have H3 : Hid (∀ cap wx, Below wr.heap.size wr wx → Calls Tryd.prog 11 #[.slice (some ⟨b3, o3, none⟩) k cap] wx fun e w' => e = .returned (.int .u32 (U (crc C))) ∧ w' = wx) := fun cap => HH b3 o3 cap C hC q3 c3
        clear HH
        have H4 : Hid (∀ wx, wx.heap[wr.heap.size]? = some (.cells (bs digs) 5 (9, 10)) → Below wr.heap.size wr wx → Calls Tryd.prog 11 #[.slice (some ⟨wr.heap.size, 0, none⟩) 9 9] wx fun e w' => e = .returned (.int .u32 3421780262) ∧ w' = wx) := fun wx hh hx => by
          rw [← crc_digs]
          refine crc_at 9 _ digs 9 wx rfl (.inr ⟨_, _, rfl, fun j hj => ?_⟩) (by omega) (fun j hj => (hx.cell (p := ⟨0, j, none⟩) (block_lt_of_cell (hn2 j hj))).trans (hn2 j hj))
          rw [Nat.zero_add]
          exact (cell_of_row wx _ j _ _ _ hh).trans (bs_get _ j hj)
        have kc := lit9 wr
        go_wp2
        go_region_with (first
          | (go_at_call_of 11 (Value.slice (some ⟨b1, o1, none⟩) k ca); refine (H1.out _ _ ?_).mono ?_; (first | exact (Below.refl _ _).drew | exact ((Below.refl _ _).alloc (Nat.le_refl _) _).drew); rintro e w' ⟨rfl, rfl⟩)
          | (go_at_call_of 11 (Value.slice (some ⟨b2, o2, none⟩) k cb); refine (H2.out _ _ ?_).mono ?_; (first | exact (Below.refl _ _).drew | exact ((Below.refl _ _).alloc (Nat.le_refl _) _).drew); rintro e w' ⟨rfl, rfl⟩)
          | (go_at_call_of 11 (Value.slice (some ⟨b3, o3, none⟩) k cc); refine (H3.out _ _ ?_).mono ?_; (first | exact (Below.refl _ _).drew | exact ((Below.refl _ _).alloc (Nat.le_refl _) _).drew); rintro e w' ⟨rfl, rfl⟩)
          | (go_at_call_of 11 (Value.slice (some ⟨w.heap.size, 0, none⟩) k k); refine (H0.out _ ?_).mono ?_; (first | exact (Below.refl _ _).drew | exact ((Below.refl _ _).alloc (Nat.le_refl _) _).drew); rintro e w' ⟨rfl, rfl⟩)
          | (go_at_call_of 11 (Value.slice (some ⟨wr.heap.size, 0, none⟩) 9 9); refine (H4.out _ ?_ ?_).mono ?_; exact heap_alloc_new _ _; exact ((Below.refl _ _).alloc (Nat.le_refl _) _).drew; rintro e w' ⟨rfl, rfl⟩))
        all_goals go_wp2
        all_goals go_ret
        all_goals exact ⟨rfl, (hbel.alloc (by omega) _).drew⟩
end Go.Proofs.YtpjkhkobjhnahaaDoor
