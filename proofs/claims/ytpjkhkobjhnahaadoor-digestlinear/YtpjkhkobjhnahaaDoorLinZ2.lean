import Derived.Test.YtpjkhkobjhnahaaDoorLinC
namespace Go.Proofs.YtpjkhkobjhnahaaDoor
open Go.RowKit
set_option linter.unusedVariables false
set_option linter.unusedSimpArgs false

set_option maxHeartbeats 20000000 in
theorem lin_zero2 (la lb lc ca cb cc : Nat) (a1 a2 a3 : Option Addr) (w : World)
    (hla : la ≤ 140737488351232) (hlb : lb ≤ 140737488351232) (hlc : lc ≤ 140737488351232) (hca : la ≤ ca) (hcb : lb ≤ cb) (hcc : lc ≤ cc)
    (hsel : lb = 0 ∧ 0 < la ∧ 0 ≤ lc) (hn : NibsAt w) :
    Calls Tryd.prog 8 #[.slice a1 la ca, .slice a2 lb cb, .slice a3 lc cc] w fun e w' => e = .returned (.bool true) ∧ Below w.heap.size w w' := by
  have hmk : ∀ wx, (Instr.makeSlice 26 (.int .i64 0) (.int .i64 0)).run Tryd.prog wx = .ok (.slice (some ⟨wx.heap.size, 0, none⟩) 0 0) (wx.alloc (.cells #[] 5)) := fun wx => make0 wx
  obtain ⟨rfl, h1, h2⟩ := hsel
  go_enter Tryd.func8, Tryd.ntmps8
  go_wp2
  clear hmk
  refine wp_loop_rounds 1 ?_
  rw [rounds_succ]
  obtain ⟨wr, hwr⟩ : ∃ wr, wr = w.alloc (.cells #[] 5) := ⟨_, rfl⟩
  have hbel : Below w.heap.size w wr := by rw [hwr]; exact (Below.refl _ _).alloc (Nat.le_refl _) _
  have hlt : w.heap.size < wr.heap.size := by rw [hwr]; simp
  rw [← hwr]
  clear hwr
  have hn2 : NibsAt wr := fun j hj => (hbel.cell (p := ⟨0, j, none⟩) (block_lt_of_cell (hn j hj))).trans (hn j hj)
  have H0 : Hid (∀ a cap wx, Below wr.heap.size wr wx → Calls Tryd.prog 11 #[.slice a 0 cap] wx fun e w' => e = .returned (.int .u32 0) ∧ w' = wx) := fun a cap wx hx =>
    crc_at 0 a [] cap wx rfl (.inl rfl) (by omega) (fun j hj => (hx.cell (p := ⟨0, j, none⟩) (block_lt_of_cell (hn2 j hj))).trans (hn2 j hj))
  have H4 : Hid (∀ wx, wx.heap[wr.heap.size]? = some (.cells (bs digs) 5 (9, 10)) → Below wr.heap.size wr wx → Calls Tryd.prog 11 #[.slice (some ⟨wr.heap.size, 0, none⟩) 9 9] wx fun e w' => e = .returned (.int .u32 3421780262) ∧ w' = wx) := fun wx hh hx => by
    rw [← crc_digs]
    refine crc_at 9 _ digs 9 wx rfl (.inr ⟨_, _, rfl, fun j hj => ?_⟩) (by omega) (fun j hj => (hx.cell (p := ⟨0, j, none⟩) (block_lt_of_cell (hn2 j hj))).trans (hn2 j hj))
    rw [Nat.zero_add]
    exact (cell_of_row wx _ j _ _ _ hh).trans (bs_get _ j hj)
  have kc := lit9 wr
  have x0 : bits BinOp.xor IntKind.u32 0 0 = 0 := by decide
  go_wp2
  go_region_with (first
    | (go_at_call_of 11 (Value.slice (some ⟨wr.heap.size, 0, none⟩) 9 9); refine (H4.out _ ?_ ?_).mono ?_; exact heap_alloc_new _ _; exact ((Below.refl _ _).alloc (Nat.le_refl _) _).drew; rintro e w' ⟨rfl, rfl⟩)
    | (go_at_call 11; refine (H0.out _ _ _ ?_).mono ?_; (first | exact (Below.refl _ _).drew | exact ((Below.refl _ _).alloc (Nat.le_refl _) _).drew); rintro e w' ⟨rfl, rfl⟩))
  all_goals go_wp2
  all_goals go_ret
  all_goals exact ⟨rfl, (hbel.alloc (by omega) _).drew⟩
end Go.Proofs.YtpjkhkobjhnahaaDoor
