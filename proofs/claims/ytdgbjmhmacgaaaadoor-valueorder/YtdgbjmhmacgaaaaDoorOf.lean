import Derived.Test.YtdgbjmhmacgaaaaDoorCy
import Derived.Test.YtdgbjmhmacgaaaaDoorRw
namespace Go.Proofs.YtdgbjmhmacgaaaaDoor
open Go.RowKit
set_option linter.unusedVariables false
set_option linter.unusedSimpArgs false

/-- Three boxes, side by side. -/
structure Boxes3 (w wx : World) (k n : Int) (f : Nat) (s : ByteArray) (k' n' : Int) (f' : Nat) (s' : ByteArray) (k'' n'' : Int) (f'' : Nat) (s'' : ByteArray) : Prop where
  all : wx.cell? ⟨w.heap.size, 0, none⟩ = some (.int .u8 k) ∧ wx.cell? ⟨w.heap.size, 1, none⟩ = some (.int .i64 n) ∧ wx.cell? ⟨w.heap.size, 2, none⟩ = some (.float .f64 f) ∧ wx.cell? ⟨w.heap.size, 3, none⟩ = some (.string s) ∧ wx.cell? ⟨w.heap.size + 1, 0, none⟩ = some (.int .u8 k') ∧ wx.cell? ⟨w.heap.size + 1, 1, none⟩ = some (.int .i64 n') ∧ wx.cell? ⟨w.heap.size + 1, 2, none⟩ = some (.float .f64 f') ∧ wx.cell? ⟨w.heap.size + 1, 3, none⟩ = some (.string s') ∧ wx.cell? ⟨w.heap.size + 2, 0, none⟩ = some (.int .u8 k'') ∧ wx.cell? ⟨w.heap.size + 2, 1, none⟩ = some (.int .i64 n'') ∧ wx.cell? ⟨w.heap.size + 2, 2, none⟩ = some (.float .f64 f'') ∧ wx.cell? ⟨w.heap.size + 2, 3, none⟩ = some (.string s'')
theorem boxes3_new (w : World) (k n : Int) (f : Nat) (s : ByteArray) (k' n' : Int) (f' : Nat) (s' : ByteArray) (k'' n'' : Int) (f'' : Nat) (s'' : ByteArray) : Boxes3 w (((w.alloc (.cells #[.int .u8 k, .int .i64 n, .float .f64 f, .string s] 25)).alloc (.cells #[.int .u8 k', .int .i64 n', .float .f64 f', .string s'] 25)).alloc (.cells #[.int .u8 k'', .int .i64 n'', .float .f64 f'', .string s''] 25)) k n f s k' n' f' s' k'' n'' f'' s'' := by
  have g0 : (((w.alloc (.cells #[.int .u8 k, .int .i64 n, .float .f64 f, .string s] 25)).alloc (.cells #[.int .u8 k', .int .i64 n', .float .f64 f', .string s'] 25)).alloc (.cells #[.int .u8 k'', .int .i64 n'', .float .f64 f'', .string s''] 25)).heap[w.heap.size]? = some (.cells #[.int .u8 k, .int .i64 n, .float .f64 f, .string s] 25 (0, 0)) := by
    rw [Below.heap_alloc _ _ _ (by simp; omega), Below.heap_alloc _ _ _ (by simp)]; exact heap_alloc_new _ _
  have g1 : (((w.alloc (.cells #[.int .u8 k, .int .i64 n, .float .f64 f, .string s] 25)).alloc (.cells #[.int .u8 k', .int .i64 n', .float .f64 f', .string s'] 25)).alloc (.cells #[.int .u8 k'', .int .i64 n'', .float .f64 f'', .string s''] 25)).heap[w.heap.size + 1]? = some (.cells #[.int .u8 k', .int .i64 n', .float .f64 f', .string s'] 25 (0, 0)) := by
    rw [Below.heap_alloc _ _ _ (by simp)]
    have := heap_alloc_new (w.alloc (.cells #[.int .u8 k, .int .i64 n, .float .f64 f, .string s] 25)) (.cells #[.int .u8 k', .int .i64 n', .float .f64 f', .string s'] 25)
    simpa using this
  have g2 : (((w.alloc (.cells #[.int .u8 k, .int .i64 n, .float .f64 f, .string s] 25)).alloc (.cells #[.int .u8 k', .int .i64 n', .float .f64 f', .string s'] 25)).alloc (.cells #[.int .u8 k'', .int .i64 n'', .float .f64 f'', .string s''] 25)).heap[w.heap.size + 2]? = some (.cells #[.int .u8 k'', .int .i64 n'', .float .f64 f'', .string s''] 25 (0, 0)) := by
    have := heap_alloc_new ((w.alloc (.cells #[.int .u8 k, .int .i64 n, .float .f64 f, .string s] 25)).alloc (.cells #[.int .u8 k', .int .i64 n', .float .f64 f', .string s'] 25)) (.cells #[.int .u8 k'', .int .i64 n'', .float .f64 f'', .string s''] 25)
    simpa using this
  exact ⟨(cell_of_row _ _ 0 _ _ _ g0).trans rfl, (cell_of_row _ _ 1 _ _ _ g0).trans rfl, (cell_of_row _ _ 2 _ _ _ g0).trans rfl, (cell_of_row _ _ 3 _ _ _ g0).trans rfl, (cell_of_row _ _ 0 _ _ _ g1).trans rfl, (cell_of_row _ _ 1 _ _ _ g1).trans rfl, (cell_of_row _ _ 2 _ _ _ g1).trans rfl, (cell_of_row _ _ 3 _ _ _ g1).trans rfl, (cell_of_row _ _ 0 _ _ _ g2).trans rfl, (cell_of_row _ _ 1 _ _ _ g2).trans rfl, (cell_of_row _ _ 2 _ _ _ g2).trans rfl, (cell_of_row _ _ 3 _ _ _ g2).trans rfl⟩
theorem Boxes3.below {w W wx : World} {k n : Int} {f : Nat} {s : ByteArray} {k' n' : Int} {f' : Nat} {s' : ByteArray} {k'' n'' : Int} {f'' : Nat} {s'' : ByteArray} (h : Boxes3 w W k n f s k' n' f' s' k'' n'' f'' s'') (z : w.heap.size + 2 < W.heap.size) (hx : Below W.heap.size W wx) : Boxes3 w wx k n f s k' n' f' s' k'' n'' f'' s'' := by
  obtain ⟨h0, h1, h2, h3, h4, h5, h6, h7, h8, h9, h10, h11⟩ := h.all
  have z0 : w.heap.size < W.heap.size := by omega
  have z1 : w.heap.size + 1 < W.heap.size := by omega
  exact ⟨(hx.cell (p := ⟨w.heap.size, 0, none⟩) z0).trans h0, (hx.cell (p := ⟨w.heap.size, 1, none⟩) z0).trans h1, (hx.cell (p := ⟨w.heap.size, 2, none⟩) z0).trans h2, (hx.cell (p := ⟨w.heap.size, 3, none⟩) z0).trans h3, (hx.cell (p := ⟨w.heap.size + 1, 0, none⟩) z1).trans h4, (hx.cell (p := ⟨w.heap.size + 1, 1, none⟩) z1).trans h5, (hx.cell (p := ⟨w.heap.size + 1, 2, none⟩) z1).trans h6, (hx.cell (p := ⟨w.heap.size + 1, 3, none⟩) z1).trans h7, (hx.cell (p := ⟨w.heap.size + 2, 0, none⟩) z).trans h8, (hx.cell (p := ⟨w.heap.size + 2, 1, none⟩) z).trans h9, (hx.cell (p := ⟨w.heap.size + 2, 2, none⟩) z).trans h10, (hx.cell (p := ⟨w.heap.size + 2, 3, none⟩) z).trans h11⟩
theorem one_two : cmpV 2 1 0 ⟨#[]⟩ 2 2 0 ⟨#[]⟩ = -1 := by decide +kernel
theorem bel_box3 (w : World) (c d e : Array Value) (t u v : TypeId) : Below w.heap.size w (((w.alloc (.cells c t)).alloc (.cells d u)).alloc (.cells e v)) := (bel_box2 w c d t u).alloc (by simp; omega) _
/-- What the order asks of right values. -/
theorem order_facts (k n : Int) (f : Nat) (s : ByteArray) (k' n' : Int) (f' : Nat) (s' : ByteArray) (k'' n'' : Int) (f'' : Nat) (s'' : ByteArray) (h : rightV k n f s = true) (h' : rightV k' n' f' s' = true) (h'' : rightV k'' n'' f'' s'' = true) (hf : f < 18446744073709551616) (hf' : f' < 18446744073709551616) :
    cmpV k' n' f' s' k n f s = - cmpV k n f s k' n' f' s' ∧ sameB k n f s k' n' f' s' = decide (cmpV k n f s k' n' f' s' = 0) ∧
      ¬ (cmpV k n f s k' n' f' s' ≤ 0 ∧ cmpV k' n' f' s' k'' n'' f'' s'' ≤ 0 ∧ 0 < cmpV k n f s k'' n'' f'' s'') ∧ ¬ (cmpV k n f s k' n' f' s' < 0 ∧ cmpV k' n' f' s' k'' n'' f'' s'' ≤ 0 ∧ 0 ≤ cmpV k n f s k'' n'' f'' s'') := by
  have T := to_all
  have e1 : cmpV k n f s k' n' f' s' = or4 (cI k k') (cI n n') (cI (fkey f) (fkey f')) (cS s s') := by unfold cmpV; rw [if_pos ⟨h, h'⟩]
  have e2 : cmpV k' n' f' s' k n f s = or4 (cI k' k) (cI n' n) (cI (fkey f') (fkey f)) (cS s' s) := by unfold cmpV; rw [if_pos ⟨h', h⟩]
  have e3 : cmpV k' n' f' s' k'' n'' f'' s'' = or4 (cI k' k'') (cI n' n'') (cI (fkey f') (fkey f'')) (cS s' s'') := by unfold cmpV; rw [if_pos ⟨h', h''⟩]
  have e4 : cmpV k n f s k'' n'' f'' s'' = or4 (cI k k'') (cI n n'') (cI (fkey f) (fkey f'')) (cS s s'') := by unfold cmpV; rw [if_pos ⟨h, h''⟩]
  have t1 := T.anti (k, n, fkey f, s) (k', n', fkey f', s')
  have t2 := T.le (k, n, fkey f, s) (k', n', fkey f', s') (k'', n'', fkey f'', s'')
  have t3 := T.lt (k, n, fkey f, s) (k', n', fkey f', s') (k'', n'', fkey f'', s'')
  simp only [] at t1 t2 t3
  have q : sameB k n f s k' n' f' s' = decide (cmpV k n f s k' n' f' s' = 0) := by
    have i1 : cmpV k n f s k' n' f' s' = 0 ↔ sameB k n f s k' n' f' s' = true := by
      rw [e1, or4_zero, same_iff, cI_zero, cI_zero, cI_zero, cS_zero]
      constructor
      · rintro ⟨a, b, c, d⟩; exact ⟨a, b, fkey_inj hf hf' (right_nz h) (right_nz h') c, d⟩
      · rintro ⟨a, b, c, d⟩; exact ⟨a, b, by rw [c], d⟩
    cases hq : sameB k n f s k' n' f' s' with
    | true => rw [decide_eq_true (i1.2 hq)]
    | false => rw [decide_eq_false (fun e => by rw [i1, hq] at e; cases e)]
  refine ⟨by rw [e1, e2]; exact t1, q, ?_, ?_⟩
  · rw [e1, e3, e4]
    rintro ⟨p1, p2, p3⟩
    have := t2 p1 p2
    omega
  · rw [e1, e3, e4]
    rintro ⟨p1, p2, p3⟩
    have := t3 (by omega) p2 (.inl p1)
    omega
theorem or4_bd {a b c d : Int} (ha : -1 ≤ a ∧ a ≤ 1) (hb : -1 ≤ b ∧ b ≤ 1) (hc : -1 ≤ c ∧ c ≤ 1) (hd : -1 ≤ d ∧ d ≤ 1) : -1 ≤ or4 a b c d ∧ or4 a b c d ≤ 1 := by
  unfold or4
  repeat' split
  all_goals omega
theorem cI_bd (a b : Int) : -1 ≤ cI a b ∧ cI a b ≤ 1 := by unfold cI; repeat' split <;> omega
theorem cS_bd (a b : ByteArray) : -1 ≤ cS a b ∧ cS a b ≤ 1 := by rcases cS_val a b with ⟨_, e⟩ | ⟨_, e⟩ | ⟨_, e⟩ <;> rw [e] <;> omega
theorem cmpV_bd (k n : Int) (f : Nat) (s : ByteArray) (k' n' : Int) (f' : Nat) (s' : ByteArray) : -1 ≤ cmpV k n f s k' n' f' s' ∧ cmpV k n f s k' n' f' s' ≤ 1 := by
  unfold cmpV
  split
  · exact or4_bd (cI_bd _ _) (cI_bd _ _) (cI_bd _ _) (cS_bd _ _)
  · omega
end Go.Proofs.YtdgbjmhmacgaaaaDoor
