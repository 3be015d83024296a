import Derived.Test.YtdgbjmhmacgaaaaDoorNa
import Derived.Laws.CopyOwn
namespace Go.Proofs.YtdgbjmhmacgaaaaDoor
open Go.RowKit
set_option linter.unusedVariables false
set_option linter.unusedSimpArgs false

/-- What Sum makes of a value's number. -/
def sumN (k n : Int) (f : Nat) (s : ByteArray) (m : Int) : Int := if k = 7 ∧ rightB 7 n f s = true then wrap64 (n + m) else n

theorem inf25 (k n : Int) (f : Nat) (s : ByteArray) : (Tryd.prog.info? 25).map (·.size) = some (#[.int .u8 k, .int .i64 n, .float .f64 f, .string s] : Array Value).size := by kernel_rfl
theorem one25 (k n : Int) (f : Nat) (s : ByteArray) : (#[.int .u8 k, .int .i64 n, .float .f64 f, .string s] : Array Value).all (·.oneCell') = true := by simp [Value.oneCell']
theorem und25 : ∃ fs, Tryd.prog.underlying 25 = some (.struct fs) := by
  have h : (match Tryd.prog.underlying 25 with | some (.struct _) => true | _ => false) = true := by kernel_rfl
  revert h
  split
  · rename_i fs he; intro _; exact ⟨fs, he⟩
  · intro h; cases h
theorem sum_no {k n : Int} {f : Nat} {s : ByteArray} {m : Int} (h : ¬ (k = 7 ∧ rightB 7 n f s = true)) : sumN k n f s m = n := by unfold sumN; rw [if_neg h]
theorem sum_yes {n : Int} {f : Nat} {s : ByteArray} {m : Int} (h : rightB 7 n f s = true) : sumN 7 n f s m = wrap64 (n + m) := by unfold sumN; rw [if_pos ⟨rfl, h⟩]

theorem res23 (tmps : Array Value) (w : World) (g : Nat) (t : TypeId) (k n : Int) (f : Nat) (s : ByteArray) (fr : Nat × Nat) (hp : tmps.getD 4 undef = .pointer (some ⟨g, 0, none⟩)) (hg : w.heap[g]? = some (.cells #[.int .u8 k, .int .i64 n, .float .f64 f, .string s] t fr)) :
    (results Tryd.f23 tmps).run Tryd.prog w = .ok (.agg #[.int .u8 k, .int .i64 n, .float .f64 f, .string s]) w := by
  obtain ⟨fs, hu⟩ := und25
  exact results_cell_row Tryd.results23 tmps w g t _ fr _ hp hg hu rfl (inf25 _ _ _ _)
set_option maxRecDepth 100000 in
set_option maxHeartbeats 1000000 in
theorem sum_any (k n : Int) (f : Nat) (s : ByteArray) (m : Int) (w : World) :
    Calls Tryd.prog 23 #[.agg #[.int .u8 k, .int .i64 n, .float .f64 f, .string s], .int .i64 m] w fun e w' => e = .returned (.agg #[.int .u8 k, .int .i64 (sumN k n f s m), .float .f64 f, .string s]) ∧ Below w.heap.size w w' := by
  rcases (show (k = 7 ∧ rightB 7 n f s = true) ∨ (k = 7 ∧ rightB 7 n f s = false) ∨ ¬ k = 7 by cases rightB 7 n f s <;> simp <;> omega) with ⟨rfl, hr⟩ | ⟨rfl, hr⟩ | h7
  · rw [sum_yes hr]
    have b0 : Below w.heap.size w ((w.alloc (.cells #[.int .u8 7, .int .i64 n, .float .f64 f, .string s] 25)).alloc (.cells #[.int .u8 0, .int .i64 0, .float .f64 0, .string ⟨#[]⟩] 25)) := ((Below.refl _ _).alloc (Nat.le_refl _) _).alloc (by simp) _
    have g0 : ((w.alloc (.cells #[.int .u8 7, .int .i64 n, .float .f64 f, .string s] 25)).alloc (.cells #[.int .u8 0, .int .i64 0, .float .f64 0, .string ⟨#[]⟩] 25)).heap[w.heap.size]? = some (.cells #[.int .u8 7, .int .i64 n, .float .f64 f, .string s] 25 (0, 0)) := by
      rw [Below.heap_alloc _ _ _ (by simp)]; exact heap_alloc_new _ _
    have g1 : ((w.alloc (.cells #[.int .u8 7, .int .i64 n, .float .f64 f, .string s] 25)).alloc (.cells #[.int .u8 0, .int .i64 0, .float .f64 0, .string ⟨#[]⟩] 25)).heap[w.heap.size + 1]? = some (.cells #[.int .u8 0, .int .i64 0, .float .f64 0, .string ⟨#[]⟩] 25 (0, 0)) := by
      have := heap_alloc_new (w.alloc (.cells #[.int .u8 7, .int .i64 n, .float .f64 f, .string s] 25)) (.cells #[.int .u8 0, .int .i64 0, .float .f64 0, .string ⟨#[]⟩] 25)
      simpa using this
    have Rr := right26_7 n f s ((w.alloc (.cells #[.int .u8 7, .int .i64 n, .float .f64 f, .string s] 25)).alloc (.cells #[.int .u8 0, .int .i64 0, .float .f64 0, .string ⟨#[]⟩] 25))
    rw [hr] at Rr
    go_enter Tryd.func23, Tryd.ntmps23
    go_wp2_with fail
    refine Rr.mono ?_
    rintro e w1 ⟨rfl, b1⟩
    have q0 := (b1.block w.heap.size (Array.getElem?_eq_some_iff.1 g0).1).trans g0
    have q1 := (b1.block (w.heap.size + 1) (Array.getElem?_eq_some_iff.1 g1).1).trans g1
    have b2 : Below w.heap.size w w1 := b0.trans (b1.mono (by simp; omega))
    clear b0 b1 g0 g1 Rr
    have c0 := (cell_of_row w1 w.heap.size 0 _ _ _ q0).trans (show (#[.int .u8 7, .int .i64 n, .float .f64 f, .string s] : Array Value)[0]? = some (.int .u8 7) from rfl)
    have c1 := (cell_of_row w1 w.heap.size 1 _ _ _ q0).trans (show (#[.int .u8 7, .int .i64 n, .float .f64 f, .string s] : Array Value)[1]? = some (.int .i64 n) from rfl)
    have c2 := (cell_of_row w1 w.heap.size 2 _ _ _ q0).trans (show (#[.int .u8 7, .int .i64 n, .float .f64 f, .string s] : Array Value)[2]? = some (.float .f64 f) from rfl)
    have c3 := (cell_of_row w1 w.heap.size 3 _ _ _ q0).trans (show (#[.int .u8 7, .int .i64 n, .float .f64 f, .string s] : Array Value)[3]? = some (.string s) from rfl)
    have f1 := frozen_of_row w1 w.heap.size 1 _ _ q0
    have p1 : (w1.setCell ⟨w.heap.size, 1, none⟩ (.int .i64 (wrap64 (n + m)))).heap[w.heap.size + 1]? = some (.cells #[.int .u8 0, .int .i64 0, .float .f64 0, .string ⟨#[]⟩] 25 (0, 0)) := by rw [heap_setCell_other _ _ _ _ (by simp)]; exact q1
    go_wp2_with (first | (refine wpList_store_row rfl 25 (.tmp 4) (.tmp 17) rfl (w.heap.size + 1) #[.int .u8 7, .int .i64 (wrap64 (n + m)), .float .f64 f, .string s] rfl rfl 25 _ p1 (inf25 _ _ _ _) rfl (one25 _ _ _ _) ?_) | fail)
    exact bodyPost_ret (res23 _ _ (w.heap.size + 1) 25 _ _ _ _ _ rfl (setRow_heap _ _ _ _ _ _ p1)) rfl ⟨rfl, below_setRow (b2.setCell (Nat.le_refl _) _) (by omega) _⟩
  · rw [sum_no (by rw [hr]; simp)]
    have b0 : Below w.heap.size w ((w.alloc (.cells #[.int .u8 7, .int .i64 n, .float .f64 f, .string s] 25)).alloc (.cells #[.int .u8 0, .int .i64 0, .float .f64 0, .string ⟨#[]⟩] 25)) := ((Below.refl _ _).alloc (Nat.le_refl _) _).alloc (by simp) _
    have g0 : ((w.alloc (.cells #[.int .u8 7, .int .i64 n, .float .f64 f, .string s] 25)).alloc (.cells #[.int .u8 0, .int .i64 0, .float .f64 0, .string ⟨#[]⟩] 25)).heap[w.heap.size]? = some (.cells #[.int .u8 7, .int .i64 n, .float .f64 f, .string s] 25 (0, 0)) := by
      rw [Below.heap_alloc _ _ _ (by simp)]; exact heap_alloc_new _ _
    have g1 : ((w.alloc (.cells #[.int .u8 7, .int .i64 n, .float .f64 f, .string s] 25)).alloc (.cells #[.int .u8 0, .int .i64 0, .float .f64 0, .string ⟨#[]⟩] 25)).heap[w.heap.size + 1]? = some (.cells #[.int .u8 0, .int .i64 0, .float .f64 0, .string ⟨#[]⟩] 25 (0, 0)) := by
      have := heap_alloc_new (w.alloc (.cells #[.int .u8 7, .int .i64 n, .float .f64 f, .string s] 25)) (.cells #[.int .u8 0, .int .i64 0, .float .f64 0, .string ⟨#[]⟩] 25)
      simpa using this
    have Rr := right26_7 n f s ((w.alloc (.cells #[.int .u8 7, .int .i64 n, .float .f64 f, .string s] 25)).alloc (.cells #[.int .u8 0, .int .i64 0, .float .f64 0, .string ⟨#[]⟩] 25))
    rw [hr] at Rr
    go_enter Tryd.func23, Tryd.ntmps23
    go_wp2_with fail
    refine Rr.mono ?_
    rintro e w1 ⟨rfl, b1⟩
    have q0 := (b1.block w.heap.size (Array.getElem?_eq_some_iff.1 g0).1).trans g0
    have q1 := (b1.block (w.heap.size + 1) (Array.getElem?_eq_some_iff.1 g1).1).trans g1
    have b2 : Below w.heap.size w w1 := b0.trans (b1.mono (by simp; omega))
    clear b0 b1 g0 g1 Rr
    have c0 := (cell_of_row w1 w.heap.size 0 _ _ _ q0).trans (show (#[.int .u8 7, .int .i64 n, .float .f64 f, .string s] : Array Value)[0]? = some (.int .u8 7) from rfl)
    have c1 := (cell_of_row w1 w.heap.size 1 _ _ _ q0).trans (show (#[.int .u8 7, .int .i64 n, .float .f64 f, .string s] : Array Value)[1]? = some (.int .i64 n) from rfl)
    have c2 := (cell_of_row w1 w.heap.size 2 _ _ _ q0).trans (show (#[.int .u8 7, .int .i64 n, .float .f64 f, .string s] : Array Value)[2]? = some (.float .f64 f) from rfl)
    have c3 := (cell_of_row w1 w.heap.size 3 _ _ _ q0).trans (show (#[.int .u8 7, .int .i64 n, .float .f64 f, .string s] : Array Value)[3]? = some (.string s) from rfl)
    go_wp2_with (first | (refine wpList_store_row rfl 25 (.tmp 4) (.tmp 17) rfl (w.heap.size + 1) #[.int .u8 7, .int .i64 n, .float .f64 f, .string s] rfl rfl 25 _ q1 (inf25 _ _ _ _) rfl (one25 _ _ _ _) ?_) | fail)
    exact bodyPost_ret (res23 _ _ (w.heap.size + 1) 25 _ _ _ _ _ rfl (setRow_heap _ _ _ _ _ _ q1)) rfl ⟨rfl, below_setRow b2 (by omega) _⟩
  · rw [sum_no (by intro h; exact h7 h.1)]
    have hk : (k == 7) = false := by simpa using h7
    have g1 : ((w.alloc (.cells #[.int .u8 k, .int .i64 n, .float .f64 f, .string s] 25)).alloc (.cells #[.int .u8 0, .int .i64 0, .float .f64 0, .string ⟨#[]⟩] 25)).heap[w.heap.size + 1]? = some (.cells #[.int .u8 0, .int .i64 0, .float .f64 0, .string ⟨#[]⟩] 25 (0, 0)) := by
      have := heap_alloc_new (w.alloc (.cells #[.int .u8 k, .int .i64 n, .float .f64 f, .string s] 25)) (.cells #[.int .u8 0, .int .i64 0, .float .f64 0, .string ⟨#[]⟩] 25)
      simpa using this
    go_enter Tryd.func23, Tryd.ntmps23
    go_wp2_with (first | (refine wpList_store_row rfl 25 (.tmp 4) (.tmp 17) rfl (w.heap.size + 1) #[.int .u8 k, .int .i64 n, .float .f64 f, .string s] rfl rfl 25 _ g1 (inf25 _ _ _ _) rfl (one25 _ _ _ _) ?_) | fail)
    exact bodyPost_ret (res23 _ _ (w.heap.size + 1) 25 _ _ _ _ _ rfl (setRow_heap _ _ _ _ _ _ g1)) rfl ⟨rfl, below_setRow (((Below.refl _ _).alloc (Nat.le_refl _) _).alloc (by simp) _) (by omega) _⟩

theorem res24 (tmps : Array Value) (w : World) (g : Nat) (t : TypeId) (k n : Int) (f : Nat) (s : ByteArray) (fr : Nat × Nat) (hp : tmps.getD 4 undef = .pointer (some ⟨g, 0, none⟩)) (hg : w.heap[g]? = some (.cells #[.int .u8 k, .int .i64 n, .float .f64 f, .string s] t fr)) :
    (results Tryd.f24 tmps).run Tryd.prog w = .ok (.agg #[.int .u8 k, .int .i64 n, .float .f64 f, .string s]) w := by
  obtain ⟨fs, hu⟩ := und25
  exact results_cell_row Tryd.results24 tmps w g t _ fr _ hp hg hu rfl (inf25 _ _ _ _)
set_option maxRecDepth 100000 in
set_option maxHeartbeats 1000000 in
theorem rsum_any (k n : Int) (f : Nat) (s : ByteArray) (m : Int) (w : World) :
    Calls Tryd.prog 24 #[.agg #[.int .u8 k, .int .i64 n, .float .f64 f, .string s], .int .i64 m] w fun e w' => e = .returned (.agg #[.int .u8 k, .int .i64 (sumN k n f s m), .float .f64 f, .string s]) ∧ Below w.heap.size w w' := by
  rcases (show (k = 7 ∧ rightB 7 n f s = true) ∨ (k = 7 ∧ rightB 7 n f s = false) ∨ ¬ k = 7 by cases rightB 7 n f s <;> simp <;> omega) with ⟨rfl, hr⟩ | ⟨rfl, hr⟩ | h7
  · rw [sum_yes hr]
    have b0 : Below w.heap.size w ((w.alloc (.cells #[.int .u8 7, .int .i64 n, .float .f64 f, .string s] 25)).alloc (.cells #[.int .u8 0, .int .i64 0, .float .f64 0, .string ⟨#[]⟩] 25)) := ((Below.refl _ _).alloc (Nat.le_refl _) _).alloc (by simp) _
    have g0 : ((w.alloc (.cells #[.int .u8 7, .int .i64 n, .float .f64 f, .string s] 25)).alloc (.cells #[.int .u8 0, .int .i64 0, .float .f64 0, .string ⟨#[]⟩] 25)).heap[w.heap.size]? = some (.cells #[.int .u8 7, .int .i64 n, .float .f64 f, .string s] 25 (0, 0)) := by
      rw [Below.heap_alloc _ _ _ (by simp)]; exact heap_alloc_new _ _
    have g1 : ((w.alloc (.cells #[.int .u8 7, .int .i64 n, .float .f64 f, .string s] 25)).alloc (.cells #[.int .u8 0, .int .i64 0, .float .f64 0, .string ⟨#[]⟩] 25)).heap[w.heap.size + 1]? = some (.cells #[.int .u8 0, .int .i64 0, .float .f64 0, .string ⟨#[]⟩] 25 (0, 0)) := by
      have := heap_alloc_new (w.alloc (.cells #[.int .u8 7, .int .i64 n, .float .f64 f, .string s] 25)) (.cells #[.int .u8 0, .int .i64 0, .float .f64 0, .string ⟨#[]⟩] 25)
      simpa using this
    have Rr := right27_7 n f s ((w.alloc (.cells #[.int .u8 7, .int .i64 n, .float .f64 f, .string s] 25)).alloc (.cells #[.int .u8 0, .int .i64 0, .float .f64 0, .string ⟨#[]⟩] 25))
    rw [hr] at Rr
    go_enter Tryd.func24, Tryd.ntmps24
    go_wp2_with fail
    refine Rr.mono ?_
    rintro e w1 ⟨rfl, b1⟩
    have q0 := (b1.block w.heap.size (Array.getElem?_eq_some_iff.1 g0).1).trans g0
    have q1 := (b1.block (w.heap.size + 1) (Array.getElem?_eq_some_iff.1 g1).1).trans g1
    have b2 : Below w.heap.size w w1 := b0.trans (b1.mono (by simp; omega))
    clear b0 b1 g0 g1 Rr
    have c0 := (cell_of_row w1 w.heap.size 0 _ _ _ q0).trans (show (#[.int .u8 7, .int .i64 n, .float .f64 f, .string s] : Array Value)[0]? = some (.int .u8 7) from rfl)
    have c1 := (cell_of_row w1 w.heap.size 1 _ _ _ q0).trans (show (#[.int .u8 7, .int .i64 n, .float .f64 f, .string s] : Array Value)[1]? = some (.int .i64 n) from rfl)
    have c2 := (cell_of_row w1 w.heap.size 2 _ _ _ q0).trans (show (#[.int .u8 7, .int .i64 n, .float .f64 f, .string s] : Array Value)[2]? = some (.float .f64 f) from rfl)
    have c3 := (cell_of_row w1 w.heap.size 3 _ _ _ q0).trans (show (#[.int .u8 7, .int .i64 n, .float .f64 f, .string s] : Array Value)[3]? = some (.string s) from rfl)
    have f1 := frozen_of_row w1 w.heap.size 1 _ _ q0
    have p1 : (w1.setCell ⟨w.heap.size, 1, none⟩ (.int .i64 (wrap64 (n + m)))).heap[w.heap.size + 1]? = some (.cells #[.int .u8 0, .int .i64 0, .float .f64 0, .string ⟨#[]⟩] 25 (0, 0)) := by rw [heap_setCell_other _ _ _ _ (by simp)]; exact q1
    go_wp2_with (first | (refine wpList_store_row rfl 25 (.tmp 4) (.tmp 17) rfl (w.heap.size + 1) #[.int .u8 7, .int .i64 (wrap64 (n + m)), .float .f64 f, .string s] rfl rfl 25 _ p1 (inf25 _ _ _ _) rfl (one25 _ _ _ _) ?_) | fail)
    exact bodyPost_ret (res24 _ _ (w.heap.size + 1) 25 _ _ _ _ _ rfl (setRow_heap _ _ _ _ _ _ p1)) rfl ⟨rfl, below_setRow (b2.setCell (Nat.le_refl _) _) (by omega) _⟩
  · rw [sum_no (by rw [hr]; simp)]
    have b0 : Below w.heap.size w ((w.alloc (.cells #[.int .u8 7, .int .i64 n, .float .f64 f, .string s] 25)).alloc (.cells #[.int .u8 0, .int .i64 0, .float .f64 0, .string ⟨#[]⟩] 25)) := ((Below.refl _ _).alloc (Nat.le_refl _) _).alloc (by simp) _
    have g0 : ((w.alloc (.cells #[.int .u8 7, .int .i64 n, .float .f64 f, .string s] 25)).alloc (.cells #[.int .u8 0, .int .i64 0, .float .f64 0, .string ⟨#[]⟩] 25)).heap[w.heap.size]? = some (.cells #[.int .u8 7, .int .i64 n, .float .f64 f, .string s] 25 (0, 0)) := by
      rw [Below.heap_alloc _ _ _ (by simp)]; exact heap_alloc_new _ _
    have g1 : ((w.alloc (.cells #[.int .u8 7, .int .i64 n, .float .f64 f, .string s] 25)).alloc (.cells #[.int .u8 0, .int .i64 0, .float .f64 0, .string ⟨#[]⟩] 25)).heap[w.heap.size + 1]? = some (.cells #[.int .u8 0, .int .i64 0, .float .f64 0, .string ⟨#[]⟩] 25 (0, 0)) := by
      have := heap_alloc_new (w.alloc (.cells #[.int .u8 7, .int .i64 n, .float .f64 f, .string s] 25)) (.cells #[.int .u8 0, .int .i64 0, .float .f64 0, .string ⟨#[]⟩] 25)
      simpa using this
    have Rr := right27_7 n f s ((w.alloc (.cells #[.int .u8 7, .int .i64 n, .float .f64 f, .string s] 25)).alloc (.cells #[.int .u8 0, .int .i64 0, .float .f64 0, .string ⟨#[]⟩] 25))
    rw [hr] at Rr
    go_enter Tryd.func24, Tryd.ntmps24
    go_wp2_with fail
    refine Rr.mono ?_
    rintro e w1 ⟨rfl, b1⟩
    have q0 := (b1.block w.heap.size (Array.getElem?_eq_some_iff.1 g0).1).trans g0
    have q1 := (b1.block (w.heap.size + 1) (Array.getElem?_eq_some_iff.1 g1).1).trans g1
    have b2 : Below w.heap.size w w1 := b0.trans (b1.mono (by simp; omega))
    clear b0 b1 g0 g1 Rr
    have c0 := (cell_of_row w1 w.heap.size 0 _ _ _ q0).trans (show (#[.int .u8 7, .int .i64 n, .float .f64 f, .string s] : Array Value)[0]? = some (.int .u8 7) from rfl)
    have c1 := (cell_of_row w1 w.heap.size 1 _ _ _ q0).trans (show (#[.int .u8 7, .int .i64 n, .float .f64 f, .string s] : Array Value)[1]? = some (.int .i64 n) from rfl)
    have c2 := (cell_of_row w1 w.heap.size 2 _ _ _ q0).trans (show (#[.int .u8 7, .int .i64 n, .float .f64 f, .string s] : Array Value)[2]? = some (.float .f64 f) from rfl)
    have c3 := (cell_of_row w1 w.heap.size 3 _ _ _ q0).trans (show (#[.int .u8 7, .int .i64 n, .float .f64 f, .string s] : Array Value)[3]? = some (.string s) from rfl)
    go_wp2_with (first | (refine wpList_store_row rfl 25 (.tmp 4) (.tmp 17) rfl (w.heap.size + 1) #[.int .u8 7, .int .i64 n, .float .f64 f, .string s] rfl rfl 25 _ q1 (inf25 _ _ _ _) rfl (one25 _ _ _ _) ?_) | fail)
    exact bodyPost_ret (res24 _ _ (w.heap.size + 1) 25 _ _ _ _ _ rfl (setRow_heap _ _ _ _ _ _ q1)) rfl ⟨rfl, below_setRow b2 (by omega) _⟩
  · rw [sum_no (by intro h; exact h7 h.1)]
    have hk : (k == 7) = false := by simpa using h7
    have g1 : ((w.alloc (.cells #[.int .u8 k, .int .i64 n, .float .f64 f, .string s] 25)).alloc (.cells #[.int .u8 0, .int .i64 0, .float .f64 0, .string ⟨#[]⟩] 25)).heap[w.heap.size + 1]? = some (.cells #[.int .u8 0, .int .i64 0, .float .f64 0, .string ⟨#[]⟩] 25 (0, 0)) := by
      have := heap_alloc_new (w.alloc (.cells #[.int .u8 k, .int .i64 n, .float .f64 f, .string s] 25)) (.cells #[.int .u8 0, .int .i64 0, .float .f64 0, .string ⟨#[]⟩] 25)
      simpa using this
    go_enter Tryd.func24, Tryd.ntmps24
    go_wp2_with (first | (refine wpList_store_row rfl 25 (.tmp 4) (.tmp 17) rfl (w.heap.size + 1) #[.int .u8 k, .int .i64 n, .float .f64 f, .string s] rfl rfl 25 _ g1 (inf25 _ _ _ _) rfl (one25 _ _ _ _) ?_) | fail)
    exact bodyPost_ret (res24 _ _ (w.heap.size + 1) 25 _ _ _ _ _ rfl (setRow_heap _ _ _ _ _ _ g1)) rfl ⟨rfl, below_setRow (((Below.refl _ _).alloc (Nat.le_refl _) _).alloc (by simp) _) (by omega) _⟩
end Go.Proofs.YtdgbjmhmacgaaaaDoor
