import Derived.Test.YtdgbjmhmacgaaaaDoorRt
import Derived.Deep.RegionHeld3
import Derived.Deep.Cut
namespace Go.Proofs.YtdgbjmhmacgaaaaDoor
open Go.RowKit
set_option linter.unusedVariables false
set_option linter.unusedSimpArgs false

def errV (b : Bool) : Int := if b = true then 0 else 30

set_option maxRecDepth 100000 in
set_option maxHeartbeats 1000000 in
theorem vright_any (k n : Int) (f : Nat) (s : ByteArray) (w : World) (hk : 0 ≤ k) (hf : f < 18446744073709551616) (hs : s.size ≤ 9223372036854775807) (hT : Tabs w) :
    Calls Tryd.prog 9 #[.agg #[.int .u8 k, .int .i64 n, .float .f64 f, .string s]] w fun e w' => e = .returned (.int .i64 (errV (rightV k n f s))) ∧ Below w.heap.size w w' := by
  have bx := bel_box w #[.int .u8 k, .int .i64 n, .float .f64 f, .string s] 25
  have R : Hid (Calls Tryd.prog 26 #[.agg #[.int .u8 k, .int .i64 n, .float .f64 f, .string s]] (w.alloc (.cells #[.int .u8 k, .int .i64 n, .float .f64 f, .string s] 25)) fun e w' => e = .returned (.bool (rightV k n f s)) ∧ Below w.heap.size w w') := (right26_any k n f s _ hk hf hs (hT.below bx)).mono fun e w' h => ⟨h.1, bx.trans (h.2.mono (by simp))⟩
  generalize rightV k n f s = V at *
  clear hf hs hT
  cases V with
  | true =>
    go_enter Tryd.func9, Tryd.ntmps9
    go_wp2_with fail
    refine R.out.mono ?_
    rintro e w1 ⟨rfl, b1⟩
    go_wp2
    go_ret
    exact ⟨rfl, b1⟩
  | false =>
    go_enter Tryd.func9, Tryd.ntmps9
    go_wp2_with fail
    refine R.out.mono ?_
    rintro e w1 ⟨rfl, b1⟩
    go_wp2
    go_ret
    exact ⟨rfl, b1⟩

set_option maxRecDepth 100000 in
set_option maxHeartbeats 1000000 in
theorem rright_any (k n : Int) (f : Nat) (s : ByteArray) (w : World) (hk : 0 ≤ k) (hf : f < 18446744073709551616) (hs : s.size ≤ 9223372036854775807) :
    Calls Tryd.prog 10 #[.agg #[.int .u8 k, .int .i64 n, .float .f64 f, .string s]] w fun e w' => e = .returned (.int .i64 (errV (rightV k n f s))) ∧ Below w.heap.size w w' := by
  have bx := bel_box w #[.int .u8 k, .int .i64 n, .float .f64 f, .string s] 25
  have R : Hid (Calls Tryd.prog 27 #[.agg #[.int .u8 k, .int .i64 n, .float .f64 f, .string s]] (w.alloc (.cells #[.int .u8 k, .int .i64 n, .float .f64 f, .string s] 25)) fun e w' => e = .returned (.bool (rightV k n f s)) ∧ Below w.heap.size w w') := (right27_any k n f s _ hk hf hs).mono fun e w' h => ⟨h.1, bx.trans (h.2.mono (by simp))⟩
  generalize rightV k n f s = V at *
  clear hf hs
  cases V with
  | true =>
    go_enter Tryd.func10, Tryd.ntmps10
    go_wp2_with fail
    refine R.out.mono ?_
    rintro e w1 ⟨rfl, b1⟩
    go_wp2
    go_ret
    exact ⟨rfl, b1⟩
  | false =>
    go_enter Tryd.func10, Tryd.ntmps10
    go_wp2_with fail
    refine R.out.mono ?_
    rintro e w1 ⟨rfl, b1⟩
    go_wp2
    go_ret
    exact ⟨rfl, b1⟩

set_option maxRecDepth 100000 in
set_option maxHeartbeats 400000 in
theorem scalar_any (k : Int) (w : World) :
    Calls Tryd.prog 11 #[.int .u8 k] w fun e w' => e = .returned (.bool (decide (k ≤ 7))) ∧ w' = w := by
  go_enter Tryd.func11, Tryd.ntmps11
  go_wp2
  go_ret
  exact ⟨rfl, rfl⟩

set_option maxRecDepth 100000 in
set_option maxHeartbeats 400000 in
theorem rscalar_any (k : Int) (w : World) :
    Calls Tryd.prog 12 #[.int .u8 k] w fun e w' => e = .returned (.bool (decide (k ≤ 7))) ∧ w' = w := by
  go_enter Tryd.func12, Tryd.ntmps12
  go_wp2
  go_ret
  exact ⟨rfl, rfl⟩

set_option maxRecDepth 100000 in
set_option maxHeartbeats 4000000 in
theorem rights_all (k n : Int) (f : Nat) (s : ByteArray) (K : Int) (w : World) (hk : 0 ≤ k) (hf : f < 18446744073709551616) (hs : s.size ≤ 9223372036854775807) (hT : Tabs w) :
    Calls Tryd.prog 3 #[.agg #[.int .u8 k, .int .i64 n, .float .f64 f, .string s], .int .u8 K] w fun e w' => e = .returned (.bool true) ∧ Below w.heap.size w w' := by
  have bx := bel_box w #[.int .u8 k, .int .i64 n, .float .f64 f, .string s] 25
  have hT0 := hT.below bx
  have g0 : (w.alloc (.cells #[.int .u8 k, .int .i64 n, .float .f64 f, .string s] 25)).heap[w.heap.size]? = some (.cells #[.int .u8 k, .int .i64 n, .float .f64 f, .string s] 25 (0, 0)) := heap_alloc_new _ _
  have zg : w.heap.size < (w.alloc (.cells #[.int .u8 k, .int .i64 n, .float .f64 f, .string s] 25)).heap.size := by simp
  go_enter Tryd.func3, Tryd.ntmps3
  go_upto_region 1 with fail
  generalize (w.alloc (.cells #[.int .u8 k, .int .i64 n, .float .f64 f, .string s] 25)) = W at *
  have c0 := (cell_of_row W w.heap.size 0 _ _ _ g0).trans (show (#[.int .u8 k, .int .i64 n, .float .f64 f, .string s] : Array Value)[0]? = some (.int .u8 k) from rfl)
  have c1 := (cell_of_row W w.heap.size 1 _ _ _ g0).trans (show (#[.int .u8 k, .int .i64 n, .float .f64 f, .string s] : Array Value)[1]? = some (.int .i64 n) from rfl)
  have c2 := (cell_of_row W w.heap.size 2 _ _ _ g0).trans (show (#[.int .u8 k, .int .i64 n, .float .f64 f, .string s] : Array Value)[2]? = some (.float .f64 f) from rfl)
  have c3 := (cell_of_row W w.heap.size 3 _ _ _ g0).trans (show (#[.int .u8 k, .int .i64 n, .float .f64 f, .string s] : Array Value)[3]? = some (.string s) from rfl)
  have HA : Hid (∀ wx, Below W.heap.size W wx → Calls Tryd.prog 9 #[.agg #[.int .u8 k, .int .i64 n, .float .f64 f, .string s]] wx fun e w' => e = .returned (.int .i64 (errV (rightV k n f s))) ∧ Below W.heap.size W w') := fun wx hx => (vright_any k n f s wx hk hf hs (hT0.below hx)).mono fun e w' h => ⟨h.1, hx.trans (h.2.mono hx.size)⟩
  have HB : Hid (∀ wx, Below W.heap.size W wx → Calls Tryd.prog 10 #[.agg #[.int .u8 k, .int .i64 n, .float .f64 f, .string s]] wx fun e w' => e = .returned (.int .i64 (errV (rightV k n f s))) ∧ Below W.heap.size W w') := fun wx hx => (rright_any k n f s wx hk hf hs).mono fun e w' h => ⟨h.1, hx.trans (h.2.mono hx.size)⟩
  have HC : Hid (∀ wx, Calls Tryd.prog 11 #[.int .u8 K] wx fun e w' => e = .returned (.bool (decide (K ≤ 7))) ∧ w' = wx) := fun wx => scalar_any K wx
  have HD : Hid (∀ wx, Calls Tryd.prog 12 #[.int .u8 K] wx fun e w' => e = .returned (.bool (decide (K ≤ 7))) ∧ w' = wx) := fun wx => rscalar_any K wx
  generalize errV (rightV k n f s) = E at *
  generalize decide (K ≤ 7) = D at *
  have HS : Hid (∀ wx, Below W.heap.size W wx → wx.cell? ⟨w.heap.size, 0, none⟩ = some (.int .u8 k) ∧ wx.cell? ⟨w.heap.size, 1, none⟩ = some (.int .i64 n) ∧ wx.cell? ⟨w.heap.size, 2, none⟩ = some (.float .f64 f) ∧ wx.cell? ⟨w.heap.size, 3, none⟩ = some (.string s)) := fun wx hx =>
    ⟨(hx.cell (p := ⟨w.heap.size, 0, none⟩) zg).trans c0, (hx.cell (p := ⟨w.heap.size, 1, none⟩) zg).trans c1, (hx.cell (p := ⟨w.heap.size, 2, none⟩) zg).trans c2, (hx.cell (p := ⟨w.heap.size, 3, none⟩) zg).trans c3⟩
  clear g0 hf hs hT hT0
  go_region_held3 (fun w' => w'.cell? ⟨w.heap.size, 0, none⟩ = some (.int .u8 k) ∧ w'.cell? ⟨w.heap.size, 1, none⟩ = some (.int .i64 n) ∧ w'.cell? ⟨w.heap.size, 2, none⟩ = some (.float .f64 f) ∧ w'.cell? ⟨w.heap.size, 3, none⟩ = some (.string s)) (first | assumption | go_keep) (first
    | (go_at_call 9; refine (HA.out _ ?_).mono ?_; (first | exact Below.refl _ _ | exact below_drewN (Below.refl _ _) _ | exact (below_drewN (Below.refl _ _) _).drew); rintro e w1 ⟨rfl, b1⟩; have s1 := HS.out _ b1)
    | (go_at_call 10; refine (HB.out _ ?_).mono ?_; (first | exact b1 | exact below_drewN b1 _ | exact (below_drewN b1 _).drew); rintro e w2 ⟨rfl, b2⟩; have s2 := HS.out _ b2)
    | (go_at_call 11; refine (HC.out _).mono ?_; rintro e _ ⟨rfl, rfl⟩)
    | (go_at_call 12; refine (HD.out _).mono ?_; rintro e _ ⟨rfl, rfl⟩))
  go_wp2
  go_ret
  exact ⟨rfl, bx.trans (b2.mono (by omega))⟩
end Go.Proofs.YtdgbjmhmacgaaaaDoor
