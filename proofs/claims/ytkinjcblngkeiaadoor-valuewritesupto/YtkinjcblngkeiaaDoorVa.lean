import Derived.Test.YtkinjcblngkeiaaDoorKz
namespace Go.Proofs.YtkinjcblngkeiaaDoor
open Go.RowKit
set_option linter.unusedVariables false
set_option linter.unusedSimpArgs false
namespace V

/-- Which values of the kinds without floats and texts are right. -/
def rightB (k n : Int) (f : Nat) (s : ByteArray) : Bool :=
  if k = 1 then (decide (n = 0) || decide (n = 1)) && decide (f = 0) && s.toList.isEmpty
  else if k = 2 ∨ k = 7 then decide (f = 0) && s.toList.isEmpty
  else if k = 5 then decide (n = 0) && decide (f = 0) && decide ((s.size : Int) ≤ 1000)
  else if k = 6 then decide (0 ≤ n) && decide (n ≤ 9007199254740992) && decide (f = 0) && s.toList.isEmpty
  else if k ≤ 11 then decide (n = 0) && decide (f = 0) && s.toList.isEmpty else false

set_option maxRecDepth 100000 in
set_option maxHeartbeats 1000000 in
theorem right26_0 (n : Int) (f : Nat) (s : ByteArray) (w : World) :
    Calls Tryd.prog 26 #[.agg #[.int .u8 0, .int .i64 n, .float .f64 f, .string s]] w fun e w' => e = .returned (.bool (rightB 0 n f s)) ∧ Below w.heap.size w w' := by
  go_enter Tryd.func26, Tryd.ntmps26
  go_wp2
  go_quiet (fail)
  go_wp2
  all_goals
    go_ret
    refine ⟨?_, ?_⟩
    · first | (simp [rightB, *]; done) | (simp [rightB, *]; omega)
    · first | exact bel_box _ _ _ | exact below_drewN (bel_box _ _ _) _

set_option maxRecDepth 100000 in
set_option maxHeartbeats 1000000 in
theorem right26_1 (n : Int) (f : Nat) (s : ByteArray) (w : World) :
    Calls Tryd.prog 26 #[.agg #[.int .u8 1, .int .i64 n, .float .f64 f, .string s]] w fun e w' => e = .returned (.bool (rightB 1 n f s)) ∧ Below w.heap.size w w' := by
  go_enter Tryd.func26, Tryd.ntmps26
  go_wp2
  go_quiet (fail)
  go_wp2
  all_goals
    go_ret
    refine ⟨?_, ?_⟩
    · first | (simp [rightB, *]; done) | (simp [rightB, *]; omega)
    · first | exact bel_box _ _ _ | exact below_drewN (bel_box _ _ _) _

set_option maxRecDepth 100000 in
set_option maxHeartbeats 1000000 in
theorem right26_2 (n : Int) (f : Nat) (s : ByteArray) (w : World) :
    Calls Tryd.prog 26 #[.agg #[.int .u8 2, .int .i64 n, .float .f64 f, .string s]] w fun e w' => e = .returned (.bool (rightB 2 n f s)) ∧ Below w.heap.size w w' := by
  go_enter Tryd.func26, Tryd.ntmps26
  go_wp2
  go_quiet (fail)
  go_wp2
  all_goals
    go_ret
    refine ⟨?_, ?_⟩
    · first | (simp [rightB, *]; done) | (simp [rightB, *]; omega)
    · first | exact bel_box _ _ _ | exact below_drewN (bel_box _ _ _) _

set_option maxRecDepth 100000 in
set_option maxHeartbeats 1000000 in
theorem right26_5 (n : Int) (f : Nat) (s : ByteArray) (w : World) :
    Calls Tryd.prog 26 #[.agg #[.int .u8 5, .int .i64 n, .float .f64 f, .string s]] w fun e w' => e = .returned (.bool (rightB 5 n f s)) ∧ Below w.heap.size w w' := by
  go_enter Tryd.func26, Tryd.ntmps26
  go_wp2
  go_quiet (fail)
  go_wp2
  all_goals
    go_ret
    refine ⟨?_, ?_⟩
    · first | (simp [rightB, *]; done) | (simp [rightB, *]; omega)
    · first | exact bel_box _ _ _ | exact below_drewN (bel_box _ _ _) _

set_option maxRecDepth 100000 in
set_option maxHeartbeats 1000000 in
theorem right26_6 (n : Int) (f : Nat) (s : ByteArray) (w : World) :
    Calls Tryd.prog 26 #[.agg #[.int .u8 6, .int .i64 n, .float .f64 f, .string s]] w fun e w' => e = .returned (.bool (rightB 6 n f s)) ∧ Below w.heap.size w w' := by
  go_enter Tryd.func26, Tryd.ntmps26
  go_wp2
  go_quiet (fail)
  go_wp2
  all_goals
    go_ret
    refine ⟨?_, ?_⟩
    · first | (simp [rightB, *]; done) | (simp [rightB, *]; omega)
    · first | exact bel_box _ _ _ | exact below_drewN (bel_box _ _ _) _

set_option maxRecDepth 100000 in
set_option maxHeartbeats 1000000 in
theorem right26_7 (n : Int) (f : Nat) (s : ByteArray) (w : World) :
    Calls Tryd.prog 26 #[.agg #[.int .u8 7, .int .i64 n, .float .f64 f, .string s]] w fun e w' => e = .returned (.bool (rightB 7 n f s)) ∧ Below w.heap.size w w' := by
  go_enter Tryd.func26, Tryd.ntmps26
  go_wp2
  go_quiet (fail)
  go_wp2
  all_goals
    go_ret
    refine ⟨?_, ?_⟩
    · first | (simp [rightB, *]; done) | (simp [rightB, *]; omega)
    · first | exact bel_box _ _ _ | exact below_drewN (bel_box _ _ _) _

set_option maxRecDepth 100000 in
set_option maxHeartbeats 1000000 in
theorem right26_8 (n : Int) (f : Nat) (s : ByteArray) (w : World) :
    Calls Tryd.prog 26 #[.agg #[.int .u8 8, .int .i64 n, .float .f64 f, .string s]] w fun e w' => e = .returned (.bool (rightB 8 n f s)) ∧ Below w.heap.size w w' := by
  go_enter Tryd.func26, Tryd.ntmps26
  go_wp2
  go_quiet (fail)
  go_wp2
  all_goals
    go_ret
    refine ⟨?_, ?_⟩
    · first | (simp [rightB, *]; done) | (simp [rightB, *]; omega)
    · first | exact bel_box _ _ _ | exact below_drewN (bel_box _ _ _) _

set_option maxRecDepth 100000 in
set_option maxHeartbeats 1000000 in
theorem right26_9 (n : Int) (f : Nat) (s : ByteArray) (w : World) :
    Calls Tryd.prog 26 #[.agg #[.int .u8 9, .int .i64 n, .float .f64 f, .string s]] w fun e w' => e = .returned (.bool (rightB 9 n f s)) ∧ Below w.heap.size w w' := by
  go_enter Tryd.func26, Tryd.ntmps26
  go_wp2
  go_quiet (fail)
  go_wp2
  all_goals
    go_ret
    refine ⟨?_, ?_⟩
    · first | (simp [rightB, *]; done) | (simp [rightB, *]; omega)
    · first | exact bel_box _ _ _ | exact below_drewN (bel_box _ _ _) _

set_option maxRecDepth 100000 in
set_option maxHeartbeats 1000000 in
theorem right26_10 (n : Int) (f : Nat) (s : ByteArray) (w : World) :
    Calls Tryd.prog 26 #[.agg #[.int .u8 10, .int .i64 n, .float .f64 f, .string s]] w fun e w' => e = .returned (.bool (rightB 10 n f s)) ∧ Below w.heap.size w w' := by
  go_enter Tryd.func26, Tryd.ntmps26
  go_wp2
  go_quiet (fail)
  go_wp2
  all_goals
    go_ret
    refine ⟨?_, ?_⟩
    · first | (simp [rightB, *]; done) | (simp [rightB, *]; omega)
    · first | exact bel_box _ _ _ | exact below_drewN (bel_box _ _ _) _

set_option maxRecDepth 100000 in
set_option maxHeartbeats 1000000 in
theorem right26_11 (n : Int) (f : Nat) (s : ByteArray) (w : World) :
    Calls Tryd.prog 26 #[.agg #[.int .u8 11, .int .i64 n, .float .f64 f, .string s]] w fun e w' => e = .returned (.bool (rightB 11 n f s)) ∧ Below w.heap.size w w' := by
  go_enter Tryd.func26, Tryd.ntmps26
  go_wp2
  go_quiet (fail)
  go_wp2
  all_goals
    go_ret
    refine ⟨?_, ?_⟩
    · first | (simp [rightB, *]; done) | (simp [rightB, *]; omega)
    · first | exact bel_box _ _ _ | exact below_drewN (bel_box _ _ _) _

set_option maxRecDepth 100000 in
set_option maxHeartbeats 1000000 in
theorem right27_0 (n : Int) (f : Nat) (s : ByteArray) (w : World) :
    Calls Tryd.prog 35 #[.agg #[.int .u8 0, .int .i64 n, .float .f64 f, .string s]] w fun e w' => e = .returned (.bool (rightB 0 n f s)) ∧ Below w.heap.size w w' := by
  go_enter Tryd.func35, Tryd.ntmps35
  go_wp2
  go_wp2
  all_goals
    go_ret
    refine ⟨?_, ?_⟩
    · first | (simp [rightB, *]; done) | (simp [rightB, *]; omega)
    · first | exact bel_box _ _ _ | exact below_drewN (bel_box _ _ _) _

set_option maxRecDepth 100000 in
set_option maxHeartbeats 1000000 in
theorem right27_1 (n : Int) (f : Nat) (s : ByteArray) (w : World) :
    Calls Tryd.prog 35 #[.agg #[.int .u8 1, .int .i64 n, .float .f64 f, .string s]] w fun e w' => e = .returned (.bool (rightB 1 n f s)) ∧ Below w.heap.size w w' := by
  go_enter Tryd.func35, Tryd.ntmps35
  go_wp2
  go_wp2
  all_goals
    go_ret
    refine ⟨?_, ?_⟩
    · first | (simp [rightB, *]; done) | (simp [rightB, *]; omega)
    · first | exact bel_box _ _ _ | exact below_drewN (bel_box _ _ _) _

set_option maxRecDepth 100000 in
set_option maxHeartbeats 1000000 in
theorem right27_2 (n : Int) (f : Nat) (s : ByteArray) (w : World) :
    Calls Tryd.prog 35 #[.agg #[.int .u8 2, .int .i64 n, .float .f64 f, .string s]] w fun e w' => e = .returned (.bool (rightB 2 n f s)) ∧ Below w.heap.size w w' := by
  go_enter Tryd.func35, Tryd.ntmps35
  go_wp2
  go_wp2
  all_goals
    go_ret
    refine ⟨?_, ?_⟩
    · first | (simp [rightB, *]; done) | (simp [rightB, *]; omega)
    · first | exact bel_box _ _ _ | exact below_drewN (bel_box _ _ _) _

set_option maxRecDepth 100000 in
set_option maxHeartbeats 1000000 in
theorem right27_5 (n : Int) (f : Nat) (s : ByteArray) (w : World) :
    Calls Tryd.prog 35 #[.agg #[.int .u8 5, .int .i64 n, .float .f64 f, .string s]] w fun e w' => e = .returned (.bool (rightB 5 n f s)) ∧ Below w.heap.size w w' := by
  go_enter Tryd.func35, Tryd.ntmps35
  go_wp2
  go_wp2
  all_goals
    go_ret
    refine ⟨?_, ?_⟩
    · first | (simp [rightB, *]; done) | (simp [rightB, *]; omega)
    · first | exact bel_box _ _ _ | exact below_drewN (bel_box _ _ _) _

set_option maxRecDepth 100000 in
set_option maxHeartbeats 1000000 in
theorem right27_6 (n : Int) (f : Nat) (s : ByteArray) (w : World) :
    Calls Tryd.prog 35 #[.agg #[.int .u8 6, .int .i64 n, .float .f64 f, .string s]] w fun e w' => e = .returned (.bool (rightB 6 n f s)) ∧ Below w.heap.size w w' := by
  go_enter Tryd.func35, Tryd.ntmps35
  go_wp2
  go_wp2
  all_goals
    go_ret
    refine ⟨?_, ?_⟩
    · first | (simp [rightB, *]; done) | (simp [rightB, *]; omega)
    · first | exact bel_box _ _ _ | exact below_drewN (bel_box _ _ _) _

set_option maxRecDepth 100000 in
set_option maxHeartbeats 1000000 in
theorem right27_7 (n : Int) (f : Nat) (s : ByteArray) (w : World) :
    Calls Tryd.prog 35 #[.agg #[.int .u8 7, .int .i64 n, .float .f64 f, .string s]] w fun e w' => e = .returned (.bool (rightB 7 n f s)) ∧ Below w.heap.size w w' := by
  go_enter Tryd.func35, Tryd.ntmps35
  go_wp2
  go_wp2
  all_goals
    go_ret
    refine ⟨?_, ?_⟩
    · first | (simp [rightB, *]; done) | (simp [rightB, *]; omega)
    · first | exact bel_box _ _ _ | exact below_drewN (bel_box _ _ _) _

set_option maxRecDepth 100000 in
set_option maxHeartbeats 1000000 in
theorem right27_8 (n : Int) (f : Nat) (s : ByteArray) (w : World) :
    Calls Tryd.prog 35 #[.agg #[.int .u8 8, .int .i64 n, .float .f64 f, .string s]] w fun e w' => e = .returned (.bool (rightB 8 n f s)) ∧ Below w.heap.size w w' := by
  go_enter Tryd.func35, Tryd.ntmps35
  go_wp2
  go_wp2
  all_goals
    go_ret
    refine ⟨?_, ?_⟩
    · first | (simp [rightB, *]; done) | (simp [rightB, *]; omega)
    · first | exact bel_box _ _ _ | exact below_drewN (bel_box _ _ _) _

set_option maxRecDepth 100000 in
set_option maxHeartbeats 1000000 in
theorem right27_9 (n : Int) (f : Nat) (s : ByteArray) (w : World) :
    Calls Tryd.prog 35 #[.agg #[.int .u8 9, .int .i64 n, .float .f64 f, .string s]] w fun e w' => e = .returned (.bool (rightB 9 n f s)) ∧ Below w.heap.size w w' := by
  go_enter Tryd.func35, Tryd.ntmps35
  go_wp2
  go_wp2
  all_goals
    go_ret
    refine ⟨?_, ?_⟩
    · first | (simp [rightB, *]; done) | (simp [rightB, *]; omega)
    · first | exact bel_box _ _ _ | exact below_drewN (bel_box _ _ _) _

set_option maxRecDepth 100000 in
set_option maxHeartbeats 1000000 in
theorem right27_10 (n : Int) (f : Nat) (s : ByteArray) (w : World) :
    Calls Tryd.prog 35 #[.agg #[.int .u8 10, .int .i64 n, .float .f64 f, .string s]] w fun e w' => e = .returned (.bool (rightB 10 n f s)) ∧ Below w.heap.size w w' := by
  go_enter Tryd.func35, Tryd.ntmps35
  go_wp2
  go_wp2
  all_goals
    go_ret
    refine ⟨?_, ?_⟩
    · first | (simp [rightB, *]; done) | (simp [rightB, *]; omega)
    · first | exact bel_box _ _ _ | exact below_drewN (bel_box _ _ _) _

set_option maxRecDepth 100000 in
set_option maxHeartbeats 1000000 in
theorem right27_11 (n : Int) (f : Nat) (s : ByteArray) (w : World) :
    Calls Tryd.prog 35 #[.agg #[.int .u8 11, .int .i64 n, .float .f64 f, .string s]] w fun e w' => e = .returned (.bool (rightB 11 n f s)) ∧ Below w.heap.size w w' := by
  go_enter Tryd.func35, Tryd.ntmps35
  go_wp2
  go_wp2
  all_goals
    go_ret
    refine ⟨?_, ?_⟩
    · first | (simp [rightB, *]; done) | (simp [rightB, *]; omega)
    · first | exact bel_box _ _ _ | exact below_drewN (bel_box _ _ _) _

set_option maxRecDepth 100000 in
set_option maxHeartbeats 1000000 in
theorem right26_o (k n : Int) (f : Nat) (s : ByteArray) (w : World) (hk : 12 ≤ k) :
    Calls Tryd.prog 26 #[.agg #[.int .u8 k, .int .i64 n, .float .f64 f, .string s]] w fun e w' => e = .returned (.bool false) ∧ Below w.heap.size w w' := by
  have h0 : ¬ k = 0 := by omega
  have h1 : ¬ k = 1 := by omega
  have h2 : ¬ k = 2 := by omega
  have h3 : ¬ k = 3 := by omega
  have h4 : ¬ k = 4 := by omega
  have h5 : ¬ k = 5 := by omega
  have h6 : ¬ k = 6 := by omega
  have h7 : ¬ k = 7 := by omega
  have h8 : ¬ k = 8 := by omega
  have h9 : ¬ k = 9 := by omega
  have h10 : ¬ k = 10 := by omega
  have h11 : ¬ k = 11 := by omega
  go_enter Tryd.func26, Tryd.ntmps26
  go_wp2
  go_quiet (fail)
  go_wp2
  all_goals
    go_ret
    refine ⟨?_, ?_⟩
    · first | rfl | (simp [rightB, *]; done) | (simp [rightB, *]; omega)
    · first | exact bel_box _ _ _ | exact below_drewN (bel_box _ _ _) _

set_option maxRecDepth 100000 in
set_option maxHeartbeats 1000000 in
theorem right27_o (k n : Int) (f : Nat) (s : ByteArray) (w : World) (hk : 12 ≤ k) :
    Calls Tryd.prog 35 #[.agg #[.int .u8 k, .int .i64 n, .float .f64 f, .string s]] w fun e w' => e = .returned (.bool false) ∧ Below w.heap.size w w' := by
  have h0 : ¬ k = 0 := by omega
  have h1 : ¬ k = 1 := by omega
  have h2 : ¬ k = 2 := by omega
  have h3 : ¬ k = 3 := by omega
  have h4 : ¬ k = 4 := by omega
  have h5 : ¬ k = 5 := by omega
  have h6 : ¬ k = 6 := by omega
  have h7 : ¬ k = 7 := by omega
  have h8 : ¬ k = 8 := by omega
  have h9 : ¬ k = 9 := by omega
  have h10 : ¬ k = 10 := by omega
  have h11 : ¬ k = 11 := by omega
  go_enter Tryd.func35, Tryd.ntmps35
  go_wp2
  go_wp2
  all_goals
    go_ret
    refine ⟨?_, ?_⟩
    · first | rfl | (simp [rightB, *]; done) | (simp [rightB, *]; omega)
    · first | exact bel_box _ _ _ | exact below_drewN (bel_box _ _ _) _

end V
end Go.Proofs.YtkinjcblngkeiaaDoor
