import Derived.Test.YtkinjcblngkeiaaDoorVg
import Derived.Test.YtkinjcblngkeiaaDoorVc
namespace Go.Proofs.YtkinjcblngkeiaaDoor
open Go.RowKit
set_option linter.unusedVariables false
set_option linter.unusedSimpArgs false
namespace V

/-- Which texts are right values. -/
def rightT (n : Int) (f : Nat) (s : ByteArray) : Bool := decide (n = 0) && decide (f = 0) && decide ((s.size : Int) ≤ 1000) && Lib.validD s.data.toList
set_option maxRecDepth 100000 in
set_option maxHeartbeats 1000000 in
theorem right26_4 (n : Int) (f : Nat) (s : ByteArray) (w : World) (hs : s.size ≤ 9223372036854775807) (hT : Tabs w) :
    Calls Tryd.prog 26 #[.agg #[.int .u8 4, .int .i64 n, .float .f64 f, .string s]] w fun e w' => e = .returned (.bool (rightT n f s)) ∧ Below w.heap.size w w' := by
  have HV : Hid (∀ wx, Below w.heap.size w wx → Calls Tryd.prog 66 #[.string s] wx fun e w' => e = .returned (.bool (Lib.validD s.data.toList)) ∧ Below w.heap.size w w') := fun wx hx => (valid_any s wx hs (hT.below hx)).mono fun e w' h => ⟨h.1, hx.trans (h.2.mono hx.size)⟩
  have eR : Hid (rightT n f s = (decide (n = 0) && decide (f = 0) && decide ((s.size : Int) ≤ 1000) && Lib.validD s.data.toList)) := rfl
  rw [eR.out]
  clear eR
  generalize Lib.validD s.data.toList = V at *
  clear hT
  go_enter Tryd.func26, Tryd.ntmps26
  go_wp2
  go_quiet (fail)
  go_wp2_with (first | (go_at_call 66; refine (HV.out _ ?_).mono ?_; (first | exact bel_box _ _ _ | exact below_drewN (bel_box _ _ _) _); rintro e w1 ⟨rfl, b1⟩) | fail)
  all_goals
    go_ret
    refine ⟨?_, ?_⟩
    · first | rfl | (simp [*]; done) | (simp [*]; omega)
    · first | assumption | exact bel_box _ _ _ | exact below_drewN (bel_box _ _ _) _
set_option maxRecDepth 100000 in
set_option maxHeartbeats 1000000 in
theorem right27_4 (n : Int) (f : Nat) (s : ByteArray) (w : World) (hs : s.size ≤ 9223372036854775807) :
    Calls Tryd.prog 35 #[.agg #[.int .u8 4, .int .i64 n, .float .f64 f, .string s]] w fun e w' => e = .returned (.bool (rightT n f s)) ∧ Below w.heap.size w w' := by
  have eR : Hid (rightT n f s = (decide (n = 0) && decide (f = 0) && decide ((s.size : Int) ≤ 1000) && Lib.validD s.data.toList)) := rfl
  by_cases h1 : (s.size : Int) ≤ 1000
  · have HV : Hid (∀ wx, Calls Tryd.prog 70 #[.string s] wx fun e w' => e = .returned (.bool (Lib.validD s.data.toList)) ∧ w' = wx) := fun wx => utf8_any s wx (by omega)
    rw [eR.out]
    clear eR
    generalize Lib.validD s.data.toList = V at *
    go_enter Tryd.func35, Tryd.ntmps35
    go_wp2_with (first | (go_at_call 70; refine (HV.out _).mono ?_; rintro e _ ⟨rfl, rfl⟩) | fail)
    all_goals
      go_ret
      refine ⟨?_, ?_⟩
      · first | rfl | (simp [*]; done) | (simp [*]; omega)
      · first | assumption | exact bel_box _ _ _ | exact below_drewN (bel_box _ _ _) _
  · rw [eR.out]
    clear eR
    generalize Lib.validD s.data.toList = V at *
    go_enter Tryd.func35, Tryd.ntmps35
    go_wp2
    all_goals
      go_ret
      refine ⟨?_, ?_⟩
      · first | rfl | (simp [*]; done) | (simp [*]; omega)
      · first | assumption | exact bel_box _ _ _ | exact below_drewN (bel_box _ _ _) _

/-- Which values are right. -/
def rightV (k n : Int) (f : Nat) (s : ByteArray) : Bool := if k = 3 then rightF n f s else if k = 4 then rightT n f s else rightB k n f s
theorem rightB_high (k n : Int) (f : Nat) (s : ByteArray) (h : 12 ≤ k) : rightB k n f s = false := by
  unfold rightB
  rw [if_neg (by omega), if_neg (by omega), if_neg (by omega), if_neg (by omega), if_neg (by omega)]

theorem right26_any (k n : Int) (f : Nat) (s : ByteArray) (w : World) (hk : 0 ≤ k) (hf : f < 18446744073709551616) (hs : s.size ≤ 9223372036854775807) (hT : Tabs w) :
    Calls Tryd.prog 26 #[.agg #[.int .u8 k, .int .i64 n, .float .f64 f, .string s]] w fun e w' => e = .returned (.bool (rightV k n f s)) ∧ Below w.heap.size w w' := by
  rcases (show k = 0 ∨ k = 1 ∨ k = 2 ∨ k = 3 ∨ k = 4 ∨ k = 5 ∨ k = 6 ∨ k = 7 ∨ k = 8 ∨ k = 9 ∨ k = 10 ∨ k = 11 ∨ 12 ≤ k by omega) with rfl | rfl | rfl | rfl | rfl | rfl | rfl | rfl | rfl | rfl | rfl | rfl | h
  · exact right26_0 n f s w
  · exact right26_1 n f s w
  · exact right26_2 n f s w
  · exact right26_3 n f s w hf
  · exact right26_4 n f s w hs hT
  · exact right26_5 n f s w
  · exact right26_6 n f s w
  · exact right26_7 n f s w
  · exact right26_8 n f s w
  · exact right26_9 n f s w
  · exact right26_10 n f s w
  · exact right26_11 n f s w
  · have e : rightV k n f s = false := by unfold rightV; rw [if_neg (by omega), if_neg (by omega)]; exact rightB_high k n f s h
    rw [e]
    exact right26_o k n f s w h

theorem right27_any (k n : Int) (f : Nat) (s : ByteArray) (w : World) (hk : 0 ≤ k) (hf : f < 18446744073709551616) (hs : s.size ≤ 9223372036854775807) :
    Calls Tryd.prog 35 #[.agg #[.int .u8 k, .int .i64 n, .float .f64 f, .string s]] w fun e w' => e = .returned (.bool (rightV k n f s)) ∧ Below w.heap.size w w' := by
  rcases (show k = 0 ∨ k = 1 ∨ k = 2 ∨ k = 3 ∨ k = 4 ∨ k = 5 ∨ k = 6 ∨ k = 7 ∨ k = 8 ∨ k = 9 ∨ k = 10 ∨ k = 11 ∨ 12 ≤ k by omega) with rfl | rfl | rfl | rfl | rfl | rfl | rfl | rfl | rfl | rfl | rfl | rfl | h
  · exact right27_0 n f s w
  · exact right27_1 n f s w
  · exact right27_2 n f s w
  · exact right27_3 n f s w hf
  · exact right27_4 n f s w hs
  · exact right27_5 n f s w
  · exact right27_6 n f s w
  · exact right27_7 n f s w
  · exact right27_8 n f s w
  · exact right27_9 n f s w
  · exact right27_10 n f s w
  · exact right27_11 n f s w
  · have e : rightV k n f s = false := by unfold rightV; rw [if_neg (by omega), if_neg (by omega)]; exact rightB_high k n f s h
    rw [e]
    exact right27_o k n f s w h

end V
end Go.Proofs.YtkinjcblngkeiaaDoor
