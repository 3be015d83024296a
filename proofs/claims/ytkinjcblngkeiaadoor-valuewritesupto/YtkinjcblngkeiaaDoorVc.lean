import Derived.Test.YtkinjcblngkeiaaDoorVa
import Derived.Test.YtkinjcblngkeiaaDoorVb
namespace Go.Proofs.YtkinjcblngkeiaaDoor
open Go.RowKit
set_option linter.unusedVariables false
set_option linter.unusedSimpArgs false
namespace V

/-- Which floats are right values. -/
def rightF (n : Int) (f : Nat) (s : ByteArray) : Bool := decide (n = 0) && finB f && s.toList.isEmpty
set_option maxRecDepth 100000 in
set_option maxHeartbeats 1000000 in
theorem right26_3 (n : Int) (f : Nat) (s : ByteArray) (w : World) (hf : f < 18446744073709551616) :
    Calls Tryd.prog 26 #[.agg #[.int .u8 3, .int .i64 n, .float .f64 f, .string s]] w fun e w' => e = .returned (.bool (rightF n f s)) ∧ Below w.heap.size w w' := by
  have H : Hid (∀ wx, Calls Tryd.prog 65 #[.float .f64 f] wx fun e w' => e = .returned (.bool (finB f)) ∧ w' = wx) := fun wx => writ_any f wx hf
  unfold rightF
  generalize finB f = F at *
  clear hf
  go_enter Tryd.func26, Tryd.ntmps26
  go_wp2
  go_quiet (fail)
  go_wp2_with (first | (go_at_call 65; refine (H.out _).mono ?_; rintro e _ ⟨rfl, rfl⟩) | fail)
  all_goals
    go_ret
    refine ⟨?_, ?_⟩
    · first | rfl | (simp [*]; done) | (simp [*]; omega)
    · first | exact bel_box _ _ _ | exact below_drewN (bel_box _ _ _) _
theorem tail_eq {a b c d : Int} (h : ¬ a = d) : ((a != d) && (b != c)) = !decide (b = c) := by
  have h1 : (a != d) = true := by simpa using h
  rw [h1, Bool.true_and]
  by_cases e : b = c <;> simp [e]
theorem mask11 (f : Nat) (hf : f < 18446744073709551616) : bits .and .u64 ((f : Int) / 4503599627370496) 2047 = (f : Int) / 4503599627370496 % 2048 := by
  have h := u64_and_nat (f / 4503599627370496) 2047 (by omega) (by omega)
  rw [show ((2047 : Nat) : Int) = 2047 from rfl, show ((f / 4503599627370496 : Nat) : Int) = (f : Int) / 4503599627370496 by omega] at h
  rw [h, show (2047 : Nat) = 2 ^ 11 - 1 by decide, Nat.and_two_pow_sub_one_eq_mod]
  omega
theorem fin_mask (f : Nat) (hf : f < 18446744073709551616) : finB f = (!decide ((f : Int) / 4503599627370496 % 2048 = 2047) && !decide ((f : Int) = 9223372036854775808)) := by
  unfold finB
  rw [← decide_not, ← decide_not]
  congr 1
  · rw [decide_eq_decide]; omega
  · rw [decide_eq_decide]; omega
set_option maxRecDepth 100000 in
set_option maxHeartbeats 1000000 in
theorem right27_3 (n : Int) (f : Nat) (s : ByteArray) (w : World) (hf : f < 18446744073709551616) :
    Calls Tryd.prog 35 #[.agg #[.int .u8 3, .int .i64 n, .float .f64 f, .string s]] w fun e w' => e = .returned (.bool (rightF n f s)) ∧ Below w.heap.size w w' := by
  have hm := mask11 f hf
  have he := fin_mask f hf
  unfold rightF
  rw [he]
  clear he
  go_enter Tryd.func35, Tryd.ntmps35
  go_wp2
  all_goals
    go_ret
    refine ⟨?_, ?_⟩
    · first | rfl | (simp [*]; done) | (simp [*]; exact tail_eq (by assumption))
    · first | exact bel_box _ _ _ | exact below_drewN (bel_box _ _ _) _

end V
end Go.Proofs.YtkinjcblngkeiaaDoor
