import Derived.Test.YtkinjcblngkeiaaDoorWf
namespace Go.Proofs.YtkinjcblngkeiaaDoor
open Go.RowKit
set_option linter.unusedVariables false
set_option linter.unusedSimpArgs false
namespace V

/-- Finite, and not -0. -/
def finB (f : Nat) : Bool := decide (f % 9223372036854775808 < 9218868437227405312) && decide (f ≠ 9223372036854775808)
set_option maxRecDepth 100000 in
set_option maxHeartbeats 1000000 in
theorem writ_any (f : Nat) (w : World) (hf : f < 18446744073709551616) :
    Calls Tryd.prog 65 #[.float .f64 f] w fun e w' => e = .returned (.bool (finB f)) ∧ w' = w := by
  have HN := isnan_any f w
  have HI := isinf_any f (f % 9223372036854775808) w (abs_bits f hf)
  have HS := sign_any f w hf
  rcases (show 9218868437227405312 < f % 9223372036854775808 ∨ f % 9223372036854775808 = 9218868437227405312 ∨ (f % 9223372036854775808 < 9218868437227405312 ∧ f % 9223372036854775808 ≠ 0) ∨ f = 0 ∨ f = 9223372036854775808 by omega) with h | h | h | h | h
  · rw [ford_nan f h, show (none != some Ordering.eq) = true from rfl] at HN
    have e : finB f = false := by unfold finB; rw [decide_eq_false (by omega)]; rfl
    rw [e]
    clear HI HS hf h e
    go_enter Tryd.func65, Tryd.ntmps65
    go_wp2_with (first | (go_at_call 88; refine HN.mono ?_; rintro e _ ⟨rfl, rfl⟩) | fail)
    go_ret
    exact ⟨rfl, rfl⟩
  · rw [ford_inf f h, show (some Ordering.eq != some Ordering.eq) = false from rfl] at HN
    rw [h, ford_infmax] at HI
    have e : finB f = false := by unfold finB; rw [decide_eq_false (by omega)]; rfl
    rw [e]
    clear HS hf h e
    go_enter Tryd.func65, Tryd.ntmps65
    go_wp2_with (first | (go_at_call 88; refine HN.mono ?_; rintro e _ ⟨rfl, rfl⟩) | (go_at_call 89; refine HI.mono ?_; rintro e _ ⟨rfl, rfl⟩) | fail)
    go_ret
    exact ⟨rfl, rfl⟩
  · have hfin : ffin f := by unfold ffin; omega
    rw [ford_self f hfin, show (some Ordering.eq != some Ordering.eq) = false from rfl] at HN
    rw [ford_max _ h.1] at HI
    have z : (FloatKind.f64.format.order f 0 != some .eq) = true := ford_zero f hfin h.2
    have e : finB f = true := by unfold finB; rw [decide_eq_true h.1, decide_eq_true (by omega)]; rfl
    rw [e]
    clear HS hf h e hfin
    go_enter Tryd.func65, Tryd.ntmps65
    go_wp2_with (first | (go_at_call 88; refine HN.mono ?_; rintro e _ ⟨rfl, rfl⟩) | (go_at_call 89; refine HI.mono ?_; rintro e _ ⟨rfl, rfl⟩) | fail)
    go_ret
    exact ⟨rfl, rfl⟩
  · subst h
    rw [show (Ieee.double.order 0 0 != some .eq) = false by decide +kernel] at HN
    rw [show (Ieee.double.order (0 % 9223372036854775808) 9218868437227405311 == some .gt) = false by decide +kernel] at HI
    rw [show decide (9223372036854775808 ≤ 0) = false by decide] at HS
    have z : (FloatKind.f64.format.order 0 0 != some .eq) = false := by decide +kernel
    rw [show finB 0 = true by decide]
    clear hf
    go_enter Tryd.func65, Tryd.ntmps65
    go_wp2_with (first | (go_at_call 88; refine HN.mono ?_; rintro e _ ⟨rfl, rfl⟩) | (go_at_call 89; refine HI.mono ?_; rintro e _ ⟨rfl, rfl⟩) | (go_at_call 80; refine HS.mono ?_; rintro e _ ⟨rfl, rfl⟩) | fail)
    go_ret
    exact ⟨rfl, rfl⟩
  · subst h
    rw [show (Ieee.double.order 9223372036854775808 9223372036854775808 != some .eq) = false by decide +kernel] at HN
    rw [show (Ieee.double.order (9223372036854775808 % 9223372036854775808) 9218868437227405311 == some .gt) = false by decide +kernel] at HI
    rw [show decide (9223372036854775808 ≤ 9223372036854775808) = true by decide] at HS
    have z : (FloatKind.f64.format.order 9223372036854775808 0 != some .eq) = false := by decide +kernel
    rw [show finB 9223372036854775808 = false by decide]
    clear hf
    go_enter Tryd.func65, Tryd.ntmps65
    go_wp2_with (first | (go_at_call 88; refine HN.mono ?_; rintro e _ ⟨rfl, rfl⟩) | (go_at_call 89; refine HI.mono ?_; rintro e _ ⟨rfl, rfl⟩) | (go_at_call 80; refine HS.mono ?_; rintro e _ ⟨rfl, rfl⟩) | fail)
    go_ret
    exact ⟨rfl, rfl⟩

end V
end Go.Proofs.YtkinjcblngkeiaaDoor
