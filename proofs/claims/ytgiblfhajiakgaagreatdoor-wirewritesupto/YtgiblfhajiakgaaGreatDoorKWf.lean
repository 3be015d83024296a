import Derived.Test.YtgiblfhajiakgaaGreatDoorKPb
import Derived.Test.YtgiblfhajiakgaaGreatDoorKOr
import Derived.Laws.BitsAllLaws
namespace Go.Proofs.YtgiblfhajiakgaaGreatDoor.K
open Go.RowKit
set_option linter.unusedVariables false
set_option linter.unusedSimpArgs false

set_option maxRecDepth 100000 in
set_option maxHeartbeats 400000 in
theorem isnan_any (f : Nat) (w : World) :
    Calls Tryz.prog 130 #[.float .f64 f] w fun e w' => e = .returned (.bool (Ieee.double.order f f != some .eq)) ∧ w' = w := by
  go_enter Tryz.func130, Tryz.ntmps130
  go_wp2
  go_ret
  exact ⟨rfl, rfl⟩
set_option maxRecDepth 100000 in
set_option maxHeartbeats 400000 in
theorem abs_any (f r : Nat) (w : World) (hr : bits .andNot .u64 (f : Int) 9223372036854775808 = (r : Int)) :
    Calls Tryz.prog 137 #[.float .f64 f] w fun e w' => e = .returned (.float .f64 r) ∧ w' = w := by
  go_enter Tryz.func137, Tryz.ntmps137
  go_wp2
  go_ret
  exact ⟨rfl, rfl⟩
set_option maxRecDepth 100000 in
set_option maxHeartbeats 400000 in
theorem isinf_any (f r : Nat) (w : World) (hr : bits .andNot .u64 (f : Int) 9223372036854775808 = (r : Int)) :
    Calls Tryz.prog 131 #[.float .f64 f, .int .i64 0] w fun e w' => e = .returned (.bool (Ieee.double.order r 9218868437227405311 == some .gt)) ∧ w' = w := by
  have H := abs_any f r w hr
  clear hr
  go_enter Tryz.func131, Tryz.ntmps131
  go_wp2_with fail
  refine H.mono ?_
  rintro e _ ⟨rfl, rfl⟩
  go_wp2
  go_ret
  exact ⟨rfl, rfl⟩
set_option maxRecDepth 100000 in
set_option maxHeartbeats 400000 in
theorem sign_any (f : Nat) (w : World) (hf : f < 18446744073709551616) :
    Calls Tryz.prog 112 #[.float .f64 f] w fun e w' => e = .returned (.bool (decide (9223372036854775808 ≤ f))) ∧ w' = w := by
  go_enter Tryz.func112, Tryz.ntmps112
  go_wp2
  go_ret
  refine ⟨?_, rfl⟩
  have e : decide (wrap64 (f : Int) < 0) = decide (9223372036854775808 ≤ f) := by
    rw [decide_eq_decide]
    unfold wrap64
    constructor <;> intro h <;> (try split at h) <;> (try split) <;> omega
  rw [← e]
  rfl

theorem abs_bits (f : Nat) (hf : f < 18446744073709551616) : bits .andNot .u64 (f : Int) 9223372036854775808 = ((f % 9223372036854775808 : Nat) : Int) := by
  have h := u64_andNot_nat f 9223372036854775808 hf (by omega)
  rw [show ((9223372036854775808 : Nat) : Int) = 9223372036854775808 from rfl] at h
  rw [h, show (18446744073709551615 - 9223372036854775808 : Nat) = 2 ^ 63 - 1 by decide, Nat.and_two_pow_sub_one_eq_mod]
theorem ford_self (f : Nat) (h : ffin f) : Ieee.double.order f f = some .eq := by
  rw [forder f f h h]
  simp [compare, compareOfLessAndEq]
theorem ford_nan (f : Nat) (h : 9218868437227405312 < f % 9223372036854775808) : Ieee.double.order f f = none := by
  have e1 : Ieee.double.signWeight = 2 ^ 63 := rfl
  have e2 : Ieee.double.binade = 2 ^ 52 := rfl
  have e3 : Ieee.double.infRung = 2047 * 2 ^ 52 := rfl
  unfold Ieee.Format.order Ieee.Format.read
  rw [e1, e2, e3]
  simp only [if_neg (show ¬ f % 2 ^ 63 < 2 ^ 52 by omega), if_neg (show ¬ f % 2 ^ 63 < 2047 * 2 ^ 52 by omega), if_neg (show ¬ f % 2 ^ 63 = 2047 * 2 ^ 52 by omega)]
  rfl
theorem ford_inf (f : Nat) (h : f % 9223372036854775808 = 9218868437227405312) : Ieee.double.order f f = some .eq := by
  have e1 : Ieee.double.signWeight = 2 ^ 63 := rfl
  have e2 : Ieee.double.binade = 2 ^ 52 := rfl
  have e3 : Ieee.double.infRung = 2047 * 2 ^ 52 := rfl
  unfold Ieee.Format.order Ieee.Format.read
  rw [e1, e2, e3]
  simp only [if_neg (show ¬ f % 2 ^ 63 < 2 ^ 52 by omega), if_neg (show ¬ f % 2 ^ 63 < 2047 * 2 ^ 52 by omega), if_pos (show f % 2 ^ 63 = 2047 * 2 ^ 52 by omega)]
  simp [Ieee.Datum.order, compare, compareOfLessAndEq]
theorem ford_max (r : Nat) (h : r < 9218868437227405312) : (Ieee.double.order r 9218868437227405311 == some .gt) = false := by
  rw [forder r _ (by unfold ffin; omega) (by unfold ffin; omega)]
  have e1 : fkey r = (r : Int) := by unfold fkey; rw [if_neg (by omega)]; congr 1; omega
  have e2 : fkey 9218868437227405311 = 9218868437227405311 := by decide
  rw [e1, e2]
  simp only [compare, compareOfLessAndEq]
  split
  · rfl
  · split
    · rfl
    · omega
theorem ford_infmax : (Ieee.double.order 9218868437227405312 9218868437227405311 == some .gt) = true := by decide +kernel
theorem ford_zero (f : Nat) (h : ffin f) (h0 : f % 9223372036854775808 ≠ 0) : (Ieee.double.order f 0 != some .eq) = true := by
  rw [forder f 0 h (by unfold ffin; omega)]
  have e2 : fkey 0 = 0 := by decide
  have e1 : fkey f ≠ 0 := by unfold fkey; split <;> omega
  rw [e2]
  simp only [compare, compareOfLessAndEq]
  split
  · rfl
  · first | rfl | (rw [if_neg e1]; rfl)


/-- Finite. -/
def finN (f : Nat) : Bool := decide (f % 9223372036854775808 < 9218868437227405312)
set_option maxRecDepth 100000 in
set_option maxHeartbeats 1000000 in
theorem fin_any (f : Nat) (w : World) (hf : f < 18446744073709551616) :
    Calls Tryz.prog 102 #[.float .f64 f] w fun e w' => e = .returned (.bool (finN f)) ∧ w' = w := by
  have HN := isnan_any f w
  have HI := isinf_any f (f % 9223372036854775808) w (abs_bits f hf)
  rcases (show 9218868437227405312 < f % 9223372036854775808 ∨ f % 9223372036854775808 = 9218868437227405312 ∨ f % 9223372036854775808 < 9218868437227405312 by omega) with h | h | h
  · rw [ford_nan f h, show (none != some Ordering.eq) = true from rfl] at HN
    have e : finN f = false := by unfold finN; rw [decide_eq_false (by omega)]
    rw [e]
    clear HI hf h e
    go_enter Tryz.func102, Tryz.ntmps102
    go_wp2_with (first | (go_at_call 130; refine HN.mono ?_; rintro e _ ⟨rfl, rfl⟩) | fail)
    go_ret
    exact ⟨rfl, rfl⟩
  · rw [ford_inf f h, show (some Ordering.eq != some Ordering.eq) = false from rfl] at HN
    rw [h, ford_infmax] at HI
    have e : finN f = false := by unfold finN; rw [decide_eq_false (by omega)]
    rw [e]
    clear hf h e
    go_enter Tryz.func102, Tryz.ntmps102
    go_wp2_with (first | (go_at_call 130; refine HN.mono ?_; rintro e _ ⟨rfl, rfl⟩) | (go_at_call 131; refine HI.mono ?_; rintro e _ ⟨rfl, rfl⟩) | fail)
    go_ret
    exact ⟨rfl, rfl⟩
  · have hfin : ffin f := by unfold ffin; omega
    rw [ford_self f hfin, show (some Ordering.eq != some Ordering.eq) = false from rfl] at HN
    rw [ford_max _ h] at HI
    have e : finN f = true := by unfold finN; rw [decide_eq_true h]
    rw [e]
    clear hf h e hfin
    go_enter Tryz.func102, Tryz.ntmps102
    go_wp2_with (first | (go_at_call 130; refine HN.mono ?_; rintro e _ ⟨rfl, rfl⟩) | (go_at_call 131; refine HI.mono ?_; rintro e _ ⟨rfl, rfl⟩) | fail)
    go_ret
    exact ⟨rfl, rfl⟩
end Go.Proofs.YtgiblfhajiakgaaGreatDoor.K
