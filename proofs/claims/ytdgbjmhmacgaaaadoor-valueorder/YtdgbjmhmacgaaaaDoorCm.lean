import Derived.Test.YtdgbjmhmacgaaaaDoorRi
import Derived.Test.YtdgbjmhmacgaaaaDoorWf
namespace Go.Proofs.YtdgbjmhmacgaaaaDoor
open Go.RowKit
set_option linter.unusedVariables false
set_option linter.unusedSimpArgs false

/-- How two numbers stand: -1, 0, 1. -/
def cI (a b : Int) : Int := if a < b then -1 else if b < a then 1 else 0
/-- How two texts stand. -/
def cS (a b : ByteArray) : Int := if Op.bytesLess a.toList b.toList = true then -1 else if (a.toList == b.toList) = true then 0 else 1

set_option maxRecDepth 100000 in
set_option maxHeartbeats 400000 in
theorem nan43 (k : Int) (w : World) : Calls Tryd.prog 43 #[.int .u8 k] w fun e w' => e = .returned (.bool false) ∧ w' = w := by
  go_enter Tryd.func43, Tryd.ntmps43
  go_wp2
  go_ret
  exact ⟨by simp, rfl⟩
set_option maxRecDepth 100000 in
set_option maxHeartbeats 1000000 in
theorem cmp29 (a b : Int) (w : World) : Calls Tryd.prog 29 #[.int .u8 a, .int .u8 b] w fun e w' => e = .returned (.int .i64 (cI a b)) ∧ w' = w := by
  have H : Hid (∀ k wx, Calls Tryd.prog 43 #[.int .u8 k] wx fun e w' => e = .returned (.bool false) ∧ w' = wx) := fun k wx => nan43 k wx
  unfold cI
  by_cases h1 : a < b
  · rw [if_pos h1]
    go_enter Tryd.func29, Tryd.ntmps29
    go_wp2_with (first | (go_at_call 43; refine (H.out _ _).mono ?_; rintro e _ ⟨rfl, rfl⟩) | fail)
    go_ret
    exact ⟨rfl, rfl⟩
  · rw [if_neg h1]
    by_cases h2 : b < a
    · rw [if_pos h2]
      go_enter Tryd.func29, Tryd.ntmps29
      go_wp2_with (first | (go_at_call 43; refine (H.out _ _).mono ?_; rintro e _ ⟨rfl, rfl⟩) | fail)
      go_ret
      exact ⟨rfl, rfl⟩
    · rw [if_neg h2]
      go_enter Tryd.func29, Tryd.ntmps29
      go_wp2_with (first | (go_at_call 43; refine (H.out _ _).mono ?_; rintro e _ ⟨rfl, rfl⟩) | fail)
      go_ret
      exact ⟨rfl, rfl⟩

set_option maxRecDepth 100000 in
set_option maxHeartbeats 400000 in
theorem nan44 (k : Int) (w : World) : Calls Tryd.prog 44 #[.int .i64 k] w fun e w' => e = .returned (.bool false) ∧ w' = w := by
  go_enter Tryd.func44, Tryd.ntmps44
  go_wp2
  go_ret
  exact ⟨by simp, rfl⟩
set_option maxRecDepth 100000 in
set_option maxHeartbeats 1000000 in
theorem cmp30 (a b : Int) (w : World) : Calls Tryd.prog 30 #[.int .i64 a, .int .i64 b] w fun e w' => e = .returned (.int .i64 (cI a b)) ∧ w' = w := by
  have H : Hid (∀ k wx, Calls Tryd.prog 44 #[.int .i64 k] wx fun e w' => e = .returned (.bool false) ∧ w' = wx) := fun k wx => nan44 k wx
  unfold cI
  by_cases h1 : a < b
  · rw [if_pos h1]
    go_enter Tryd.func30, Tryd.ntmps30
    go_wp2_with (first | (go_at_call 44; refine (H.out _ _).mono ?_; rintro e _ ⟨rfl, rfl⟩) | fail)
    go_ret
    exact ⟨rfl, rfl⟩
  · rw [if_neg h1]
    by_cases h2 : b < a
    · rw [if_pos h2]
      go_enter Tryd.func30, Tryd.ntmps30
      go_wp2_with (first | (go_at_call 44; refine (H.out _ _).mono ?_; rintro e _ ⟨rfl, rfl⟩) | fail)
      go_ret
      exact ⟨rfl, rfl⟩
    · rw [if_neg h2]
      go_enter Tryd.func30, Tryd.ntmps30
      go_wp2_with (first | (go_at_call 44; refine (H.out _ _).mono ?_; rintro e _ ⟨rfl, rfl⟩) | fail)
      go_ret
      exact ⟨rfl, rfl⟩

set_option maxRecDepth 100000 in
set_option maxHeartbeats 400000 in
theorem nan46 (s : ByteArray) (w : World) : Calls Tryd.prog 46 #[.string s] w fun e w' => e = .returned (.bool false) ∧ w' = w := by
  go_enter Tryd.func46, Tryd.ntmps46
  go_wp2
  go_ret
  exact ⟨by simp, rfl⟩
set_option maxRecDepth 100000 in
set_option maxHeartbeats 1000000 in
theorem cmp32 (a b : ByteArray) (w : World) : Calls Tryd.prog 32 #[.string a, .string b] w fun e w' => e = .returned (.int .i64 (cS a b)) ∧ w' = w := by
  have H : Hid (∀ k wx, Calls Tryd.prog 46 #[.string k] wx fun e w' => e = .returned (.bool false) ∧ w' = wx) := fun k wx => nan46 k wx
  unfold cS
  by_cases h1 : Op.bytesLess a.toList b.toList = true
  · rw [if_pos h1]
    go_enter Tryd.func32, Tryd.ntmps32
    go_wp2_with (first | (go_at_call 46; refine (H.out _ _).mono ?_; rintro e _ ⟨rfl, rfl⟩) | fail)
    go_ret
    exact ⟨rfl, rfl⟩
  · rw [if_neg h1]
    have h1' : Op.bytesLess a.toList b.toList = false := by simpa using h1
    by_cases h2 : (a.toList == b.toList) = true
    · rw [if_pos h2]
      go_enter Tryd.func32, Tryd.ntmps32
      go_wp2_with (first | (go_at_call 46; refine (H.out _ _).mono ?_; rintro e _ ⟨rfl, rfl⟩) | fail)
      go_ret
      exact ⟨rfl, rfl⟩
    · rw [if_neg h2]
      have h2' : (a.toList == b.toList) = false := by simpa using h2
      go_enter Tryd.func32, Tryd.ntmps32
      go_wp2_with (first | (go_at_call 46; refine (H.out _ _).mono ?_; rintro e _ ⟨rfl, rfl⟩) | fail)
      go_ret
      exact ⟨rfl, rfl⟩
theorem ford_lt (a b : Nat) (ha : ffin a) (hb : ffin b) : (Ieee.double.order a b == some .lt) = decide (fkey a < fkey b) := by
  rw [forder a b ha hb]
  simp only [compare, compareOfLessAndEq]
  by_cases h : fkey a < fkey b
  · rw [if_pos h]; simp [h]
  · rw [if_neg h]
    by_cases h2 : fkey a = fkey b
    · rw [if_pos h2]; simp [h]
    · rw [if_neg h2]; simp [h]
theorem ford_gt (a b : Nat) (ha : ffin a) (hb : ffin b) : (Ieee.double.order a b == some .gt) = decide (fkey b < fkey a) := by
  rw [forder a b ha hb]
  simp only [compare, compareOfLessAndEq]
  by_cases h : fkey a < fkey b
  · rw [if_pos h]
    have : ¬ fkey b < fkey a := by omega
    simp [this]
  · rw [if_neg h]
    by_cases h2 : fkey a = fkey b
    · rw [if_pos h2]
      have : ¬ fkey b < fkey a := by omega
      simp [this]
    · rw [if_neg h2]
      have : fkey b < fkey a := by omega
      simp [this]
set_option maxRecDepth 100000 in
set_option maxHeartbeats 400000 in
theorem nan45 (f : Nat) (w : World) (hf : ffin f) : Calls Tryd.prog 45 #[.float .f64 f] w fun e w' => e = .returned (.bool false) ∧ w' = w := by
  have h : (FloatKind.f64.format.order f f != some .eq) = false := by
    rw [show FloatKind.f64.format.order f f = Ieee.double.order f f from rfl, ford_self f hf]; rfl
  go_enter Tryd.func45, Tryd.ntmps45
  go_wp2
  go_ret
  exact ⟨rfl, rfl⟩
set_option maxRecDepth 100000 in
set_option maxHeartbeats 1000000 in
theorem cmp31 (a b : Nat) (w : World) (ha : ffin a) (hb : ffin b) : Calls Tryd.prog 31 #[.float .f64 a, .float .f64 b] w fun e w' => e = .returned (.int .i64 (cI (fkey a) (fkey b))) ∧ w' = w := by
  have HA : Hid (∀ wx, Calls Tryd.prog 45 #[.float .f64 a] wx fun e w' => e = .returned (.bool false) ∧ w' = wx) := fun wx => nan45 a wx ha
  have HB : Hid (∀ wx, Calls Tryd.prog 45 #[.float .f64 b] wx fun e w' => e = .returned (.bool false) ∧ w' = wx) := fun wx => nan45 b wx hb
  have e1 : (FloatKind.f64.format.order a b == some .lt) = decide (fkey a < fkey b) := ford_lt a b ha hb
  have e2 : (FloatKind.f64.format.order a b == some .gt) = decide (fkey b < fkey a) := ford_gt a b ha hb
  generalize fkey a = x at *
  generalize fkey b = y at *
  clear ha hb
  unfold cI
  rcases (show x < y ∨ y < x ∨ x = y by omega) with h | h | h
  · rw [if_pos h]
    rw [decide_eq_true h] at e1
    rw [decide_eq_false (by omega)] at e2
    go_enter Tryd.func31, Tryd.ntmps31
    go_wp2_with fail
    refine (HA.out _).mono ?_
    rintro e _ ⟨rfl, rfl⟩
    go_wp2_with fail
    refine (HB.out _).mono ?_
    rintro e _ ⟨rfl, rfl⟩
    go_wp2
    go_ret
    exact ⟨rfl, rfl⟩
  · rw [if_neg (by omega), if_pos h]
    rw [decide_eq_false (by omega)] at e1
    rw [decide_eq_true h] at e2
    go_enter Tryd.func31, Tryd.ntmps31
    go_wp2_with fail
    refine (HA.out _).mono ?_
    rintro e _ ⟨rfl, rfl⟩
    go_wp2_with fail
    refine (HB.out _).mono ?_
    rintro e _ ⟨rfl, rfl⟩
    go_wp2
    go_ret
    exact ⟨rfl, rfl⟩
  · rw [if_neg (by omega), if_neg (by omega)]
    rw [decide_eq_false (by omega)] at e1
    rw [decide_eq_false (by omega)] at e2
    go_enter Tryd.func31, Tryd.ntmps31
    go_wp2_with fail
    refine (HA.out _).mono ?_
    rintro e _ ⟨rfl, rfl⟩
    go_wp2_with fail
    refine (HB.out _).mono ?_
    rintro e _ ⟨rfl, rfl⟩
    go_wp2
    go_ret
    exact ⟨rfl, rfl⟩
end Go.Proofs.YtdgbjmhmacgaaaaDoor
