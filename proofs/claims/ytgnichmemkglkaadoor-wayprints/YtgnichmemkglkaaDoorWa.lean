import Derived.Test.YtgnichmemkglkaaDoorZb
import Derived.Test.YtgnichmemkglkaaDoorQQz
import Derived.Test.YtgnichmemkglkaaDoorSi
import Derived.Lib.AppendIntMem
namespace Go.Proofs.YtgnichmemkglkaaDoor
open Go.RowKit
set_option linter.unusedVariables false
set_option linter.unusedSimpArgs false

/-- A byte that needs no quotes in a way. -/
def plC (c : Nat) : Bool := decide (97 ≤ c) && decide (c ≤ 122) || decide (65 ≤ c) && decide (c ≤ 90) || decide (48 ≤ c) && decide (c ≤ 57) || decide (c = 95) || decide (c = 45)
set_option maxRecDepth 100000 in
set_option maxHeartbeats 2000000 in
theorem plain_any (c : Nat) (w : World) (hc : c < 256) : Calls Tryd.prog 40 #[.int .u8 (c : Int)] w fun e w' => e = .returned (.bool (plC c)) ∧ w' = w := by
  rcases (show c ≤ 44 ∨ c = 45 ∨ (46 ≤ c ∧ c ≤ 47) ∨ (48 ≤ c ∧ c ≤ 57) ∨ (58 ≤ c ∧ c ≤ 64) ∨ (65 ≤ c ∧ c ≤ 90) ∨ (91 ≤ c ∧ c ≤ 94) ∨ c = 95 ∨ c = 96 ∨ (97 ≤ c ∧ c ≤ 122) ∨ (123 ≤ c ∧ c ≤ 255) by omega) with h | h | h | h | h | h | h | h | h | h | h
  · have f1 : ¬ ((97 : Int) ≤ (c : Int)) := by omega
    have f2 : ((c : Int) ≤ 122) := by omega
    have f3 : ¬ ((65 : Int) ≤ (c : Int)) := by omega
    have f4 : ((c : Int) ≤ 90) := by omega
    have f5 : ¬ ((48 : Int) ≤ (c : Int)) := by omega
    have f6 : ((c : Int) ≤ 57) := by omega
    have f7 : ¬ ((c : Int) = 95) := by omega
    have f8 : ¬ ((c : Int) = 45) := by omega
    have HP : Hid (plC c = false) := by show _ = _; unfold plC; simp; omega
    generalize plC c = P at *
    clear h
    go_enter Tryd.func40, Tryd.ntmps40
    go_wp2
    go_ret
    exact ⟨by rw [HP.out]; first | rfl | simp [f7, f8], rfl⟩
  · have f1 : ¬ ((97 : Int) ≤ (c : Int)) := by omega
    have f2 : ((c : Int) ≤ 122) := by omega
    have f3 : ¬ ((65 : Int) ≤ (c : Int)) := by omega
    have f4 : ((c : Int) ≤ 90) := by omega
    have f5 : ¬ ((48 : Int) ≤ (c : Int)) := by omega
    have f6 : ((c : Int) ≤ 57) := by omega
    have f7 : ¬ ((c : Int) = 95) := by omega
    have f8 : ((c : Int) = 45) := by omega
    have HP : Hid (plC c = true) := by show _ = _; unfold plC; simp; omega
    generalize plC c = P at *
    clear h
    go_enter Tryd.func40, Tryd.ntmps40
    go_wp2
    go_ret
    exact ⟨by rw [HP.out]; first | rfl | simp [f7, f8], rfl⟩
  · have f1 : ¬ ((97 : Int) ≤ (c : Int)) := by omega
    have f2 : ((c : Int) ≤ 122) := by omega
    have f3 : ¬ ((65 : Int) ≤ (c : Int)) := by omega
    have f4 : ((c : Int) ≤ 90) := by omega
    have f5 : ¬ ((48 : Int) ≤ (c : Int)) := by omega
    have f6 : ((c : Int) ≤ 57) := by omega
    have f7 : ¬ ((c : Int) = 95) := by omega
    have f8 : ¬ ((c : Int) = 45) := by omega
    have HP : Hid (plC c = false) := by show _ = _; unfold plC; simp; omega
    generalize plC c = P at *
    clear h
    go_enter Tryd.func40, Tryd.ntmps40
    go_wp2
    go_ret
    exact ⟨by rw [HP.out]; first | rfl | simp [f7, f8], rfl⟩
  · have f1 : ¬ ((97 : Int) ≤ (c : Int)) := by omega
    have f2 : ((c : Int) ≤ 122) := by omega
    have f3 : ¬ ((65 : Int) ≤ (c : Int)) := by omega
    have f4 : ((c : Int) ≤ 90) := by omega
    have f5 : ((48 : Int) ≤ (c : Int)) := by omega
    have f6 : ((c : Int) ≤ 57) := by omega
    have f7 : ¬ ((c : Int) = 95) := by omega
    have f8 : ¬ ((c : Int) = 45) := by omega
    have HP : Hid (plC c = true) := by show _ = _; unfold plC; simp; omega
    generalize plC c = P at *
    clear h
    go_enter Tryd.func40, Tryd.ntmps40
    go_wp2
    go_ret
    exact ⟨by rw [HP.out]; first | rfl | simp [f7, f8], rfl⟩
  · have f1 : ¬ ((97 : Int) ≤ (c : Int)) := by omega
    have f2 : ((c : Int) ≤ 122) := by omega
    have f3 : ¬ ((65 : Int) ≤ (c : Int)) := by omega
    have f4 : ((c : Int) ≤ 90) := by omega
    have f5 : ((48 : Int) ≤ (c : Int)) := by omega
    have f6 : ¬ ((c : Int) ≤ 57) := by omega
    have f7 : ¬ ((c : Int) = 95) := by omega
    have f8 : ¬ ((c : Int) = 45) := by omega
    have HP : Hid (plC c = false) := by show _ = _; unfold plC; simp; omega
    generalize plC c = P at *
    clear h
    go_enter Tryd.func40, Tryd.ntmps40
    go_wp2
    go_ret
    exact ⟨by rw [HP.out]; first | rfl | simp [f7, f8], rfl⟩
  · have f1 : ¬ ((97 : Int) ≤ (c : Int)) := by omega
    have f2 : ((c : Int) ≤ 122) := by omega
    have f3 : ((65 : Int) ≤ (c : Int)) := by omega
    have f4 : ((c : Int) ≤ 90) := by omega
    have f5 : ((48 : Int) ≤ (c : Int)) := by omega
    have f6 : ¬ ((c : Int) ≤ 57) := by omega
    have f7 : ¬ ((c : Int) = 95) := by omega
    have f8 : ¬ ((c : Int) = 45) := by omega
    have HP : Hid (plC c = true) := by show _ = _; unfold plC; simp; omega
    generalize plC c = P at *
    clear h
    go_enter Tryd.func40, Tryd.ntmps40
    go_wp2
    go_ret
    exact ⟨by rw [HP.out]; first | rfl | simp [f7, f8], rfl⟩
  · have f1 : ¬ ((97 : Int) ≤ (c : Int)) := by omega
    have f2 : ((c : Int) ≤ 122) := by omega
    have f3 : ((65 : Int) ≤ (c : Int)) := by omega
    have f4 : ¬ ((c : Int) ≤ 90) := by omega
    have f5 : ((48 : Int) ≤ (c : Int)) := by omega
    have f6 : ¬ ((c : Int) ≤ 57) := by omega
    have f7 : ¬ ((c : Int) = 95) := by omega
    have f8 : ¬ ((c : Int) = 45) := by omega
    have HP : Hid (plC c = false) := by show _ = _; unfold plC; simp; omega
    generalize plC c = P at *
    clear h
    go_enter Tryd.func40, Tryd.ntmps40
    go_wp2
    go_ret
    exact ⟨by rw [HP.out]; first | rfl | simp [f7, f8], rfl⟩
  · have f1 : ¬ ((97 : Int) ≤ (c : Int)) := by omega
    have f2 : ((c : Int) ≤ 122) := by omega
    have f3 : ((65 : Int) ≤ (c : Int)) := by omega
    have f4 : ¬ ((c : Int) ≤ 90) := by omega
    have f5 : ((48 : Int) ≤ (c : Int)) := by omega
    have f6 : ¬ ((c : Int) ≤ 57) := by omega
    have f7 : ((c : Int) = 95) := by omega
    have f8 : ¬ ((c : Int) = 45) := by omega
    have HP : Hid (plC c = true) := by show _ = _; unfold plC; simp; omega
    generalize plC c = P at *
    clear h
    go_enter Tryd.func40, Tryd.ntmps40
    go_wp2
    go_ret
    exact ⟨by rw [HP.out]; first | rfl | simp [f7, f8], rfl⟩
  · have f1 : ¬ ((97 : Int) ≤ (c : Int)) := by omega
    have f2 : ((c : Int) ≤ 122) := by omega
    have f3 : ((65 : Int) ≤ (c : Int)) := by omega
    have f4 : ¬ ((c : Int) ≤ 90) := by omega
    have f5 : ((48 : Int) ≤ (c : Int)) := by omega
    have f6 : ¬ ((c : Int) ≤ 57) := by omega
    have f7 : ¬ ((c : Int) = 95) := by omega
    have f8 : ¬ ((c : Int) = 45) := by omega
    have HP : Hid (plC c = false) := by show _ = _; unfold plC; simp; omega
    generalize plC c = P at *
    clear h
    go_enter Tryd.func40, Tryd.ntmps40
    go_wp2
    go_ret
    exact ⟨by rw [HP.out]; first | rfl | simp [f7, f8], rfl⟩
  · have f1 : ((97 : Int) ≤ (c : Int)) := by omega
    have f2 : ((c : Int) ≤ 122) := by omega
    have f3 : ((65 : Int) ≤ (c : Int)) := by omega
    have f4 : ¬ ((c : Int) ≤ 90) := by omega
    have f5 : ((48 : Int) ≤ (c : Int)) := by omega
    have f6 : ¬ ((c : Int) ≤ 57) := by omega
    have f7 : ¬ ((c : Int) = 95) := by omega
    have f8 : ¬ ((c : Int) = 45) := by omega
    have HP : Hid (plC c = true) := by show _ = _; unfold plC; simp; omega
    generalize plC c = P at *
    clear h
    go_enter Tryd.func40, Tryd.ntmps40
    go_wp2
    go_ret
    exact ⟨by rw [HP.out]; first | rfl | simp [f7, f8], rfl⟩
  · have f1 : ((97 : Int) ≤ (c : Int)) := by omega
    have f2 : ¬ ((c : Int) ≤ 122) := by omega
    have f3 : ((65 : Int) ≤ (c : Int)) := by omega
    have f4 : ¬ ((c : Int) ≤ 90) := by omega
    have f5 : ((48 : Int) ≤ (c : Int)) := by omega
    have f6 : ¬ ((c : Int) ≤ 57) := by omega
    have f7 : ¬ ((c : Int) = 95) := by omega
    have f8 : ¬ ((c : Int) = 45) := by omega
    have HP : Hid (plC c = false) := by show _ = _; unfold plC; simp; omega
    generalize plC c = P at *
    clear h
    go_enter Tryd.func40, Tryd.ntmps40
    go_wp2
    go_ret
    exact ⟨by rw [HP.out]; first | rfl | simp [f7, f8], rfl⟩
set_option maxRecDepth 100000 in
set_option maxHeartbeats 2000000 in
theorem rplainC_any (c : Nat) (w : World) (hc : c < 256) : Calls Tryd.prog 28 #[.int .u8 (c : Int)] w fun e w' => e = .returned (.bool (plC c)) ∧ w' = w := by
  rcases (show c ≤ 44 ∨ c = 45 ∨ (46 ≤ c ∧ c ≤ 47) ∨ (48 ≤ c ∧ c ≤ 57) ∨ (58 ≤ c ∧ c ≤ 64) ∨ (65 ≤ c ∧ c ≤ 90) ∨ (91 ≤ c ∧ c ≤ 94) ∨ c = 95 ∨ c = 96 ∨ (97 ≤ c ∧ c ≤ 122) ∨ (123 ≤ c ∧ c ≤ 255) by omega) with h | h | h | h | h | h | h | h | h | h | h
  · have f1 : ¬ ((97 : Int) ≤ (c : Int)) := by omega
    have f2 : ((c : Int) ≤ 122) := by omega
    have f3 : ¬ ((65 : Int) ≤ (c : Int)) := by omega
    have f4 : ((c : Int) ≤ 90) := by omega
    have f5 : ¬ ((48 : Int) ≤ (c : Int)) := by omega
    have f6 : ((c : Int) ≤ 57) := by omega
    have f7 : ¬ ((c : Int) = 95) := by omega
    have f8 : ¬ ((c : Int) = 45) := by omega
    have HP : Hid (plC c = false) := by show _ = _; unfold plC; simp; omega
    generalize plC c = P at *
    clear h
    go_enter Tryd.func28, Tryd.ntmps28
    go_wp2
    go_ret
    exact ⟨by rw [HP.out]; first | rfl | simp [f7, f8], rfl⟩
  · have f1 : ¬ ((97 : Int) ≤ (c : Int)) := by omega
    have f2 : ((c : Int) ≤ 122) := by omega
    have f3 : ¬ ((65 : Int) ≤ (c : Int)) := by omega
    have f4 : ((c : Int) ≤ 90) := by omega
    have f5 : ¬ ((48 : Int) ≤ (c : Int)) := by omega
    have f6 : ((c : Int) ≤ 57) := by omega
    have f7 : ¬ ((c : Int) = 95) := by omega
    have f8 : ((c : Int) = 45) := by omega
    have HP : Hid (plC c = true) := by show _ = _; unfold plC; simp; omega
    generalize plC c = P at *
    clear h
    go_enter Tryd.func28, Tryd.ntmps28
    go_wp2
    go_ret
    exact ⟨by rw [HP.out]; first | rfl | simp [f7, f8], rfl⟩
  · have f1 : ¬ ((97 : Int) ≤ (c : Int)) := by omega
    have f2 : ((c : Int) ≤ 122) := by omega
    have f3 : ¬ ((65 : Int) ≤ (c : Int)) := by omega
    have f4 : ((c : Int) ≤ 90) := by omega
    have f5 : ¬ ((48 : Int) ≤ (c : Int)) := by omega
    have f6 : ((c : Int) ≤ 57) := by omega
    have f7 : ¬ ((c : Int) = 95) := by omega
    have f8 : ¬ ((c : Int) = 45) := by omega
    have HP : Hid (plC c = false) := by show _ = _; unfold plC; simp; omega
    generalize plC c = P at *
    clear h
    go_enter Tryd.func28, Tryd.ntmps28
    go_wp2
    go_ret
    exact ⟨by rw [HP.out]; first | rfl | simp [f7, f8], rfl⟩
  · have f1 : ¬ ((97 : Int) ≤ (c : Int)) := by omega
    have f2 : ((c : Int) ≤ 122) := by omega
    have f3 : ¬ ((65 : Int) ≤ (c : Int)) := by omega
    have f4 : ((c : Int) ≤ 90) := by omega
    have f5 : ((48 : Int) ≤ (c : Int)) := by omega
    have f6 : ((c : Int) ≤ 57) := by omega
    have f7 : ¬ ((c : Int) = 95) := by omega
    have f8 : ¬ ((c : Int) = 45) := by omega
    have HP : Hid (plC c = true) := by show _ = _; unfold plC; simp; omega
    generalize plC c = P at *
    clear h
    go_enter Tryd.func28, Tryd.ntmps28
    go_wp2
    go_ret
    exact ⟨by rw [HP.out]; first | rfl | simp [f7, f8], rfl⟩
  · have f1 : ¬ ((97 : Int) ≤ (c : Int)) := by omega
    have f2 : ((c : Int) ≤ 122) := by omega
    have f3 : ¬ ((65 : Int) ≤ (c : Int)) := by omega
    have f4 : ((c : Int) ≤ 90) := by omega
    have f5 : ((48 : Int) ≤ (c : Int)) := by omega
    have f6 : ¬ ((c : Int) ≤ 57) := by omega
    have f7 : ¬ ((c : Int) = 95) := by omega
    have f8 : ¬ ((c : Int) = 45) := by omega
    have HP : Hid (plC c = false) := by show _ = _; unfold plC; simp; omega
    generalize plC c = P at *
    clear h
    go_enter Tryd.func28, Tryd.ntmps28
    go_wp2
    go_ret
    exact ⟨by rw [HP.out]; first | rfl | simp [f7, f8], rfl⟩
  · have f1 : ¬ ((97 : Int) ≤ (c : Int)) := by omega
    have f2 : ((c : Int) ≤ 122) := by omega
    have f3 : ((65 : Int) ≤ (c : Int)) := by omega
    have f4 : ((c : Int) ≤ 90) := by omega
    have f5 : ((48 : Int) ≤ (c : Int)) := by omega
    have f6 : ¬ ((c : Int) ≤ 57) := by omega
    have f7 : ¬ ((c : Int) = 95) := by omega
    have f8 : ¬ ((c : Int) = 45) := by omega
    have HP : Hid (plC c = true) := by show _ = _; unfold plC; simp; omega
    generalize plC c = P at *
    clear h
    go_enter Tryd.func28, Tryd.ntmps28
    go_wp2
    go_ret
    exact ⟨by rw [HP.out]; first | rfl | simp [f7, f8], rfl⟩
  · have f1 : ¬ ((97 : Int) ≤ (c : Int)) := by omega
    have f2 : ((c : Int) ≤ 122) := by omega
    have f3 : ((65 : Int) ≤ (c : Int)) := by omega
    have f4 : ¬ ((c : Int) ≤ 90) := by omega
    have f5 : ((48 : Int) ≤ (c : Int)) := by omega
    have f6 : ¬ ((c : Int) ≤ 57) := by omega
    have f7 : ¬ ((c : Int) = 95) := by omega
    have f8 : ¬ ((c : Int) = 45) := by omega
    have HP : Hid (plC c = false) := by show _ = _; unfold plC; simp; omega
    generalize plC c = P at *
    clear h
    go_enter Tryd.func28, Tryd.ntmps28
    go_wp2
    go_ret
    exact ⟨by rw [HP.out]; first | rfl | simp [f7, f8], rfl⟩
  · have f1 : ¬ ((97 : Int) ≤ (c : Int)) := by omega
    have f2 : ((c : Int) ≤ 122) := by omega
    have f3 : ((65 : Int) ≤ (c : Int)) := by omega
    have f4 : ¬ ((c : Int) ≤ 90) := by omega
    have f5 : ((48 : Int) ≤ (c : Int)) := by omega
    have f6 : ¬ ((c : Int) ≤ 57) := by omega
    have f7 : ((c : Int) = 95) := by omega
    have f8 : ¬ ((c : Int) = 45) := by omega
    have HP : Hid (plC c = true) := by show _ = _; unfold plC; simp; omega
    generalize plC c = P at *
    clear h
    go_enter Tryd.func28, Tryd.ntmps28
    go_wp2
    go_ret
    exact ⟨by rw [HP.out]; first | rfl | simp [f7, f8], rfl⟩
  · have f1 : ¬ ((97 : Int) ≤ (c : Int)) := by omega
    have f2 : ((c : Int) ≤ 122) := by omega
    have f3 : ((65 : Int) ≤ (c : Int)) := by omega
    have f4 : ¬ ((c : Int) ≤ 90) := by omega
    have f5 : ((48 : Int) ≤ (c : Int)) := by omega
    have f6 : ¬ ((c : Int) ≤ 57) := by omega
    have f7 : ¬ ((c : Int) = 95) := by omega
    have f8 : ¬ ((c : Int) = 45) := by omega
    have HP : Hid (plC c = false) := by show _ = _; unfold plC; simp; omega
    generalize plC c = P at *
    clear h
    go_enter Tryd.func28, Tryd.ntmps28
    go_wp2
    go_ret
    exact ⟨by rw [HP.out]; first | rfl | simp [f7, f8], rfl⟩
  · have f1 : ((97 : Int) ≤ (c : Int)) := by omega
    have f2 : ((c : Int) ≤ 122) := by omega
    have f3 : ((65 : Int) ≤ (c : Int)) := by omega
    have f4 : ¬ ((c : Int) ≤ 90) := by omega
    have f5 : ((48 : Int) ≤ (c : Int)) := by omega
    have f6 : ¬ ((c : Int) ≤ 57) := by omega
    have f7 : ¬ ((c : Int) = 95) := by omega
    have f8 : ¬ ((c : Int) = 45) := by omega
    have HP : Hid (plC c = true) := by show _ = _; unfold plC; simp; omega
    generalize plC c = P at *
    clear h
    go_enter Tryd.func28, Tryd.ntmps28
    go_wp2
    go_ret
    exact ⟨by rw [HP.out]; first | rfl | simp [f7, f8], rfl⟩
  · have f1 : ((97 : Int) ≤ (c : Int)) := by omega
    have f2 : ¬ ((c : Int) ≤ 122) := by omega
    have f3 : ((65 : Int) ≤ (c : Int)) := by omega
    have f4 : ¬ ((c : Int) ≤ 90) := by omega
    have f5 : ((48 : Int) ≤ (c : Int)) := by omega
    have f6 : ¬ ((c : Int) ≤ 57) := by omega
    have f7 : ¬ ((c : Int) = 95) := by omega
    have f8 : ¬ ((c : Int) = 45) := by omega
    have HP : Hid (plC c = false) := by show _ = _; unfold plC; simp; omega
    generalize plC c = P at *
    clear h
    go_enter Tryd.func28, Tryd.ntmps28
    go_wp2
    go_ret
    exact ⟨by rw [HP.out]; first | rfl | simp [f7, f8], rfl⟩
end Go.Proofs.YtgnichmemkglkaaDoor
