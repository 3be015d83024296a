import Derived.Test.YtdgbjmhmacgaaaaDoorCm
namespace Go.Proofs.YtdgbjmhmacgaaaaDoor
open Go.RowKit
set_option linter.unusedVariables false
set_option linter.unusedSimpArgs false

/-- The first of four numbers that is not 0. -/
def or4 (a b c d : Int) : Int := if a = 0 then (if b = 0 then (if c = 0 then d else c) else b) else a
def sel4 (a b c d : Int) (k : Nat) : Int := if k = 0 then a else if k = 1 then b else if k = 2 then c else d
set_option maxRecDepth 100000 in
set_option maxHeartbeats 1000000 in
theorem or_any (g : Nat) (a b c d : Int) (w : World) (t : TypeId) (fr : Nat × Nat) (hg : w.heap[g]? = some (.cells #[.int .i64 a, .int .i64 b, .int .i64 c, .int .i64 d] t fr)) :
    Calls Tryd.prog 28 #[.slice (some ⟨g, 0, none⟩) 4 4] w fun e w' => e = .returned (.int .i64 (or4 a b c d)) ∧ w' = w := by
  have HC : Hid (∀ k, k < 4 → w.cell? ⟨g, k, none⟩ = some (.int .i64 (sel4 a b c d k))) := fun k hk => by
    rw [cell_of_row w g k _ _ _ hg]
    rcases (show k = 0 ∨ k = 1 ∨ k = 2 ∨ k = 3 by omega) with rfl | rfl | rfl | rfl <;> rfl
  have HO : Hid (∀ k, k < 4 → (∀ j, j < k → sel4 a b c d j = 0) → sel4 a b c d k ≠ 0 → or4 a b c d = sel4 a b c d k) := fun k hk h1 h2 => by
    rcases (show k = 0 ∨ k = 1 ∨ k = 2 ∨ k = 3 by omega) with rfl | rfl | rfl | rfl
    · simp only [sel4, if_true] at h2 ⊢; unfold or4; rw [if_neg h2]
    · have := h1 0 (by omega)
      simp [sel4] at h2 this
      simp [or4, sel4, this, h2]
    · have := h1 0 (by omega)
      have := h1 1 (by omega)
      simp_all [or4, sel4]
    · have := h1 0 (by omega)
      have := h1 1 (by omega)
      have := h1 2 (by omega)
      simp_all [or4, sel4]
  have HZ : Hid ((∀ j, j < 4 → sel4 a b c d j = 0) → or4 a b c d = 0) := fun h => by
    have := h 0 (by omega)
    have := h 1 (by omega)
    have := h 2 (by omega)
    have := h 3 (by omega)
    simp_all [or4, sel4]
  generalize or4 a b c d = O at *
  clear hg
  go_enter Tryd.func28, Tryd.ntmps28
  go_wp2
  go_loopw [8] (fun i wr => ∃ k : Nat, k ≤ 4 ∧ i = .int .i64 k ∧ wr = w ∧ Hid (∀ j, j < k → sel4 a b c d j = 0)) (fun i _ => 4 - (intOf i).toNat)
  case atStart => exact ⟨0, by omega, rfl, rfl, fun j hj => by omega⟩
  case round =>
    obtain ⟨k, hk, rfl, rfl, hj⟩ := hrel
    by_cases h1 : k < 4
    · have h1' : (k : Int) < 4 := by omega
      have cx := HC.out k h1
      by_cases h0 : sel4 a b c d k = 0
      · have HN : Hid (∀ j, j < k + 1 → sel4 a b c d j = 0) := fun j hj2 => by
          rcases Nat.lt_or_ge j k with h | h
          · exact hj.out j h
          · have : j = k := by omega
            subst this; exact h0
        generalize sel4 a b c d k = X at cx h0
        subst h0
        go_wp2
        go_roundw
        case rel => exact ⟨k + 1, by omega, by go_num, by trivial, HN⟩
        case measure => simp [intOf]; omega
      · have eO : Hid (O = sel4 a b c d k) := HO.out k h1 hj.out h0
        generalize sel4 a b c d k = X at *
        go_wp2
        go_ret
        exact ⟨by rw [eO.out]; rfl, rfl⟩
    · have h1' : ¬ (k : Int) < 4 := by omega
      obtain rfl : k = 4 := by omega
      have eO : Hid (O = 0) := HZ.out hj.out
      clear HO HZ hj HC
      go_wp2
      go_ret
      exact ⟨by rw [eO.out]; rfl, rfl⟩
end Go.Proofs.YtdgbjmhmacgaaaaDoor
