import Derived.Test.YtdgbjmhmacgaaaaDoorSu
namespace Go.Proofs.YtdgbjmhmacgaaaaDoor
open Go.RowKit
set_option linter.unusedVariables false
set_option linter.unusedSimpArgs false

theorem bel_box2 (w : World) (c d : Array Value) (t u : TypeId) : Below w.heap.size w ((w.alloc (.cells c t)).alloc (.cells d u)) := ((Below.refl _ _).alloc (Nat.le_refl _) _).alloc (by simp) _
/-- Are two values the same, floats by their bits? -/
def sameB (k n : Int) (f : Nat) (s : ByteArray) (k' n' : Int) (f' : Nat) (s' : ByteArray) : Bool := decide (k = k') && decide (n = n') && decide (f = f') && (s.toList == s'.toList)
set_option maxRecDepth 100000 in
set_option maxHeartbeats 1000000 in
theorem same_any (k n : Int) (f : Nat) (s : ByteArray) (k' n' : Int) (f' : Nat) (s' : ByteArray) (w : World) :
    Calls Tryd.prog 22 #[.agg #[.int .u8 k, .int .i64 n, .float .f64 f, .string s], .agg #[.int .u8 k', .int .i64 n', .float .f64 f', .string s']] w fun e w' => e = .returned (.bool (sameB k n f s k' n' f' s')) ∧ Below w.heap.size w w' := by
  by_cases h1 : k = k'
  · subst h1
    by_cases h2 : n = n'
    · subst h2
      by_cases h3 : f = f'
      · subst h3
        go_enter Tryd.func22, Tryd.ntmps22
        go_wp2
        go_quiet (fail)
        go_wp2
        go_ret
        exact ⟨by simp [sameB], below_drewN (bel_box2 _ _ _ _ _) _⟩
      · have e3 : ((f : Int) == (f' : Int)) = false := beq_eq_false_iff_ne.2 (by omega)
        go_enter Tryd.func22, Tryd.ntmps22
        go_wp2
        go_quiet (fail)
        go_wp2
        go_ret
        exact ⟨by simp [sameB, h3], below_drewN (bel_box2 _ _ _ _ _) _⟩
    · have e2 : (n == n') = false := by simpa using h2
      go_enter Tryd.func22, Tryd.ntmps22
      go_wp2
      go_quiet (fail)
      go_wp2
      go_ret
      exact ⟨by simp [sameB, h2], below_drewN (bel_box2 _ _ _ _ _) _⟩
  · have e1 : (k == k') = false := by simpa using h1
    go_enter Tryd.func22, Tryd.ntmps22
    go_wp2
    go_quiet (fail)
    go_wp2
    go_ret
    exact ⟨by simp [sameB, h1], below_drewN (bel_box2 _ _ _ _ _) _⟩
end Go.Proofs.YtdgbjmhmacgaaaaDoor
