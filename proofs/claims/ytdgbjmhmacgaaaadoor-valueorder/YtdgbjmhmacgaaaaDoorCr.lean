import Derived.Test.YtdgbjmhmacgaaaaDoorCv
namespace Go.Proofs.YtdgbjmhmacgaaaaDoor
open Go.RowKit
set_option linter.unusedVariables false
set_option linter.unusedSimpArgs false

/-- What the document's Compare says of right values that are not the same. -/
def refN (k n : Int) (f : Nat) (s : ByteArray) (k' n' : Int) (f' : Nat) (s' : ByteArray) : Int :=
  if k ≠ k' then (if k < k' then -1 else 1) else if n < n' ∨ fkey f < fkey f' ∨ Op.bytesLess s.toList s'.toList = true then -1 else 1
/-- What the document's Compare says. -/
def refV (k n : Int) (f : Nat) (s : ByteArray) (k' n' : Int) (f' : Nat) (s' : ByteArray) : Int :=
  if rightV k n f s = true ∧ rightV k' n' f' s' = true ∧ sameB k n f s k' n' f' s' = false then refN k n f s k' n' f' s' else 0

set_option maxRecDepth 100000 in
set_option maxHeartbeats 8000000 in
theorem rcompare_any (k n : Int) (f : Nat) (s : ByteArray) (k' n' : Int) (f' : Nat) (s' : ByteArray) (w : World) (hk : 0 ≤ k) (hf : f < 18446744073709551616) (hs : s.size ≤ 9223372036854775807) (hk' : 0 ≤ k') (hf' : f' < 18446744073709551616) (hs' : s'.size ≤ 9223372036854775807) :
    Calls Tryd.prog 14 #[.agg #[.int .u8 k, .int .i64 n, .float .f64 f, .string s], .agg #[.int .u8 k', .int .i64 n', .float .f64 f', .string s']] w fun e w' => e = .returned (.int .i64 (refV k n f s k' n' f' s')) ∧ Below w.heap.size w w' := by
  have bx := bel_box2 w #[.int .u8 k, .int .i64 n, .float .f64 f, .string s] #[.int .u8 k', .int .i64 n', .float .f64 f', .string s'] 25 25
  have zW : w.heap.size + 1 < ((w.alloc (.cells #[.int .u8 k, .int .i64 n, .float .f64 f, .string s] 25)).alloc (.cells #[.int .u8 k', .int .i64 n', .float .f64 f', .string s'] 25)).heap.size := by simp
  have hB := boxes_new w k n f s k' n' f' s'
  have RA : Hid (∀ wx, Below ((w.alloc (.cells #[.int .u8 k, .int .i64 n, .float .f64 f, .string s] 25)).alloc (.cells #[.int .u8 k', .int .i64 n', .float .f64 f', .string s'] 25)).heap.size ((w.alloc (.cells #[.int .u8 k, .int .i64 n, .float .f64 f, .string s] 25)).alloc (.cells #[.int .u8 k', .int .i64 n', .float .f64 f', .string s'] 25)) wx → Calls Tryd.prog 27 #[.agg #[.int .u8 k, .int .i64 n, .float .f64 f, .string s]] wx fun e w' => e = .returned (.bool (rightV k n f s)) ∧ Below ((w.alloc (.cells #[.int .u8 k, .int .i64 n, .float .f64 f, .string s] 25)).alloc (.cells #[.int .u8 k', .int .i64 n', .float .f64 f', .string s'] 25)).heap.size ((w.alloc (.cells #[.int .u8 k, .int .i64 n, .float .f64 f, .string s] 25)).alloc (.cells #[.int .u8 k', .int .i64 n', .float .f64 f', .string s'] 25)) w') := fun wx hx => (right27_any k n f s wx hk hf hs).mono fun e w' h => ⟨h.1, hx.trans (h.2.mono hx.size)⟩
  have RB : Hid (∀ wx, Below ((w.alloc (.cells #[.int .u8 k, .int .i64 n, .float .f64 f, .string s] 25)).alloc (.cells #[.int .u8 k', .int .i64 n', .float .f64 f', .string s'] 25)).heap.size ((w.alloc (.cells #[.int .u8 k, .int .i64 n, .float .f64 f, .string s] 25)).alloc (.cells #[.int .u8 k', .int .i64 n', .float .f64 f', .string s'] 25)) wx → Calls Tryd.prog 27 #[.agg #[.int .u8 k', .int .i64 n', .float .f64 f', .string s']] wx fun e w' => e = .returned (.bool (rightV k' n' f' s')) ∧ Below ((w.alloc (.cells #[.int .u8 k, .int .i64 n, .float .f64 f, .string s] 25)).alloc (.cells #[.int .u8 k', .int .i64 n', .float .f64 f', .string s'] 25)).heap.size ((w.alloc (.cells #[.int .u8 k, .int .i64 n, .float .f64 f, .string s] 25)).alloc (.cells #[.int .u8 k', .int .i64 n', .float .f64 f', .string s'] 25)) w') := fun wx hx => (right27_any k' n' f' s' wx hk' hf' hs').mono fun e w' h => ⟨h.1, hx.trans (h.2.mono hx.size)⟩
  have RS : Hid (∀ wx, Below ((w.alloc (.cells #[.int .u8 k, .int .i64 n, .float .f64 f, .string s] 25)).alloc (.cells #[.int .u8 k', .int .i64 n', .float .f64 f', .string s'] 25)).heap.size ((w.alloc (.cells #[.int .u8 k, .int .i64 n, .float .f64 f, .string s] 25)).alloc (.cells #[.int .u8 k', .int .i64 n', .float .f64 f', .string s'] 25)) wx → Calls Tryd.prog 22 #[.agg #[.int .u8 k, .int .i64 n, .float .f64 f, .string s], .agg #[.int .u8 k', .int .i64 n', .float .f64 f', .string s']] wx fun e w' => e = .returned (.bool (sameB k n f s k' n' f' s')) ∧ Below ((w.alloc (.cells #[.int .u8 k, .int .i64 n, .float .f64 f, .string s] 25)).alloc (.cells #[.int .u8 k', .int .i64 n', .float .f64 f', .string s'] 25)).heap.size ((w.alloc (.cells #[.int .u8 k, .int .i64 n, .float .f64 f, .string s] 25)).alloc (.cells #[.int .u8 k', .int .i64 n', .float .f64 f', .string s'] 25)) w') := fun wx hx => (same_any k n f s k' n' f' s' wx).mono fun e w' h => ⟨h.1, hx.trans (h.2.mono hx.size)⟩
  have eC : Hid (refV k n f s k' n' f' s' = if rightV k n f s = true ∧ rightV k' n' f' s' = true ∧ sameB k n f s k' n' f' s' = false then refN k n f s k' n' f' s' else 0) := rfl
  have F1 : Hid (rightV k n f s = true → ffin f) := right_fin
  have F2 : Hid (rightV k' n' f' s' = true → ffin f') := right_fin
  generalize rightV k n f s = V1 at *
  generalize rightV k' n' f' s' = V2 at *
  generalize sameB k n f s k' n' f' s' = V3 at *
  rw [eC.out]
  clear eC hf hs hf' hs'
  cases V1 with
  | false =>
    rw [if_neg (by simp)]
    go_enter Tryd.func14, Tryd.ntmps14
    go_wp2_with fail
    refine (RA.out _ (Below.refl _ _)).mono ?_
    rintro e w1 ⟨rfl, b1⟩
    clear RA RB RS F1 F2
    go_wp2
    go_ret
    exact ⟨rfl, bx.trans (b1.mono (by simp; omega))⟩
  | true =>
    cases V2 with
    | false =>
      rw [if_neg (by simp)]
      go_enter Tryd.func14, Tryd.ntmps14
      go_wp2_with fail
      refine (RA.out _ (Below.refl _ _)).mono ?_
      rintro e w1 ⟨rfl, b1⟩
      obtain ⟨a0, a1, a2, a3, e0, e1, e2, e3⟩ := (hB.below zW b1).all
      go_wp2_with fail
      refine (RB.out _ b1).mono ?_
      rintro e w2 ⟨rfl, b2⟩
      clear RA RB RS F1 F2
      go_wp2
      go_ret
      exact ⟨rfl, bx.trans (b2.mono (by simp; omega))⟩
    | true =>
      have ff := F1.out rfl
      have ff' := F2.out rfl
      clear F1 F2
      cases V3 with
      | true =>
        rw [if_neg (by simp)]
        go_enter Tryd.func14, Tryd.ntmps14
        go_wp2_with fail
        refine (RA.out _ (Below.refl _ _)).mono ?_
        rintro e w1 ⟨rfl, b1⟩
        obtain ⟨a0, a1, a2, a3, e0, e1, e2, e3⟩ := (hB.below zW b1).all
        go_wp2_with fail
        refine (RB.out _ b1).mono ?_
        rintro e w2 ⟨rfl, b2⟩
        clear a0 a1 a2 a3 e0 e1 e2 e3
        obtain ⟨a0, a1, a2, a3, e0, e1, e2, e3⟩ := (hB.below zW b2).all
        go_wp2_with fail
        refine (RS.out _ b2).mono ?_
        rintro e w3 ⟨rfl, b3⟩
        clear RA RB RS
        go_wp2
        go_ret
        exact ⟨rfl, bx.trans (b3.mono (by simp; omega))⟩
      | false =>
        rw [if_pos (by simp)]
        have e1' : (FloatKind.f64.format.order f f' == some .lt) = decide (fkey f < fkey f') := ford_lt f f' ff ff'
        obtain ⟨rr, hrr⟩ : ∃ r, refN k n f s k' n' f' s' = r := ⟨_, rfl⟩
        rw [hrr]
        unfold refN at hrr
        generalize fkey f = x at *
        generalize fkey f' = y at *
        clear ff ff'
        rcases (show k < k' ∨ k' < k ∨ k = k' by omega) with h | h | h
        · obtain rfl : rr = -1 := by rw [← hrr, if_pos (by omega), if_pos h]
          have q1 : (k != k') = true := by simp; omega
          clear hrr
          go_enter Tryd.func14, Tryd.ntmps14
          go_wp2_with fail
          refine (RA.out _ (Below.refl _ _)).mono ?_
          rintro e w1 ⟨rfl, b1⟩
          obtain ⟨a0, a1, a2, a3, e0, e1, e2, e3⟩ := (hB.below zW b1).all
          go_wp2_with fail
          refine (RB.out _ b1).mono ?_
          rintro e w2 ⟨rfl, b2⟩
          clear a0 a1 a2 a3 e0 e1 e2 e3
          obtain ⟨a0, a1, a2, a3, e0, e1, e2, e3⟩ := (hB.below zW b2).all
          go_wp2_with fail
          refine (RS.out _ b2).mono ?_
          rintro e w3 ⟨rfl, b3⟩
          clear a0 a1 a2 a3 e0 e1 e2 e3
          obtain ⟨a0, a1, a2, a3, e0, e1, e2, e3⟩ := (hB.below zW b3).all
          clear RA RB RS
          go_wp2
          go_ret
          exact ⟨rfl, bx.trans (b3.mono (by simp; omega))⟩
        · obtain rfl : rr = 1 := by rw [← hrr, if_pos (by omega), if_neg (by omega)]
          have q1 : (k != k') = true := by simp; omega
          have q2 : ¬ k < k' := by omega
          clear hrr
          go_enter Tryd.func14, Tryd.ntmps14
          go_wp2_with fail
          refine (RA.out _ (Below.refl _ _)).mono ?_
          rintro e w1 ⟨rfl, b1⟩
          obtain ⟨a0, a1, a2, a3, e0, e1, e2, e3⟩ := (hB.below zW b1).all
          go_wp2_with fail
          refine (RB.out _ b1).mono ?_
          rintro e w2 ⟨rfl, b2⟩
          clear a0 a1 a2 a3 e0 e1 e2 e3
          obtain ⟨a0, a1, a2, a3, e0, e1, e2, e3⟩ := (hB.below zW b2).all
          go_wp2_with fail
          refine (RS.out _ b2).mono ?_
          rintro e w3 ⟨rfl, b3⟩
          clear a0 a1 a2 a3 e0 e1 e2 e3
          obtain ⟨a0, a1, a2, a3, e0, e1, e2, e3⟩ := (hB.below zW b3).all
          clear RA RB RS
          go_wp2
          go_ret
          exact ⟨rfl, bx.trans (b3.mono (by simp; omega))⟩
        · subst h
          rw [if_neg (by simp)] at hrr
          by_cases h1 : n < n'
          · obtain rfl : rr = -1 := by rw [← hrr, if_pos (.inl h1)]
            clear hrr
            go_enter Tryd.func14, Tryd.ntmps14
            go_wp2_with fail
            refine (RA.out _ (Below.refl _ _)).mono ?_
            rintro e w1 ⟨rfl, b1⟩
            obtain ⟨a0, a1, a2, a3, e0, e1, e2, e3⟩ := (hB.below zW b1).all
            go_wp2_with fail
            refine (RB.out _ b1).mono ?_
            rintro e w2 ⟨rfl, b2⟩
            clear a0 a1 a2 a3 e0 e1 e2 e3
            obtain ⟨a0, a1, a2, a3, e0, e1, e2, e3⟩ := (hB.below zW b2).all
            go_wp2_with fail
            refine (RS.out _ b2).mono ?_
            rintro e w3 ⟨rfl, b3⟩
            clear a0 a1 a2 a3 e0 e1 e2 e3
            obtain ⟨a0, a1, a2, a3, e0, e1, e2, e3⟩ := (hB.below zW b3).all
            clear RA RB RS
            go_wp2
            go_ret
            exact ⟨rfl, bx.trans (b3.mono (by simp; omega))⟩
          · by_cases h2 : x < y
            · obtain rfl : rr = -1 := by rw [← hrr, if_pos (.inr (.inl h2))]
              rw [decide_eq_true h2] at e1'
              clear hrr
              go_enter Tryd.func14, Tryd.ntmps14
              go_wp2_with fail
              refine (RA.out _ (Below.refl _ _)).mono ?_
              rintro e w1 ⟨rfl, b1⟩
              obtain ⟨a0, a1, a2, a3, e0, e1, e2, e3⟩ := (hB.below zW b1).all
              go_wp2_with fail
              refine (RB.out _ b1).mono ?_
              rintro e w2 ⟨rfl, b2⟩
              clear a0 a1 a2 a3 e0 e1 e2 e3
              obtain ⟨a0, a1, a2, a3, e0, e1, e2, e3⟩ := (hB.below zW b2).all
              go_wp2_with fail
              refine (RS.out _ b2).mono ?_
              rintro e w3 ⟨rfl, b3⟩
              clear a0 a1 a2 a3 e0 e1 e2 e3
              obtain ⟨a0, a1, a2, a3, e0, e1, e2, e3⟩ := (hB.below zW b3).all
              clear RA RB RS
              go_wp2
              go_ret
              exact ⟨rfl, bx.trans (b3.mono (by simp; omega))⟩
            · rw [decide_eq_false h2] at e1'
              by_cases h3 : Op.bytesLess s.toList s'.toList = true
              · obtain rfl : rr = -1 := by rw [← hrr, if_pos (.inr (.inr h3))]
                clear hrr
                go_enter Tryd.func14, Tryd.ntmps14
                go_wp2_with fail
                refine (RA.out _ (Below.refl _ _)).mono ?_
                rintro e w1 ⟨rfl, b1⟩
                obtain ⟨a0, a1, a2, a3, e0, e1, e2, e3⟩ := (hB.below zW b1).all
                go_wp2_with fail
                refine (RB.out _ b1).mono ?_
                rintro e w2 ⟨rfl, b2⟩
                clear a0 a1 a2 a3 e0 e1 e2 e3
                obtain ⟨a0, a1, a2, a3, e0, e1, e2, e3⟩ := (hB.below zW b2).all
                go_wp2_with fail
                refine (RS.out _ b2).mono ?_
                rintro e w3 ⟨rfl, b3⟩
                clear a0 a1 a2 a3 e0 e1 e2 e3
                obtain ⟨a0, a1, a2, a3, e0, e1, e2, e3⟩ := (hB.below zW b3).all
                clear RA RB RS
                go_wp2
                go_ret
                exact ⟨rfl, bx.trans (b3.mono (by simp; omega))⟩
              · obtain rfl : rr = 1 := by rw [← hrr, if_neg (by intro h; rcases h with h | h | h; exact h1 h; exact h2 h; exact h3 h)]
                have h3' : Op.bytesLess s.toList s'.toList = false := by simpa using h3
                clear hrr
                go_enter Tryd.func14, Tryd.ntmps14
                go_wp2_with fail
                refine (RA.out _ (Below.refl _ _)).mono ?_
                rintro e w1 ⟨rfl, b1⟩
                obtain ⟨a0, a1, a2, a3, e0, e1, e2, e3⟩ := (hB.below zW b1).all
                go_wp2_with fail
                refine (RB.out _ b1).mono ?_
                rintro e w2 ⟨rfl, b2⟩
                clear a0 a1 a2 a3 e0 e1 e2 e3
                obtain ⟨a0, a1, a2, a3, e0, e1, e2, e3⟩ := (hB.below zW b2).all
                go_wp2_with fail
                refine (RS.out _ b2).mono ?_
                rintro e w3 ⟨rfl, b3⟩
                clear a0 a1 a2 a3 e0 e1 e2 e3
                obtain ⟨a0, a1, a2, a3, e0, e1, e2, e3⟩ := (hB.below zW b3).all
                clear RA RB RS
                go_wp2
                go_ret
                exact ⟨rfl, bx.trans (b3.mono (by simp; omega))⟩
end Go.Proofs.YtdgbjmhmacgaaaaDoor
