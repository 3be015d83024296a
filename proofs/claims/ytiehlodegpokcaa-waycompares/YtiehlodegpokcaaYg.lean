import Derived.Test.YtiehlodegpokcaaYf
namespace Go.Proofs.Ytiehlodegpokcaa
open Go.RowKit
set_option linter.unusedVariables false
set_option linter.unusedSimpArgs false

/-- What the order asks of three ways. -/
theorem order_facts (x y z : List St) : cL y x = - cL x y ∧ ¬ (cL x y ≤ 0 ∧ cL y z ≤ 0 ∧ 0 < cL x z) ∧ ¬ (cL x y < 0 ∧ cL y z ≤ 0 ∧ 0 ≤ cL x z) ∧ (stB x y = true → cL y x ≤ 0 ∧ y.length ≤ x.length) := by
  refine ⟨cL_anti x y, fun ⟨h1, h2, h3⟩ => ?_, fun ⟨h1, h2, h3⟩ => ?_, fun h => ?_⟩
  · have := (cL_le x y z h1 h2).1
    omega
  · have := (cL_le x y z (by omega) h2).2 (.inl h1)
    omega
  · unfold stB at h
    simp only [Bool.and_eq_true, decide_eq_true_eq] at h
    obtain ⟨h1, h2⟩ := h
    have e := cL_zero.1 h2
    refine ⟨?_, h1⟩
    have q := cL_pre y (x.drop y.length)
    rw [← e, List.length_take, Nat.min_eq_left h1, List.take_append_drop] at q
    rw [← e]
    exact q
set_option maxRecDepth 100000 in
set_option maxHeartbeats 8000000 in
theorem order_all (a b c : Option Addr) (x y z : List St) (c1 c2 c3 : Nat) (w : World) (ha : Sts w a x) (hb : Sts w b y) (hc : Sts w c z) (h1 : x.length ≤ c1) (hx : x.length ≤ 140737488355328) (hy : y.length ≤ 140737488355328) (hz : z.length ≤ 140737488355328) :
    Calls Try.prog 4 #[.slice a x.length c1, .slice b y.length c2, .slice c z.length c3] w fun e w' => e = .returned (.bool true) ∧ Below w.heap.size w w' := by
  obtain ⟨f1, f2, f3, f4⟩ := order_facts x y z
  have bd := cL_bd x y
  have CX : Hid (∀ wx, Below w.heap.size w wx → Calls Try.prog 6 #[.slice a x.length c1, .slice b y.length c2] wx fun e w' => e = .returned (.int .i64 (cL x y)) ∧ Below w.heap.size w w') := fun wx h => (compare_any a b x y c1 c2 wx (ha.below h) (hb.below h) hx hy).mono fun e w' k => ⟨k.1, h.trans (k.2.mono h.size)⟩
  have CY : Hid (∀ wx, Below w.heap.size w wx → Calls Try.prog 6 #[.slice b y.length c2, .slice c z.length c3] wx fun e w' => e = .returned (.int .i64 (cL y z)) ∧ Below w.heap.size w w') := fun wx h => (compare_any b c y z c2 c3 wx (hb.below h) (hc.below h) hy hz).mono fun e w' k => ⟨k.1, h.trans (k.2.mono h.size)⟩
  have CZ : Hid (∀ wx, Below w.heap.size w wx → Calls Try.prog 6 #[.slice a x.length c1, .slice c z.length c3] wx fun e w' => e = .returned (.int .i64 (cL x z)) ∧ Below w.heap.size w w') := fun wx h => (compare_any a c x z c1 c3 wx (ha.below h) (hc.below h) hx hz).mono fun e w' k => ⟨k.1, h.trans (k.2.mono h.size)⟩
  have CN : Hid (∀ wx, Below w.heap.size w wx → Calls Try.prog 6 #[.slice b y.length c2, .slice a x.length c1] wx fun e w' => e = .returned (.int .i64 (cL y x)) ∧ Below w.heap.size w w') := fun wx h => (compare_any b a y x c2 c1 wx (hb.below h) (ha.below h) hy hx).mono fun e w' k => ⟨k.1, h.trans (k.2.mono h.size)⟩
  have CS : Hid (∀ wx, Below w.heap.size w wx → Calls Try.prog 10 #[.slice a x.length c1, .slice b y.length c2] wx fun e w' => e = .returned (.bool (decide (cL x y = 0))) ∧ Below w.heap.size w w') := fun wx h => (same_any a b x y c1 c2 wx (ha.below h) (hb.below h) hx hy).mono fun e w' k => ⟨k.1, h.trans (k.2.mono h.size)⟩
  have CT : Hid (∀ wx, Below w.heap.size w wx → Calls Try.prog 8 #[.slice a x.length c1, .slice b y.length c2] wx fun e w' => e = .returned (.bool (stB x y)) ∧ Below w.heap.size w w') := fun wx h => (starts_any a b x y c1 c2 wx (ha.below h) (hb.below h) h1 hx hy).mono fun e w' k => ⟨k.1, h.trans (k.2.mono h.size)⟩
  rw [f1] at CN f4
  clear f1 ha hb hc
  generalize stB x y = B at *
  generalize cL x y = X at *
  generalize cL y z = Y at *
  generalize cL x z = Z at *
  generalize x.length = n at *
  generalize y.length = q at *
  generalize z.length = r at *
  rcases (show X = -1 ∨ X = 0 ∨ X = 1 by omega) with rfl | rfl | rfl
  · rw [show decide ((-1 : Int) = 0) = false from rfl] at CS
    rw [show -(-1 : Int) = 1 from rfl] at CN f4
    by_cases hY : Y ≤ 0
    · have hZ1 : ¬ 0 < Z := fun h => f2 ⟨by omega, hY, h⟩
      have hZ2 : ¬ 0 ≤ Z := fun h => f3 ⟨by omega, hY, h⟩
      cases B with
      | true => exact absurd (f4 rfl).1 (by omega)
      | false =>
        clear f2 f3 f4 bd
        go_enter Try.func4, Try.ntmps4
        go_wp2_with fail
        refine (CX.out _ (Below.refl _ _)).mono ?_
        rintro e w1 ⟨rfl, b1⟩
        go_wp2_with fail
        refine (CY.out _ b1).mono ?_
        rintro e w2 ⟨rfl, b2⟩
        go_wp2_with fail
        refine (CZ.out _ b2).mono ?_
        rintro e w3 ⟨rfl, b3⟩
        go_wp2_with fail
        refine (CN.out _ b3).mono ?_
        rintro e w4 ⟨rfl, b4⟩
        go_wp2_with fail
        refine (CS.out _ b4).mono ?_
        rintro e w5 ⟨rfl, b5⟩
        go_wp2_with fail
        refine (CT.out _ b5).mono ?_
        rintro e w6 ⟨rfl, b6⟩
        go_wp2
        go_ret
        exact ⟨rfl, b6⟩
    · skip
      cases B with
      | true => exact absurd (f4 rfl).1 (by omega)
      | false =>
        clear f2 f3 f4 bd
        go_enter Try.func4, Try.ntmps4
        go_wp2_with fail
        refine (CX.out _ (Below.refl _ _)).mono ?_
        rintro e w1 ⟨rfl, b1⟩
        go_wp2_with fail
        refine (CY.out _ b1).mono ?_
        rintro e w2 ⟨rfl, b2⟩
        go_wp2_with fail
        refine (CZ.out _ b2).mono ?_
        rintro e w3 ⟨rfl, b3⟩
        go_wp2_with fail
        refine (CN.out _ b3).mono ?_
        rintro e w4 ⟨rfl, b4⟩
        go_wp2_with fail
        refine (CS.out _ b4).mono ?_
        rintro e w5 ⟨rfl, b5⟩
        go_wp2_with fail
        refine (CT.out _ b5).mono ?_
        rintro e w6 ⟨rfl, b6⟩
        go_wp2
        go_ret
        exact ⟨rfl, b6⟩
  · rw [show decide ((0 : Int) = 0) = true from rfl] at CS
    rw [show -(0 : Int) = 0 from rfl] at CN f4
    by_cases hY : Y ≤ 0
    · have hZ1 : ¬ 0 < Z := fun h => f2 ⟨by omega, hY, h⟩
      cases B with
      | true =>
        have hlen : (q : Int) ≤ (n : Int) := by have := (f4 rfl).2; omega
        clear f2 f3 f4 bd
        go_enter Try.func4, Try.ntmps4
        go_wp2_with fail
        refine (CX.out _ (Below.refl _ _)).mono ?_
        rintro e w1 ⟨rfl, b1⟩
        go_wp2_with fail
        refine (CY.out _ b1).mono ?_
        rintro e w2 ⟨rfl, b2⟩
        go_wp2_with fail
        refine (CZ.out _ b2).mono ?_
        rintro e w3 ⟨rfl, b3⟩
        go_wp2_with fail
        refine (CN.out _ b3).mono ?_
        rintro e w4 ⟨rfl, b4⟩
        go_wp2_with fail
        refine (CS.out _ b4).mono ?_
        rintro e w5 ⟨rfl, b5⟩
        go_wp2_with fail
        refine (CT.out _ b5).mono ?_
        rintro e w6 ⟨rfl, b6⟩
        go_wp2_with fail
        refine (CN.out _ b6).mono ?_
        rintro e w7 ⟨rfl, b7⟩
        go_wp2
        go_ret
        exact ⟨rfl, b7⟩
      | false =>
        clear f2 f3 f4 bd
        go_enter Try.func4, Try.ntmps4
        go_wp2_with fail
        refine (CX.out _ (Below.refl _ _)).mono ?_
        rintro e w1 ⟨rfl, b1⟩
        go_wp2_with fail
        refine (CY.out _ b1).mono ?_
        rintro e w2 ⟨rfl, b2⟩
        go_wp2_with fail
        refine (CZ.out _ b2).mono ?_
        rintro e w3 ⟨rfl, b3⟩
        go_wp2_with fail
        refine (CN.out _ b3).mono ?_
        rintro e w4 ⟨rfl, b4⟩
        go_wp2_with fail
        refine (CS.out _ b4).mono ?_
        rintro e w5 ⟨rfl, b5⟩
        go_wp2_with fail
        refine (CT.out _ b5).mono ?_
        rintro e w6 ⟨rfl, b6⟩
        go_wp2
        go_ret
        exact ⟨rfl, b6⟩
    · skip
      cases B with
      | true =>
        have hlen : (q : Int) ≤ (n : Int) := by have := (f4 rfl).2; omega
        clear f2 f3 f4 bd
        go_enter Try.func4, Try.ntmps4
        go_wp2_with fail
        refine (CX.out _ (Below.refl _ _)).mono ?_
        rintro e w1 ⟨rfl, b1⟩
        go_wp2_with fail
        refine (CY.out _ b1).mono ?_
        rintro e w2 ⟨rfl, b2⟩
        go_wp2_with fail
        refine (CZ.out _ b2).mono ?_
        rintro e w3 ⟨rfl, b3⟩
        go_wp2_with fail
        refine (CN.out _ b3).mono ?_
        rintro e w4 ⟨rfl, b4⟩
        go_wp2_with fail
        refine (CS.out _ b4).mono ?_
        rintro e w5 ⟨rfl, b5⟩
        go_wp2_with fail
        refine (CT.out _ b5).mono ?_
        rintro e w6 ⟨rfl, b6⟩
        go_wp2_with fail
        refine (CN.out _ b6).mono ?_
        rintro e w7 ⟨rfl, b7⟩
        go_wp2
        go_ret
        exact ⟨rfl, b7⟩
      | false =>
        clear f2 f3 f4 bd
        go_enter Try.func4, Try.ntmps4
        go_wp2_with fail
        refine (CX.out _ (Below.refl _ _)).mono ?_
        rintro e w1 ⟨rfl, b1⟩
        go_wp2_with fail
        refine (CY.out _ b1).mono ?_
        rintro e w2 ⟨rfl, b2⟩
        go_wp2_with fail
        refine (CZ.out _ b2).mono ?_
        rintro e w3 ⟨rfl, b3⟩
        go_wp2_with fail
        refine (CN.out _ b3).mono ?_
        rintro e w4 ⟨rfl, b4⟩
        go_wp2_with fail
        refine (CS.out _ b4).mono ?_
        rintro e w5 ⟨rfl, b5⟩
        go_wp2_with fail
        refine (CT.out _ b5).mono ?_
        rintro e w6 ⟨rfl, b6⟩
        go_wp2
        go_ret
        exact ⟨rfl, b6⟩
  · rw [show decide ((1 : Int) = 0) = false from rfl] at CS
    rw [show -(1 : Int) = -1 from rfl] at CN f4
    cases B with
    | true =>
      have hlen : (q : Int) ≤ (n : Int) := by have := (f4 rfl).2; omega
      clear f2 f3 f4 bd
      go_enter Try.func4, Try.ntmps4
      go_wp2_with fail
      refine (CX.out _ (Below.refl _ _)).mono ?_
      rintro e w1 ⟨rfl, b1⟩
      go_wp2_with fail
      refine (CY.out _ b1).mono ?_
      rintro e w2 ⟨rfl, b2⟩
      go_wp2_with fail
      refine (CZ.out _ b2).mono ?_
      rintro e w3 ⟨rfl, b3⟩
      go_wp2_with fail
      refine (CN.out _ b3).mono ?_
      rintro e w4 ⟨rfl, b4⟩
      go_wp2_with fail
      refine (CS.out _ b4).mono ?_
      rintro e w5 ⟨rfl, b5⟩
      go_wp2_with fail
      refine (CT.out _ b5).mono ?_
      rintro e w6 ⟨rfl, b6⟩
      go_wp2_with fail
      refine (CN.out _ b6).mono ?_
      rintro e w7 ⟨rfl, b7⟩
      go_wp2
      go_ret
      exact ⟨rfl, b7⟩
    | false =>
      clear f2 f3 f4 bd
      go_enter Try.func4, Try.ntmps4
      go_wp2_with fail
      refine (CX.out _ (Below.refl _ _)).mono ?_
      rintro e w1 ⟨rfl, b1⟩
      go_wp2_with fail
      refine (CY.out _ b1).mono ?_
      rintro e w2 ⟨rfl, b2⟩
      go_wp2_with fail
      refine (CZ.out _ b2).mono ?_
      rintro e w3 ⟨rfl, b3⟩
      go_wp2_with fail
      refine (CN.out _ b3).mono ?_
      rintro e w4 ⟨rfl, b4⟩
      go_wp2_with fail
      refine (CS.out _ b4).mono ?_
      rintro e w5 ⟨rfl, b5⟩
      go_wp2_with fail
      refine (CT.out _ b5).mono ?_
      rintro e w6 ⟨rfl, b6⟩
      go_wp2
      go_ret
      exact ⟨rfl, b6⟩
end Go.Proofs.Ytiehlodegpokcaa
