import Derived.Test.YtklliihdbkoooaaOl
import Derived.Deep.Quiet
import Derived.Deep.QuietTactic
import Derived.Deep.RegionWith
namespace Go.Proofs.Ytklliihdbkoooaa
open Go.ChangeShapes Go.WideShapes Go.ChangeAt Go.RowKit
set_option linter.unusedVariables false

set_option maxHeartbeats 400000 in
theorem limits_any (n : Int) (w : World) :
    Calls Try.prog 4 #[.int .i64 n] w fun e w' => e = .returned (.bool true) ∧ Below w.heap.size w w' := by
  by_cases hn : n < 0 ∨ 256 < n
  · have H : Calls Try.prog 10 #[.int .i64 n] w fun e w' => e = .returned (.tuple #[.pointer none, .int .i64 2]) ∧ Below w.heap.size w w' :=
      (new_any n w).mono fun e w' ⟨h, b⟩ => ⟨by simpa [newOut, hn] using h, b⟩
    rcases hn with h1 | h2
    · have h3 : ¬ n ≥ 0 := by omega
      go_enter Try.func4, Try.ntmps4
      go_wp2_with (go_at_call 10; refine H.mono ?_; rintro e w' ⟨rfl, bel⟩)
      go_ret
      exact ⟨rfl, bel⟩
    · have h3 : n ≥ 0 := by omega
      have h4 : ¬ n ≤ 256 := by omega
      go_enter Try.func4, Try.ntmps4
      go_wp2_with (go_at_call 10; refine H.mono ?_; rintro e w' ⟨rfl, bel⟩)
      go_ret
      exact ⟨by simp [h4], bel⟩
  · have H : Calls Try.prog 10 #[.int .i64 n] w fun e w' => (∃ p, e = .returned (.tuple #[.pointer (some p), .int .i64 0])) ∧ Below w.heap.size w w' :=
      (new_any n w).mono fun e w' ⟨h, b⟩ => ⟨by simpa [newOut, hn] using h, b⟩
    have h3 : n ≥ 0 := by omega
    have h4 : n ≤ 256 := by omega
    clear hn
    go_enter Try.func4, Try.ntmps4
    go_wp2_with (go_at_call 10; refine H.mono ?_; rintro e w' ⟨⟨p, rfl⟩, bel⟩)
    go_ret
    exact ⟨rfl, bel⟩

set_option maxRecDepth 100000 in
theorem limits_lifted (os : Os) (started : os.Started) (H : Type) (enc : TypeId × Value → H) :
    ReturnsInHanded {} Try.checked os 4 .any (Rows.orphansLimitsSpec.pre6 enc Try.prog Try.f4 Rows.orphansLimitsRow.domain false) (Rows.orphansLimitsSpec.post enc Try.prog Try.f4 false true false false) := by
  refine returnsInHanded_of_change (C := Try.checked) own started (by kernel_rfl) Try.func4
    (ChangeSpec.witness6 (enc := enc) (C := Try.checked) false ⟨#[], #[.int .i64 0], []⟩ 8 (by kernel_rfl) (by kernel_rfl) (by kernel_rfl) (by kernel_rfl)) ?_
  intro W base args ds gs before hval0 hW hcnd _
  have hval : ∀ (j : Nat) t v, Try.f4.params[j]? = some t → args[j]? = some v → Value.okWide Try.prog W .any base t v := hval0
  have hW' := hW
  obtain ⟨p, q, hA0, hV, rfl, hfz, hnd⟩ := hW
  have hA : DataW.TrodAll enc Try.prog W 0 (fun _ => true) true Try.f4.params.toList args.toList ds p := hA0
  rw [Try.params4] at hA hval
  obtain ⟨v0, vs0, d0, ds0, p0, q0, hargs, rfl, rfl, h0, r0⟩ := trodAll_cons hA
  obtain ⟨rfl, rfl, rfl⟩ := trodAll_nil r0
  obtain rfl : args = #[v0] := by cases args; simp_all
  obtain ⟨rfl, rfl⟩ := trodVars_none hV
  obtain ⟨a, rfl, rfl, rfl, wa⟩ := open_int Try.underlying3 (hval 0 3 v0 rfl rfl) h0
  clear hA0 hval0
  refine (limits_any a W).mono fun e W' ⟨he, bel⟩ => ?_
  subst he
  exact ⟨_, rfl, _, _, _, [], _, [], hW', trodAll_mk1 (shut_bool Try.underlying4 _), trodAll_mk1 (shut_int Try.underlying3 wa), rfl, bel.frame _, fun h => by cases h⟩

theorem orphansLimits_holds : Rows.OrphansLimitsSaid :=
  OpenClaim.holds_of_wide 4 Try.f4 rfl rfl rfl rfl rfl rfl rfl ⟨rfl, rfl, rfl, rfl, rfl⟩ rfl rfl rfl rfl rfl (by kernel_rfl) Try.func4 (by kernel_rfl)
    (of_decide_eq_true (by kernel_rfl)) (by unfold Func.isWrapper; first | (rw [if_pos (by decide +kernel)]; kernel_rfl) | (rw [if_neg (by decide +kernel)]; exact ⟨rfl, rfl⟩))
    (fun os started H enc _ => limits_lifted os started H enc)
#print axioms orphansLimits_holds
end Go.Proofs.Ytklliihdbkoooaa
