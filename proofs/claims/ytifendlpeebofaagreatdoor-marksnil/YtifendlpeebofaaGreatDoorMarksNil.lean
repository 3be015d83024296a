import Derived.Test.YtifendlpeebofaaGreatDoorP8
import Derived.Test.YtifendlpeebofaaGreatDoorP9
namespace Go.Proofs.YtifendlpeebofaaGreatDoor
open Go.ChangeShapes Go.WideShapes Go.ChangeAt Go.RowKit Go.Shelf
set_option linter.unusedVariables false
set_option linter.unusedSimpArgs false

theorem nilm_door_met (os : Os) (args : Array Value) : laidMetH Tryz.prog Rows.marksNilRow.laid ((World.laidAll Tryz.prog os Rows.marksNilRow.laid).forCall (fun _ _ => 0) ⟨#[], args, []⟩).memory := by
  rw [MakeChecks.laidMetH_plain _ _ _ (by kernel_rfl)]
  exact laidMet_laidAll args (by kernel_rfl) (by kernel_rfl)
theorem nilm_reads (os : Os) {H : Type} (enc : TypeId × Value → H) : ∃ places, DataW.whole enc Tryz.prog ((World.laidAll Tryz.prog os Rows.marksNilRow.laid).forCall (fun _ _ => 0) ⟨#[], #[.agg zId.c.toArray, .string ⟨#[]⟩, .agg zVa.c.toArray], []⟩).memory Tryz.f4.params.toList (OpenSpec.ofChange Rows.marksNilSpec).vars false (#[.agg zId.c.toArray, .string ⟨#[]⟩, .agg zVa.c.toArray] : Array Value).toList 8 = some ([.agg [.agg (List.replicate 32 (.lit (.int .u8 0))), .lit (.int .i64 0)], .lit (.string []), .agg [.lit (.int .u8 0), .lit (.int .i64 0), .lit (.float .f64 0), .lit (.string [])]], [], places) :=
  ⟨[], by kernel_rfl⟩
set_option maxRecDepth 100000 in
theorem nilm_lifted (os : Os) (started : os.Started) (H : Type) (enc : TypeId × Value → H) (F : Stop.Interp) :
    ReturnsInHanded {} Tryz.checked os 4 .any ((OpenSpec.ofChange Rows.marksNilSpec).preRow enc Tryz.prog Tryz.f4 Rows.marksNilRow.domain false Rows.marksNilRow.laid) (((OpenSpec.ofChange Rows.marksNilSpec).at F).post enc Tryz.prog Tryz.f4 false true false false) := by
  obtain ⟨places, hx⟩ := nilm_reads os enc
  refine returnsInHanded_of_row (C := Tryz.checked) (s := OpenSpec.ofChange Rows.marksNilSpec) ownKb started (by kernel_rfl) Tryz.func4
    (witness_row_at (enc := enc) (C := Tryz.checked) false (World.laidAll Tryz.prog os Rows.marksNilRow.laid) #[.agg zId.c.toArray, .string ⟨#[]⟩, .agg zVa.c.toArray] rfl (by kernel_rfl) (by kernel_rfl) (by kernel_rfl)
      (OpenSpec.preRow_of_cond 8 hx (by kernel_rfl) (fun k hk => by cases hk) (by kernel_rfl) (nilm_door_met os _))) ?_
  intro W base args ds gs before hval0 hW _ _ hsz0 hL _ _
  have hsz : (DataW.weightsEach Tryz.prog (Tryz.f4.params.toList ++ DataSpec.varTypes Tryz.prog (OpenSpec.ofChange Rows.marksNilSpec).bare.plain) (ds ++ gs)).all (· ≤ reachBytes) = true := hsz0
  have hval : ∀ (j : Nat) t v, Tryz.f4.params[j]? = some t → args[j]? = some v → Value.okWide Tryz.prog W .any base t v := hval0
  have hW' := hW
  obtain ⟨p, q, hA0, hV, rfl, hfz, hnd⟩ := hW
  have hA : DataW.TrodAll enc Tryz.prog W 0 (fun _ => true) true Tryz.f4.params.toList args.toList ds p := hA0
  rw [Tryz.params4] at hA hval hsz
  obtain ⟨v0, vs0, d0, ds0, p0, q0, hargs, rfl, rfl, h0, r0⟩ := trodAll_cons hA
  obtain ⟨v1, vs1, d1, ds1, p1, q1, rfl, rfl, rfl, h1, r1⟩ := trodAll_cons r0
  obtain ⟨v2, vs2, d2, ds2, p2, q2, rfl, rfl, rfl, h2, r2⟩ := trodAll_cons r1
  obtain ⟨rfl, rfl, rfl⟩ := trodAll_nil r2
  obtain rfl : args = #[v0, v1, v2] := by cases args; simp_all
  obtain ⟨rfl, rfl⟩ := trodVars_none hV
  have lt0 : ∀ x ∈ p0, x.block < W.heap.size := by obtain ⟨m, hm⟩ := h0; exact DataW.trod_lt m _ _ _ hm
  have lt1 : ∀ x ∈ p1, x.block < W.heap.size := by obtain ⟨m, hm⟩ := h1; exact DataW.trod_lt m _ _ _ hm
  have lt2 : ∀ x ∈ p2, x.block < W.heap.size := by obtain ⟨m, hm⟩ := h2; exact DataW.trod_lt m _ _ _ hm
  obtain ⟨cs0, rfl, _⟩ := okWide_struct Tryz.underlying36 (hval 0 36 v0 rfl rfl)
  obtain ⟨x0, hx0, rfl⟩ : ∃ x : IdK, x.ok ∧ cs0 = x.c.toArray := by
    obtain ⟨fu, hf⟩ := h0
    obtain ⟨x, hx, e⟩ := id_cells hf
    exact ⟨x, hx, by rw [← e]; simp [Value.cells]⟩
  obtain ⟨s1, rfl⟩ := okWide_string Tryz.underlying9 (hval 1 9 v1 rfl rfl)
  have w1 : s1.size ≤ maxLen := by
    obtain ⟨fu, hf⟩ := h1
    obtain ⟨s', e', _, w'⟩ := DataW.trod_string Tryz.underlying9 hf
    simp [Value.cells] at e'
    rw [e']
    exact w'
  obtain ⟨cs2, rfl, _⟩ := okWide_struct Tryz.underlying40 (hval 2 40 v2 rfl rfl)
  obtain ⟨x2, hx2, rfl⟩ : ∃ x : VaV, x.ok ∧ cs2 = x.c.toArray := by
    obtain ⟨fu, hf⟩ := h2
    obtain ⟨x, hx, e⟩ := va_cells _ _ _ hf
    exact ⟨x, hx, by rw [← e]; simp [Value.cells]⟩
  have hL2 : laidMet Tryz.prog Rows.marksNilRow.laid W := by rw [← MakeChecks.laidMetH_plain _ _ _ (by kernel_rfl)]; exact hL
  have hT : K.V.Tabs W := tabs_of hL2 (by simp [Rows.marksNilRow]) (by simp [Rows.marksNilRow])
  clear hA0 hval0
  refine (nil_any x0 hx0 s1 x2 W hT).mono fun e W' ⟨he, bel⟩ => ?_
  subst he
  exact ⟨_, rfl, _, _, _, [], _, [], hW', trodAll_mk1 (shut_bool Tryz.underlying4 _), (trodAll_cons_mk (Below.trod laidOut (by kernel_rfl) (of_decide_eq_true (by kernel_rfl)) h0 bel lt0) (trodAll_cons_mk (Below.trod laidOut (by kernel_rfl) (of_decide_eq_true (by kernel_rfl)) h1 bel lt1) (trodAll_cons_mk (Below.trod laidOut (by kernel_rfl) (of_decide_eq_true (by kernel_rfl)) h2 bel lt2) trodAll_mk0))), rfl, bel.frame _, fun h => by cases h⟩

theorem marksNil_row : Rows.MarksNilSaid :=
  OpenClaim.holds_of_cond 4 Tryz.f4 rfl rfl rfl rfl rfl rfl rfl ⟨rfl, rfl, rfl, rfl, rfl⟩ rfl rfl rfl rfl rfl (by kernel_rfl) Tryz.func4 (by kernel_rfl)
    (of_decide_eq_true (by kernel_rfl)) (by unfold Func.isWrapper; first | (rw [if_pos (by decide +kernel)]; kernel_rfl) | (rw [if_neg (by decide +kernel)]; exact ⟨rfl, rfl⟩))
    (fun os started H enc _ F => by rw [OpenClaim.pre_eq_preRow]; exact nilm_lifted os started H enc F)

theorem marksNil_holds : Rows.MarksNilCardSaid :=
  Claim7.holds_tied_plain_at .later [] _ _ _ _
    marksNil_row (fun _ h => by cases h) (by kernel_rfl) (fun _ h => by cases h) marksNil_row_tie rfl ⟨rfl, rfl⟩ (by kernel_rfl) rfl
    (fun f fn hf hfn => by
      obtain rfl : f = 4 := Option.some.inj ((show Tryz.prog.funcNamed "estuary/estuarylaw11.MarksNil" = some 4 by kernel_rfl).symm.trans hf) |>.symm
      obtain rfl : fn = Tryz.f4 := (Option.some.inj (Tryz.func4.symm.trans hfn)).symm
      exact ⟨by kernel_rfl, fun j t ht => by
        rw [Tryz.params4] at ht
        have hm : t ∈ [36, 9, 40] := by
          have := Array.mem_of_getElem? ht
          simpa using this
        have hall : ([36, 9, 40].all fun u => !Tryz.prog.wantsStandIn u) = true := by kernel_rfl
        exact (show Tryz.prog.wantsStandIn t = false by simpa using List.all_eq_true.1 hall t hm)⟩)
    (by kernel_rfl)
#print axioms marksNil_holds
end Go.Proofs.YtifendlpeebofaaGreatDoor
