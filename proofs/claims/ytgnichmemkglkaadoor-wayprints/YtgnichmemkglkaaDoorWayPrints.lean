import Derived.Test.YtgnichmemkglkaaDoorWg
import Derived.Test.YtgnichmemkglkaaDoorYw
import Derived.Test.YtgnichmemkglkaaDoorTie
import Derived.Test.YtgnichmemkglkaaDoorCards
import Derived.Lib.LaidU8T
import Derived.Lib.LaidU8
import Derived.LaidMore
import Derived.Stop.Joined
import Derived.Stop.LaidErr
import Derived.Stop.LaidTwo
import Derived.SevenTiedAt
import Derived.Lay
import Derived.Lib.SmallJoins
import Derived.SizedLaws
import Derived.Deep.DeepHandedRow
import Derived.JoinedCond
import Derived.Laws.Cover2
import Derived.Lib.LaidTab
namespace Go.Proofs.YtgnichmemkglkaaDoor
open Go.ChangeShapes Go.WideShapes Go.ChangeAt Go.RowKit Go.Shelf
set_option linter.unusedVariables false
set_option linter.unusedSimpArgs false

def u8_ren : Go.Shelf.Ren := ⟨fun n => n, fun | 119 => 76 | 138 => 78 | 139 => 79 | n => n, fun | 3 => 3 | 4 => 4 | n => n⟩
theorem u8t : U8Types Tryd.prog u8_ren := ⟨Tryd.underlying5, Tryd.underlying76, Tryd.underlying78, Tryd.underlying79⟩
theorem u8x : U8Extra Tryd.prog u8_ren := ⟨by kernel_rfl, by kernel_rfl, by kernel_rfl, by kernel_rfl, by kernel_rfl, by kernel_rfl, by kernel_rfl⟩
theorem dF : (Rows.laid_unicode_utf8_first : DataW Unit) = Lib.firstData := by kernel_rfl
theorem dA : (Rows.laid_unicode_utf8_acceptRanges : DataW Unit) = Lib.acceptData := by kernel_rfl
theorem tabs_of {W : World} {laid : List (String × DataW Unit)} (h : laidMet Tryd.prog laid W) (h3 : ("unicode/utf8.first", (Rows.laid_unicode_utf8_first : DataW Unit)) ∈ laid) (h4 : ("unicode/utf8.acceptRanges", (Rows.laid_unicode_utf8_acceptRanges : DataW Unit)) ∈ laid) : K.V.Tabs W := by
  rw [dF] at h3
  rw [dA] at h4
  exact utf8Tabs_of_readsT u8t u8x (Lib.laidMet.reads h h3) (Lib.laidMet.reads h h4)
theorem gN0 : Tryd.prog.globalNamed "estuary/way.errLong" = some 0 := by kernel_rfl
theorem gN1 : Tryd.prog.globalNamed "estuary/way.errStep" = some 1 := by kernel_rfl
theorem gN2 : Tryd.prog.globalNamed "estuary/way.errText" = some 2 := by kernel_rfl
theorem gT0 : (Tryd.prog.globals[0]?).map (·.type) = some 42 := by kernel_rfl
theorem gT1 : (Tryd.prog.globals[1]?).map (·.type) = some 42 := by kernel_rfl
theorem gT2 : (Tryd.prog.globals[2]?).map (·.type) = some 42 := by kernel_rfl
theorem cellsE : Tryd.prog.cellsOf 150 = 1 := by kernel_rfl
theorem cells9 : Tryd.prog.cellsOf 9 = 1 := by kernel_rfl
theorem starE : "*" ++ "errors.errorString" = "*errors.errorString" := by decide
theorem rowE (u : TypeId) (h : Tryd.prog.typeName? 3 u = some "*errors.errorString") : u = 127 :=
  typeName_ptr_named (nm := "errors.errorString") (by rw [starE]; kernel_rfl) (by kernel_rfl) (by decide) u (by rw [starE]; exact h)
theorem pow_below {W w' : World} (hT : PowW W) (hb : Below W.heap.size W w') : PowW w' := by
  have hlt : 5 < W.heap.size := by
    have h := hT.cell (show Tryd.prog.globalNamed "internal/strconv.uint64pow10" = some 5 by kernel_rfl) 0 (by rw [Lib.pow10Tab_length]; decide)
    exact block_lt_of_cell h
  have hT' : W.var? Tryd.prog "internal/strconv.uint64pow10" = _ := hT
  show w'.var? Tryd.prog "internal/strconv.uint64pow10" = _
  rw [← hT']
  unfold World.var?
  rw [show Tryd.prog.globalNamed "internal/strconv.uint64pow10" = some 5 by kernel_rfl]
  simp only [Option.bind_some]
  rw [hb.block _ hlt]
/-- What the laid errors give. -/
theorem snt_of {W : World} {d : DataW Unit} {r : List (String × DataW Unit)} (h : laidMet Tryd.prog (("unicode/utf8.acceptRanges", d) :: ("estuary/way.errLong", Rows.laid_estuary_way_errLong) :: ("estuary/way.errStep", Rows.laid_estuary_way_errStep) :: ("estuary/way.errText", Rows.laid_estuary_way_errText) :: r) W) : ∃ a0 a1 a2, Snt W a0 a1 a2 := by
  have h1 := laidMet.tail h
  have h2 := laidMet.tail h1
  obtain ⟨a0, a1, s0, s1, c0, c1, t0, t1, hv0, hv1, hc0, hs0, hz0, hc1, hs1, hz1, hne, hb0, hb1⟩ := laid_sentinels2 h1 gN0 gT0 gN1 gT1 Tryd.underlying42 rowE Tryd.underlying127 Tryd.underlying150 rfl rfl Tryd.underlying9 cellsE cells9
  obtain ⟨a1', a2, s1', s2, c1', c2, t1', t2, hv1', hv2, hc1', hs1', hz1', hc2, hs2, hz2, hne', hb1', hb2⟩ := laid_sentinels2 h2 gN1 gT1 gN2 gT2 Tryd.underlying42 rowE Tryd.underlying127 Tryd.underlying150 rfl rfl Tryd.underlying9 cellsE cells9
  have e : a1' = a1 := by
    have := hv1'.symm.trans hv1
    simpa using this
  subst e
  refine ⟨a0, a1', a2, ?_, ?_, ?_, hne, hne', ?_, ⟨_, _, hb0⟩, ⟨_, _, hb1⟩, ⟨_, _, hb2⟩⟩
  · simpa using World.var?_cell gN0 hv0 0
  · simpa using World.var?_cell gN1 hv1 0
  · simpa using World.var?_cell gN2 hv2 0
  · rintro rfl
    have := hc0.symm.trans hc2
    simp at this
    subst this
    rw [hs0] at hs2
    revert hs2
    decide

theorem gPow : Tryd.prog.globalNamed "internal/strconv.uint64pow10" = some 5 := by kernel_rfl
theorem dPow {H : Type} : (Rows.laid_internal_strconv_uint64pow10 : DataW H) = Lib.tabData .u64 Lib.pow10Tab := by kernel_rfl
theorem powT : ∃ t, (Tryd.prog.globals[5]?).map (·.type) = some t ∧ Tryd.prog.underlying t = some (.array 20 73) ∧ Tryd.prog.cellsOf t = 20 :=
  ⟨104, by kernel_rfl, by kernel_rfl, by kernel_rfl⟩
theorem pow_of {W : World} {laid : List (String × DataW Unit)} (h : laidMet Tryd.prog laid W) (hm : ("internal/strconv.uint64pow10", (Rows.laid_internal_strconv_uint64pow10 : DataW Unit)) ∈ laid) : PowB W.heap.size W := by
  rw [dPow] at hm
  obtain ⟨t, h1, h2, h3⟩ := powT
  obtain ⟨g', t', cs, fuel, p, hg', ht', hvar, hd⟩ := Lib.laidMet.reads h hm
  obtain rfl := Option.some.inj (gPow.symm.trans hg')
  obtain rfl := Option.some.inj (h1.symm.trans ht')
  have hc := Lib.cells_of_tab h2 Tryd.underlying73 (by kernel_rfl) h3 hd
  have hT : PowW W := by
    show Lib.TabIs _ _ _ _ _
    unfold Lib.TabIs
    rw [hvar, ← hc]
  exact fun w' hb => pow_below hT hb
theorem prints_door_met (os : Os) (args : Array Value) : laidMetH Tryd.prog Rows.wayPrintsRow.laid ((World.laidAll Tryd.prog os Rows.wayPrintsRow.laid).forCall (fun _ _ => 0) ⟨#[], args, []⟩).memory := by
  rw [MakeChecks.laidMetH_plain _ _ _ (by kernel_rfl)]
  exact laidMet_laidAll args (by kernel_rfl) (by kernel_rfl)
theorem prints_reads (os : Os) {H : Type} (enc : TypeId × Value → H) : ∃ places, DataW.whole enc Tryd.prog ((World.laidAll Tryd.prog os Rows.wayPrintsRow.laid).forCall (fun _ _ => 0) ⟨#[], #[.slice none 0 0], []⟩).memory Tryd.f3.params.toList (OpenSpec.ofChange Rows.wayPrintsSpec).vars false #[Value.slice none 0 0].toList 8 = some ([.nil], [], places) :=
  ⟨[], by kernel_rfl⟩
set_option maxRecDepth 100000 in
theorem prints_lifted (os : Os) (started : os.Started) (H : Type) (enc : TypeId × Value → H) (F : Stop.Interp) :
    ReturnsInHanded {} Tryd.checked os 3 .any ((OpenSpec.ofChange Rows.wayPrintsSpec).preRow enc Tryd.prog Tryd.f3 Rows.wayPrintsRow.domain false Rows.wayPrintsRow.laid) (((OpenSpec.ofChange Rows.wayPrintsSpec).at F).post enc Tryd.prog Tryd.f3 false true false false) := by
  obtain ⟨places, hx⟩ := prints_reads os enc
  refine returnsInHanded_of_row (C := Tryd.checked) (s := OpenSpec.ofChange Rows.wayPrintsSpec) own started (by kernel_rfl) Tryd.func3
    (witness_row_at (enc := enc) (C := Tryd.checked) false (World.laidAll Tryd.prog os Rows.wayPrintsRow.laid) #[.slice none 0 0] rfl (by kernel_rfl) (by kernel_rfl) (by kernel_rfl)
      (OpenSpec.preRow_of_cond 8 hx (by kernel_rfl) (fun k hk => by cases hk) (by kernel_rfl) (prints_door_met os _))) ?_
  intro W base args ds gs before hval0 hW _ _ hsz0 hL _ _
  have hsz : (DataW.weightsEach Tryd.prog (Tryd.f3.params.toList ++ DataSpec.varTypes Tryd.prog (OpenSpec.ofChange Rows.wayPrintsSpec).bare.plain) (ds ++ gs)).all (· ≤ reachBytes) = true := hsz0
  have hval : ∀ (j : Nat) t v, Tryd.f3.params[j]? = some t → args[j]? = some v → Value.okWide Tryd.prog W .any base t v := hval0
  have hW' := hW
  obtain ⟨p, q, hA0, hV, rfl, hfz, hnd⟩ := hW
  have hA : DataW.TrodAll enc Tryd.prog W 0 (fun _ => true) true Tryd.f3.params.toList args.toList ds p := hA0
  rw [Tryd.params3] at hA hval hsz
  obtain ⟨v0, vs0, d0, ds0, p0, q0, hargs, rfl, rfl, h0, r0⟩ := trodAll_cons hA
  obtain ⟨rfl, rfl, rfl⟩ := trodAll_nil r0
  obtain rfl : args = #[v0] := by cases args; simp_all
  obtain ⟨rfl, rfl⟩ := trodVars_none hV
  obtain ⟨a0, len0, cap0, rfl⟩ := okWide_slice Tryd.underlying22 (hval 0 22 v0 rfl rfl)
  have lt0 : ∀ x ∈ p0, x.block < W.heap.size := by obtain ⟨m, hm⟩ := h0; exact DataW.trod_lt m _ _ _ hm
  obtain ⟨L0, hlen0, hc0, hl0, hn0, hd0⟩ := view_steps2 h0
  have hb0 := reachS hsz 0 rfl (d := d0) rfl hd0
  have hL2 : laidMet Tryd.prog Rows.wayPrintsRow.laid W := by rw [← MakeChecks.laidMetH_plain _ _ _ (by kernel_rfl)]; exact hL
  have hT : K.V.Tabs W := tabs_of hL2 (by simp [Rows.wayPrintsRow]) (by simp [Rows.wayPrintsRow])
  clear hA0 hval0
  obtain ⟨e0, e1, e2, hE⟩ := snt_of (laidMet.tail (laidMet.tail (laidMet.tail hL2)))
  have hP : PowB W.heap.size W := pow_of hL2 (by simp [Rows.wayPrintsRow])
  subst hlen0
  refine (prints_all a0 L0 cap0 W hl0 hn0 hb0 hT e0 e1 e2 hE hP).mono fun e W' ⟨he, bel⟩ => ?_
  subst he
  exact ⟨_, rfl, _, _, _, [], _, [], hW', trodAll_mk1 (shut_bool Tryd.underlying4 _), (trodAll_cons_mk (Below.trod laidOut (by kernel_rfl) (of_decide_eq_true (by kernel_rfl)) h0 bel lt0) trodAll_mk0), rfl, bel.frame _, fun h => by cases h⟩

theorem wayPrints_row : Rows.WayPrintsSaid :=
  OpenClaim.holds_of_cond 3 Tryd.f3 rfl rfl rfl rfl rfl rfl rfl ⟨rfl, rfl, rfl, rfl, rfl⟩ rfl rfl rfl rfl rfl (by kernel_rfl) Tryd.func3 (by kernel_rfl)
    (of_decide_eq_true (by kernel_rfl)) (by unfold Func.isWrapper; first | (rw [if_pos (by decide +kernel)]; kernel_rfl) | (rw [if_neg (by decide +kernel)]; exact ⟨rfl, rfl⟩))
    (fun os started H enc _ F => by rw [OpenClaim.pre_eq_preRow]; exact prints_lifted os started H enc F)

theorem wayPrints_holds : Rows.WayPrintsCardSaid :=
  Claim7.holds_tied_plain_at .later [] _ _ _ _
    wayPrints_row (fun _ h => by cases h) (by kernel_rfl) (fun _ h => by cases h) wayPrints_row_tie rfl ⟨rfl, rfl⟩ (by kernel_rfl) rfl
    (fun f fn hf hfn => by
      obtain rfl : f = 3 := Option.some.inj ((show Tryd.prog.funcNamed "estuary/estuarylaw13.WayPrints" = some 3 by kernel_rfl).symm.trans hf) |>.symm
      obtain rfl : fn = Tryd.f3 := (Option.some.inj (Tryd.func3.symm.trans hfn)).symm
      exact ⟨by kernel_rfl, fun j t ht => by
        rw [Tryd.params3] at ht
        have hm : t ∈ [22] := by
          have := Array.mem_of_getElem? ht
          simpa using this
        have hall : ([22].all fun u => !Tryd.prog.wantsStandIn u) = true := by kernel_rfl
        exact (show Tryd.prog.wantsStandIn t = false by simpa using List.all_eq_true.1 hall t hm)⟩)
    (by kernel_rfl)
#print axioms wayPrints_holds
end Go.Proofs.YtgnichmemkglkaaDoor
