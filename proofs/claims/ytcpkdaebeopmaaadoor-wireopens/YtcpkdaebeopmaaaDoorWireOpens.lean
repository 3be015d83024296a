import Derived.Test.YtcpkdaebeopmaaaDoorView
import Derived.Test.YtcpkdaebeopmaaaDoorOz
import Derived.Test.YtcpkdaebeopmaaaDoorTie
import Derived.Test.YtcpkdaebeopmaaaDoorCards
import Derived.SevenTiedAt
import Derived.Lay
import Derived.Lib.SmallJoins
import Derived.SizedLaws
namespace Go.Proofs.YtcpkdaebeopmaaaDoor
open Go.ChangeShapes Go.WideShapes Go.ChangeAt Go.RowKit
set_option linter.unusedVariables false
set_option linter.unusedSimpArgs false

/-- A listed table of numbers of 32 bits: its cells. -/
theorem tab_cells {W : World} {name : String} {l : List UInt32} {laid : List (String × DataW Unit)} {g : Nat} {t : TypeId} {n : Nat} (h : laidMet Tryd.prog laid W) (hm : (name, Lib.tabData .u32 (l.map U)) ∈ laid)
    (hg : Tryd.prog.globalNamed name = some g) (hty : (Tryd.prog.globals[g]?).map (·.type) = some t) (ht : Tryd.prog.underlying t = some (.array n 76)) (hct : Tryd.prog.cellsOf t = n) :
    ∀ j, j < l.length → W.cell? ⟨g, j, none⟩ = some (.int .u32 (U (l.getD j 0))) := by
  obtain ⟨g', t', cs, fuel, p, hg', ht', hvar, hd⟩ := Lib.laidMet.reads h hm
  obtain rfl := Option.some.inj (hg.symm.trans hg')
  obtain rfl := Option.some.inj (hty.symm.trans ht')
  have hc := Lib.cells_of_tab ht Tryd.underlying76 (by kernel_rfl) hct hd
  have hT : Lib.TabIs Tryd.prog W name .u32 (l.map U) := by
    unfold Lib.TabIs
    rw [hvar, ← hc]
  intro j hj
  rw [hT.cell hg j (by simpa using hj)]
  have e : (l.map U).getD j 0 = U (l.getD j 0) := by simp [List.getElem?_eq_getElem hj]
  rw [e]

theorem gNib : Tryd.prog.globalNamed "estuary/digest.crcNibbles" = some 0 := by kernel_rfl
theorem dNib {H : Type} : (Rows.laid_estuary_digest_crcNibbles : DataW H) = Lib.tabData .u32 (nibs.map U) := by kernel_rfl
theorem nibT : ∃ t, (Tryd.prog.globals[0]?).map (·.type) = some t ∧ Tryd.prog.underlying t = some (.array 16 76) ∧ Tryd.prog.cellsOf t = 16 := by
  refine ⟨((Tryd.prog.globals[0]?).map (·.type)).getD 0, by kernel_rfl, by kernel_rfl, by kernel_rfl⟩
theorem nibs_of {W : World} {laid : List (String × DataW Unit)} (h : laidMet Tryd.prog laid W) (hm : ("estuary/digest.crcNibbles", Rows.laid_estuary_digest_crcNibbles) ∈ laid) : NibsAt W := by
  rw [dNib] at hm
  obtain ⟨t, h1, h2, h3⟩ := nibT
  exact tab_cells (n := 16) h hm gNib (t := t) h1 h2 h3
theorem byt_of {W : World} {a : Option Addr} {L : List UInt8} {len : Nat} (hl : L.length = len) (h : 0 < len → ∃ b off, a = some ⟨b, off, none⟩ ∧ ∀ j, j < len → W.cell? ⟨b, off + j, none⟩ = some (.int .u8 (at8 L j))) : Byt W a L := by
  by_cases h0 : 0 < len
  · obtain ⟨b, off, e, hc⟩ := h h0
    exact .inr ⟨b, off, e, fun j hj => hc j (by omega)⟩
  · exact .inl (List.eq_nil_of_length_eq_zero (by omega))
theorem reach_at {el sp : Nat} (h : (el + sp) * Tryd.prog.bytesOf 5 ≤ reachBytes) : el ≤ 140737488351232 := by
  rw [bytes5] at h
  simp only [reachBytes] at h
  omega
theorem opens_door_met (os : Os) (args : Array Value) : laidMetH Tryd.prog Rows.wireOpensRow.laid ((World.laidAll Tryd.prog os Rows.wireOpensRow.laid).forCall (fun _ _ => 0) ⟨#[], args, []⟩).memory := by
  rw [MakeChecks.laidMetH_plain _ _ _ (by kernel_rfl)]
  exact laidMet_laidAll args (by kernel_rfl) (by kernel_rfl)
theorem reach_of {H : Type} {ts : List TypeId} {ds : List (DataW H)} (hsz : (DataW.weightsEach Tryd.prog ts ds).all (· ≤ reachBytes) = true) (j : Nat) (ht : ts[j]? = some 22) {d : DataW H} (hd : ds[j]? = some d) {len : Nat}
    (h : d = .nil ∧ len = 0 ∨ ∃ el sp, d = .slice el sp ∧ el.length = len) : len ≤ 140737488351232 := by
  rcases h with ⟨_, rfl⟩ | ⟨el, sp, rfl, rfl⟩
  · omega
  · have := sized_slice hsz (j := j) (t := 22) (e := 5) ht hd Tryd.underlying22
    rw [bytes5] at this
    simp only [reachBytes] at this
    omega
set_option maxRecDepth 100000 in
theorem opens_lifted (os : Os) (started : os.Started) (H : Type) (enc : TypeId × Value → H) :
    ReturnsInHanded {} Tryd.checked os 4 .any (fun w args => (Rows.wireOpensSpec.pre enc Tryd.prog Tryd.f4 [] false w args ∧ laidMetH Tryd.prog Rows.wireOpensRow.laid w) ∧ sizedMet enc Tryd.prog Tryd.f4 (OpenSpec.ofChange Rows.wireOpensSpec) false w args)
      (Rows.wireOpensSpec.post enc Tryd.prog Tryd.f4 false true false false) := by
  refine returnsInHanded_of_change_and (C := Tryd.checked) (X := fun w _ => laidMetH Tryd.prog Rows.wireOpensRow.laid w) (fun _ _ _ hh h => h.of_heap hh) own started (by kernel_rfl) Tryd.func4
    (ChangeSpec.witness_shaped (enc := enc) (C := Tryd.checked) (os := os) (X := fun w _ => laidMetH Tryd.prog Rows.wireOpensRow.laid w) false (World.laidAll Tryd.prog os Rows.wireOpensRow.laid) #[.slice none 0 0] 8 rfl (World.shaped_of_ZipB (by kernel_rfl) (by kernel_rfl)) (by kernel_rfl) (by kernel_rfl) (by kernel_rfl) (opens_door_met os _)) ?_
  intro W base args ds gs before hval0 hW _ hsz0 hL _
  have hval : ∀ (j : Nat) t v, Tryd.f4.params[j]? = some t → args[j]? = some v → Value.okWide Tryd.prog W .any base t v := hval0
  have hsz : (DataW.weightsEach Tryd.prog (Tryd.f4.params.toList ++ Rows.wireOpensSpec.plain.varTypes Tryd.prog) (ds ++ gs)).all (· ≤ reachBytes) = true := hsz0
  have hW' := hW
  obtain ⟨p, q, hA0, hV, rfl, hfz, hnd⟩ := hW
  have hA : DataW.TrodAll enc Tryd.prog W 0 (fun _ => true) true Tryd.f4.params.toList args.toList ds p := hA0
  rw [Tryd.params4] at hA hval hsz
  obtain ⟨v0, vs0, d0, ds0, p0, q0, hargs, rfl, rfl, h0, r0⟩ := trodAll_cons hA
  obtain ⟨rfl, rfl, rfl⟩ := trodAll_nil r0
  obtain rfl : args = #[v0] := by cases args; simp_all
  obtain ⟨rfl, rfl⟩ := trodVars_none hV
  obtain ⟨a1, len1, cap1, rfl⟩ := okWide_slice Tryd.underlying22 (hval 0 22 v0 rfl rfl)
  have lt0 : ∀ x ∈ p0, x.block < W.heap.size := by obtain ⟨m, hm⟩ := h0; exact DataW.trod_lt m _ _ _ hm
  obtain ⟨B, hB1, hB2, hB3, hB4⟩ := view h0
  have e1 := reach_of hsz 0 rfl (d := d0) rfl hB4
  have hL2 : laidMet Tryd.prog Rows.wireOpensRow.laid W := by rw [← MakeChecks.laidMetH_plain _ _ _ (by kernel_rfl)]; exact hL
  clear hA0 hval0
  refine (opens_all a1 B len1 cap1 W hB1 (byt_of hB1 hB3) hB2 e1 (nibs_of hL2 (by simp [Rows.wireOpensRow]))).mono fun e W' ⟨he, bel⟩ => ?_
  subst he
  exact ⟨_, rfl, _, _, _, [], _, [], hW', trodAll_mk1 (shut_bool Tryd.underlying4 _), (trodAll_cons_mk (Below.trod laidOut (by kernel_rfl) (of_decide_eq_true (by kernel_rfl)) h0 bel lt0) trodAll_mk0), rfl, bel.frame _, fun h => by cases h⟩

theorem wireOpens_row : Rows.WireOpensSaid :=
  OpenClaim.holds_of_wide 4 Tryd.f4 rfl rfl rfl rfl rfl rfl rfl ⟨rfl, rfl, rfl, rfl, rfl⟩ rfl rfl rfl rfl rfl (by kernel_rfl) Tryd.func4 (by kernel_rfl)
    (of_decide_eq_true (by kernel_rfl)) (by unfold Func.isWrapper; first | (rw [if_pos (by decide +kernel)]; kernel_rfl) | (rw [if_neg (by decide +kernel)]; exact ⟨rfl, rfl⟩))
    (fun os started H enc _ => opens_lifted os started H enc)

theorem wireOpens_holds : Rows.WireOpensCardSaid :=
  Claim7.holds_tied_plain_at .later [] _ _ _ _
    wireOpens_row (fun _ h => by cases h) (by kernel_rfl) (fun _ h => by cases h) wireOpens_row_tie rfl ⟨rfl, rfl⟩ (by kernel_rfl) rfl
    (fun f fn hf hfn => by
      obtain rfl : f = 4 := Option.some.inj ((show Tryd.prog.funcNamed "estuary/estuarylaw02.WireOpens" = some 4 by kernel_rfl).symm.trans hf) |>.symm
      obtain rfl : fn = Tryd.f4 := (Option.some.inj (Tryd.func4.symm.trans hfn)).symm
      exact ⟨by kernel_rfl, fun j t ht => by
        rw [Tryd.params4] at ht
        have hm : t ∈ [22] := by
          have := Array.mem_of_getElem? ht
          simpa using this
        have hall : ([22].all fun u => !Tryd.prog.wantsStandIn u) = true := by kernel_rfl
        exact (show Tryd.prog.wantsStandIn t = false by simpa using List.all_eq_true.1 hall t hm)⟩)
    (by kernel_rfl)
#print axioms wireOpens_holds
end Go.Proofs.YtcpkdaebeopmaaaDoor
