import Derived.Test.YtcipgnocmilkpaaDoorView
import Derived.Test.YtcipgnocmilkpaaDoorTornW
import Derived.Test.YtcipgnocmilkpaaDoorTie
import Derived.Test.YtcipgnocmilkpaaDoorCards
import Derived.SevenTiedAt
import Derived.Deep.DeepHandedRow
import Derived.JoinedCond
import Derived.Lib.SmallJoins
namespace Go.Proofs.YtcipgnocmilkpaaDoor
open Go.ChangeShapes Go.WideShapes Go.ChangeAt Go.RowKit
set_option linter.unusedVariables false
set_option linter.unusedSimpArgs false

/-- A listed table of numbers of 32 bits: its cells. -/
theorem tab_cells {W : World} {name : String} {l : List UInt32} {laid : List (String × DataW Unit)} {g : Nat} {t : TypeId} {n : Nat} (h : laidMet Tryd.prog laid W) (hm : (name, Lib.tabData .u32 (l.map U)) ∈ laid)
    (hg : Tryd.prog.globalNamed name = some g) (hty : (Tryd.prog.globals[g]?).map (·.type) = some t) (ht : Tryd.prog.underlying t = some (.array n 47)) (hct : Tryd.prog.cellsOf t = n) :
    ∀ j, j < l.length → W.cell? ⟨g, j, none⟩ = some (.int .u32 (U (l.getD j 0))) := by
  obtain ⟨g', t', cs, fuel, p, hg', ht', hvar, hd⟩ := Lib.laidMet.reads h hm
  obtain rfl := Option.some.inj (hg.symm.trans hg')
  obtain rfl := Option.some.inj (hty.symm.trans ht')
  have hc := Lib.cells_of_tab ht Tryd.underlying47 (by kernel_rfl) hct hd
  have hT : Lib.TabIs Tryd.prog W name .u32 (l.map U) := by
    unfold Lib.TabIs
    rw [hvar, ← hc]
  intro j hj
  rw [hT.cell hg j (by simpa using hj)]
  have e : (l.map U).getD j 0 = U (l.getD j 0) := by simp [List.getElem?_eq_getElem hj]
  rw [e]

theorem gNib : Tryd.prog.globalNamed "estuary/digest.crcNibbles" = some 1 := by kernel_rfl
theorem dNib {H : Type} : (Rows.laid_estuary_digest_crcNibbles : DataW H) = Lib.tabData .u32 (nibs.map U) := by kernel_rfl
theorem nibT : ∃ t, (Tryd.prog.globals[1]?).map (·.type) = some t ∧ Tryd.prog.underlying t = some (.array 16 47) ∧ Tryd.prog.cellsOf t = 16 := by
  refine ⟨((Tryd.prog.globals[1]?).map (·.type)).getD 0, by kernel_rfl, by kernel_rfl, by kernel_rfl⟩
theorem nibs_of {W : World} {laid : List (String × DataW Unit)} (h : laidMet Tryd.prog laid W) (hm : ("estuary/digest.crcNibbles", Rows.laid_estuary_digest_crcNibbles) ∈ laid) : NibsAt W := by
  rw [dNib] at hm
  obtain ⟨t, h1, h2, h3⟩ := nibT
  exact tab_cells (n := 16) h hm gNib (t := t) h1 h2 h3
theorem byt_of {W : World} {a : Option Addr} {L : List UInt8} {len : Nat} (hl : L.length = len) (h : 0 < len → ∃ b off, a = some ⟨b, off, none⟩ ∧ ∀ j, j < len → W.cell? ⟨b, off + j, none⟩ = some (.int .u8 (at8 L j))) : Byt W a L := by
  by_cases h0 : 0 < len
  · obtain ⟨b, off, e, hc⟩ := h h0
    exact .inr ⟨b, off, e, fun j hj => hc j (by omega)⟩
  · exact .inl (List.eq_nil_of_length_eq_zero (by omega))
theorem reach_at {el sp : Nat} (h : (el + sp) * Tryd.prog.bytesOf 5 ≤ reachBytes) : el ≤ 140737488351232 := by
  rw [bytes5] at h
  simp only [reachBytes] at h
  omega
theorem torn_door_met (os : Os) (args : Array Value) : laidMetH Tryd.prog Rows.topTornRow.laid ((World.doorLaid Tryd.prog 4000 os).forCall (fun _ _ => 0) ⟨#[], args, []⟩).memory :=
  laidMetH_of_parts3 (fuel := 8) (laidMet_of_run' 8 (by kernel_rfl) (by kernel_rfl)) (by kernel_rfl) (by kernel_rfl)
theorem torn_reads (os : Os) {H : Type} (enc : TypeId × Value → H) : ∃ places, DataW.whole enc Tryd.prog ((World.doorLaid Tryd.prog 4000 os).forCall (fun _ _ => 0) ⟨#[], #[.slice none 0 0, .agg #[.int .i64 0, .int .u8 0, .slice none 0 0]], []⟩).memory Tryd.f4.params.toList (OpenSpec.ofChange Rows.topTornSpec).vars false #[Value.slice none 0 0, .agg #[.int .i64 0, .int .u8 0, .slice none 0 0]].toList 8 = some ([.nil, .agg [.lit (.int .i64 0), .lit (.int .u8 0), .nil]], [], places) :=
  ⟨[], by kernel_rfl⟩

set_option maxRecDepth 100000 in
theorem torn_lifted (os : Os) (started : os.Started) (H : Type) (enc : TypeId × Value → H) (F : Stop.Interp) :
    ReturnsInHanded {} Tryd.checked os 4 .any ((OpenSpec.ofChange Rows.topTornSpec).preRow enc Tryd.prog Tryd.f4 Rows.topTornRow.domain false Rows.topTornRow.laid) (((OpenSpec.ofChange Rows.topTornSpec).at F).post enc Tryd.prog Tryd.f4 false true false false) := by
  obtain ⟨places, hx⟩ := torn_reads os enc
  refine returnsInHanded_of_row (C := Tryd.checked) (s := OpenSpec.ofChange Rows.topTornSpec) own started (by kernel_rfl) Tryd.func4
    (witness_row_at (enc := enc) (C := Tryd.checked) false (World.doorLaid Tryd.prog 4000 os) #[.slice none 0 0, .agg #[.int .i64 0, .int .u8 0, .slice none 0 0]] rfl (by kernel_rfl) (by kernel_rfl) (by kernel_rfl)
      (OpenSpec.preRow_of_cond 8 hx (by kernel_rfl) (fun k hk => by cases hk) (by kernel_rfl) (torn_door_met os _))) ?_
  intro W base args ds gs before hval0 hW _ _ hsz0 hL _ _
  have hsz : (DataW.weightsEach Tryd.prog (Tryd.f4.params.toList ++ DataSpec.varTypes Tryd.prog (OpenSpec.ofChange Rows.topTornSpec).bare.plain) (ds ++ gs)).all (· ≤ reachBytes) = true := hsz0
  have hval : ∀ (j : Nat) t v, Tryd.f4.params[j]? = some t → args[j]? = some v → Value.okWide Tryd.prog W .any base t v := hval0
  have hW' := hW
  obtain ⟨p, q, hA0, hV, rfl, hfz, hnd⟩ := hW
  have hA : DataW.TrodAll enc Tryd.prog W 0 (fun _ => true) true Tryd.f4.params.toList args.toList ds p := hA0
  rw [Tryd.params4] at hA hval hsz
  obtain ⟨v0, vs0, d0, ds0, p0, q0, hargs, rfl, rfl, h0, r0⟩ := trodAll_cons hA
  obtain ⟨v1, vs1, d1, ds1, p1, q1, rfl, rfl, rfl, h1, r1⟩ := trodAll_cons r0
  obtain ⟨rfl, rfl, rfl⟩ := trodAll_nil r1
  obtain rfl : args = #[v0, v1] := by cases args; simp_all
  obtain ⟨rfl, rfl⟩ := trodVars_none hV
  obtain ⟨a0, len0, cap0, rfl⟩ := okWide_slice Tryd.underlying27 (hval 0 27 v0 rfl rfl)
  have lt0 : ∀ x ∈ p0, x.block < W.heap.size := by obtain ⟨m, hm⟩ := h0; exact DataW.trod_lt m _ _ _ hm
  have lt1 : ∀ x ∈ p1, x.block < W.heap.size := by obtain ⟨m, hm⟩ := h1; exact DataW.trod_lt m _ _ _ hm
  obtain ⟨A, hA1, hA2, hA3, hA4⟩ := view h0
  have h1' := h1
  obtain ⟨u0, u1, u2, y0, y1, y2, m, rfl, rfl, rfl, t0, t1, t2⟩ := Go.Joins.open_agg3 Tryd.underlying29 (by kernel_rfl) (by kernel_rfl) (hval 1 29 v1 rfl rfl) h1
  obtain ⟨z0, c0, _, w0⟩ := DataW.trod_int Tryd.underlying3 t0
  obtain ⟨z1, c1, _, w1⟩ := DataW.trod_int Tryd.underlying5 t1
  obtain rfl : u0 = .int .i64 z0 := by simpa using c0
  obtain rfl : u1 = .int .u8 z1 := by simpa using c1
  have b0 : -9223372036854775808 ≤ z0 ∧ z0 ≤ 9223372036854775807 := by simpa [Lit.wf, IntKind.min, IntKind.max, IntKind.signed, IntKind.bits] using w0
  have b1 := bounds_u8 w1
  have hsl : ∃ a len cap, u2 = .slice a len cap := by
    rcases open_ints Tryd.underlying27 Tryd.underlying5 (by kernel_rfl) t2 with ⟨hcs, _⟩ | ⟨x, l, c, zs, hcs, _⟩
    · exact ⟨_, _, _, by simpa using hcs⟩
    · exact ⟨_, _, _, by simpa using hcs⟩
  obtain ⟨a2, len2, cap2, rfl⟩ := hsl
  obtain ⟨T, hT1, hT2, hT3, hT4⟩ := view (W := W) (enc := enc) (a := a2) (len := len2) (cap := cap2) (d := y2.1) (p := y2.2) ⟨m, t2⟩
  have hb : len2 ≤ 140737488351232 := by
    rcases hT4 with ⟨_, rfl⟩ | ⟨el, sp, he, rfl⟩
    · omega
    · have hm := List.all_eq_true.1 hsz _ (DataW.weights_mem_each (j := 1) (t := 29) rfl rfl ((el.length + sp.length) * Tryd.prog.bytesOf 5) (by simp only [DataW.weights, Tryd.underlying29, he]; simp [DataW.weightsEach, DataW.weights, Tryd.underlying27]))
      exact reach_at (of_decide_eq_true hm)
  have ez : z1 = ((UInt8.ofNat z1.toNat).toNat : Int) := by rw [UInt8.toNat_ofNat']; omega
  have hL2 : laidMet Tryd.prog Rows.topTornRow.laid W := by rw [← MakeChecks.laidMetH_plain _ _ _ (by kernel_rfl)]; exact hL
  clear hA0 hval0
  have key := torn_any a0 A len0 cap0 z0 (UInt8.ofNat z1.toNat) a2 T len2 cap2 W hA1 (byt_of hA1 hA3) hT1 (byt_of hT1 hT3) hb b0.1 b0.2 (nibs_of hL2 (by simp [Rows.topTornRow]))
  rw [← ez] at key
  refine key.mono fun e W' ⟨he, bel⟩ => ?_
  subst he
  exact ⟨_, rfl, _, _, _, [], _, [], hW', trodAll_mk1 (shut_bool Tryd.underlying4 _), (trodAll_cons_mk (Below.trod laidOut (by kernel_rfl) (of_decide_eq_true (by kernel_rfl)) h0 bel lt0) (trodAll_cons_mk (Below.trod laidOut (by kernel_rfl) (of_decide_eq_true (by kernel_rfl)) h1' bel lt1) trodAll_mk0)), rfl, bel.frame _, fun h => by cases h⟩

theorem topTorn_row : Rows.TopTornSaid :=
  OpenClaim.holds_of_cond 4 Tryd.f4 rfl rfl rfl rfl rfl rfl rfl ⟨rfl, rfl, rfl, rfl, rfl⟩ rfl rfl rfl rfl rfl (by kernel_rfl) Tryd.func4 (by kernel_rfl)
    (of_decide_eq_true (by kernel_rfl)) (by unfold Func.isWrapper; first | (rw [if_pos (by decide +kernel)]; kernel_rfl) | (rw [if_neg (by decide +kernel)]; exact ⟨rfl, rfl⟩))
    (fun os started H enc _ F => by rw [OpenClaim.pre_eq_preRow]; exact torn_lifted os started H enc F)

theorem topTorn_holds : Rows.TopTornCardSaid :=
  Claim7.holds_tied_plain_at .later [] _ _ _ _
    topTorn_row (fun _ h => by cases h) (by kernel_rfl) (fun _ h => by cases h) topTorn_row_tie rfl ⟨rfl, rfl⟩ (by kernel_rfl) rfl
    (fun f fn hf hfn => by
      obtain rfl : f = 4 := Option.some.inj ((show Tryd.prog.funcNamed "estuary/estuarytop.TopTorn" = some 4 by kernel_rfl).symm.trans hf) |>.symm
      obtain rfl : fn = Tryd.f4 := (Option.some.inj (Tryd.func4.symm.trans hfn)).symm
      exact ⟨by kernel_rfl, fun j t ht => by
        rw [Tryd.params4] at ht
        have hm : t ∈ [27, 29] := by
          have := Array.mem_of_getElem? ht
          simpa using this
        have hall : ([27, 29].all fun u => !Tryd.prog.wantsStandIn u) = true := by kernel_rfl
        exact (show Tryd.prog.wantsStandIn t = false by simpa using List.all_eq_true.1 hall t hm)⟩)
    (by kernel_rfl)
#print axioms topTorn_holds
end Go.Proofs.YtcipgnocmilkpaaDoor
