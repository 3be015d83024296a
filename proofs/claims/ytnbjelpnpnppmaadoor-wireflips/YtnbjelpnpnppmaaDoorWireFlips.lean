import Derived.Test.YtnbjelpnpnppmaaDoorView
import Derived.Test.YtnbjelpnpnppmaaDoorFlW
import Derived.Test.YtnbjelpnpnppmaaDoorTie
import Derived.Test.YtnbjelpnpnppmaaDoorCards
import Derived.SevenTiedAt
import Derived.Lay
import Derived.Lib.SmallJoins
namespace Go.Proofs.YtnbjelpnpnppmaaDoor
open Go.ChangeShapes Go.WideShapes Go.ChangeAt Go.RowKit
set_option linter.unusedVariables false
set_option linter.unusedSimpArgs false

/-- A listed table of numbers of 32 bits: its cells. -/
theorem tab_cells {W : World} {name : String} {l : List UInt32} {laid : List (String × DataW Unit)} {g : Nat} {t : TypeId} {n : Nat} (h : laidMet Tryd.prog laid W) (hm : (name, Lib.tabData .u32 (l.map U)) ∈ laid)
    (hg : Tryd.prog.globalNamed name = some g) (hty : (Tryd.prog.globals[g]?).map (·.type) = some t) (ht : Tryd.prog.underlying t = some (.array n 56)) (hct : Tryd.prog.cellsOf t = n) :
    ∀ j, j < l.length → W.cell? ⟨g, j, none⟩ = some (.int .u32 (U (l.getD j 0))) := by
  obtain ⟨g', t', cs, fuel, p, hg', ht', hvar, hd⟩ := Lib.laidMet.reads h hm
  obtain rfl := Option.some.inj (hg.symm.trans hg')
  obtain rfl := Option.some.inj (hty.symm.trans ht')
  have hc := Lib.cells_of_tab ht Tryd.underlying56 (by kernel_rfl) hct hd
  have hT : Lib.TabIs Tryd.prog W name .u32 (l.map U) := by
    unfold Lib.TabIs
    rw [hvar, ← hc]
  intro j hj
  rw [hT.cell hg j (by simpa using hj)]
  have e : (l.map U).getD j 0 = U (l.getD j 0) := by simp [List.getElem?_eq_getElem hj]
  rw [e]

theorem gNib : Tryd.prog.globalNamed "estuary/digest.crcNibbles" = some 0 := by kernel_rfl
theorem dNib {H : Type} : (Rows.laid_estuary_digest_crcNibbles : DataW H) = Lib.tabData .u32 (nibs.map U) := by kernel_rfl
theorem nibT : ∃ t, (Tryd.prog.globals[0]?).map (·.type) = some t ∧ Tryd.prog.underlying t = some (.array 16 56) ∧ Tryd.prog.cellsOf t = 16 := by
  refine ⟨((Tryd.prog.globals[0]?).map (·.type)).getD 0, by kernel_rfl, by kernel_rfl, by kernel_rfl⟩
theorem nibs_of {W : World} {laid : List (String × DataW Unit)} (h : laidMet Tryd.prog laid W) (hm : ("estuary/digest.crcNibbles", Rows.laid_estuary_digest_crcNibbles) ∈ laid) : NibsAt W := by
  rw [dNib] at hm
  obtain ⟨t, h1, h2, h3⟩ := nibT
  exact tab_cells (n := 16) h hm gNib (t := t) h1 h2 h3
theorem byt_of {W : World} {a : Option Addr} {L : List UInt8} {len : Nat} (hl : L.length = len) (h : 0 < len → ∃ b off, a = some ⟨b, off, none⟩ ∧ ∀ j, j < len → W.cell? ⟨b, off + j, none⟩ = some (.int .u8 (at8 L j))) : Byt W a L := by
  by_cases h0 : 0 < len
  · obtain ⟨b, off, e, hc⟩ := h h0
    exact .inr ⟨b, off, e, fun j hj => hc j (by omega)⟩
  · exact .inl (List.eq_nil_of_length_eq_zero (by omega))
theorem reach_at {el sp : Nat} (h : (el + sp) * Tryd.prog.bytesOf 5 ≤ reachBytes) : el ≤ 140737488351232 := by
  rw [bytes5] at h
  simp only [reachBytes] at h
  omega
theorem flips_door_met (os : Os) (args : Array Value) : laidMetH Tryd.prog Rows.wireFlipsRow.laid ((World.laidAll Tryd.prog os Rows.wireFlipsRow.laid).forCall (fun _ _ => 0) ⟨#[], args, []⟩).memory := by
  rw [MakeChecks.laidMetH_plain _ _ _ (by kernel_rfl)]
  exact laidMet_laidAll args (by kernel_rfl) (by kernel_rfl)
theorem array6 {α : Type} {cs : Array α} (h : cs.size = 6) : ∃ c0 c1 c2 c3 c4 c5, cs = #[c0, c1, c2, c3, c4, c5] := by
  obtain ⟨l⟩ := cs
  match l, h with
  | [c0, c1, c2, c3, c4, c5], _ => exact ⟨c0, c1, c2, c3, c4, c5, rfl⟩
theorem list6 {α : Type} {l : List α} (h : l.length = 6) : ∃ c0 c1 c2 c3 c4 c5, l = [c0, c1, c2, c3, c4, c5] := by
  match l, h with
  | [c0, c1, c2, c3, c4, c5], _ => exact ⟨c0, c1, c2, c3, c4, c5, rfl⟩
theorem cells5 : Tryd.prog.cellsOf 5 = 1 := by kernel_rfl
theorem cells23 : Tryd.prog.cellsOf 23 = 1 := by kernel_rfl
theorem cells3 : Tryd.prog.cellsOf 3 = 1 := by kernel_rfl
/-- A Spoil that came in, opened. -/
theorem spoil_open {H : Type} {enc : TypeId × Value → H} {W : World} {base : Nat} {v : Value} {d : DataW H} {p : List MemPlace} (hv : Value.okWide Tryd.prog W .any base 25 v) (h : DataW.Trod enc Tryd.prog W 0 (fun _ => true) true 25 v d p) :
    ∃ (v0 v1 v2 v3 v4 v5 : Value) (y0 y1 y2 y3 y4 y5 : DataW H × List MemPlace) (n : Nat), v = .agg #[v0, v1, v2, v3, v4, v5] ∧ d = .agg [y0.1, y1.1, y2.1, y3.1, y4.1, y5.1] ∧
      DataW.trod enc Tryd.prog W 0 (fun _ => true) true n 5 [v0] = some y0 ∧ DataW.trod enc Tryd.prog W 0 (fun _ => true) true n 23 [v1] = some y1 ∧ DataW.trod enc Tryd.prog W 0 (fun _ => true) true n 3 [v2] = some y2 ∧
      DataW.trod enc Tryd.prog W 0 (fun _ => true) true n 5 [v3] = some y3 ∧ DataW.trod enc Tryd.prog W 0 (fun _ => true) true n 3 [v4] = some y4 ∧ DataW.trod enc Tryd.prog W 0 (fun _ => true) true n 23 [v5] = some y5 := by
  obtain ⟨cs, rfl, hsz⟩ := okWide_struct Tryd.underlying25 hv
  obtain ⟨c0, c1, c2, c3, c4, c5, rfl⟩ := array6 (hsz.trans (by kernel_rfl))
  obtain ⟨fuel, hf⟩ := h
  obtain ⟨xs, n, _, hx, _, hlen, hfs⟩ := DataW.trod_struct Tryd.underlying25 hf
  obtain ⟨y0, y1, y2, y3, y4, y5, rfl⟩ := list6 hlen
  simp only [Prod.mk.injEq] at hx
  refine ⟨c0, c1, c2, c3, c4, c5, y0, y1, y2, y3, y4, y5, n, rfl, hx.1, ?_, ?_, ?_, ?_, ?_, ?_⟩
  · simpa [Value.cells, cells5] using hfs 0 _ rfl
  · simpa [Value.cells, cells23] using hfs 1 _ rfl
  · simpa [Value.cells, cells3] using hfs 2 _ rfl
  · simpa [Value.cells, cells5] using hfs 3 _ rfl
  · simpa [Value.cells, cells3] using hfs 4 _ rfl
  · simpa [Value.cells, cells23] using hfs 5 _ rfl

set_option maxRecDepth 100000 in
theorem flips_lifted (os : Os) (started : os.Started) (H : Type) (enc : TypeId × Value → H) :
    ReturnsInHanded {} Tryd.checked os 4 .any (fun w args => (Rows.wireFlipsSpec.pre enc Tryd.prog Tryd.f4 [] false w args ∧ laidMetH Tryd.prog Rows.wireFlipsRow.laid w) ∧ sizedMet enc Tryd.prog Tryd.f4 (OpenSpec.ofChange Rows.wireFlipsSpec) false w args)
      (Rows.wireFlipsSpec.post enc Tryd.prog Tryd.f4 false true false false) := by
  refine returnsInHanded_of_change_and (C := Tryd.checked) (X := fun w _ => laidMetH Tryd.prog Rows.wireFlipsRow.laid w) (fun _ _ _ hh h => h.of_heap hh) own started (by kernel_rfl) Tryd.func4
    (ChangeSpec.witness_shaped (enc := enc) (C := Tryd.checked) (os := os) (X := fun w _ => laidMetH Tryd.prog Rows.wireFlipsRow.laid w) false (World.laidAll Tryd.prog os Rows.wireFlipsRow.laid) #[.agg #[.int .u8 0, .slice none 0 0, .int .i64 0, .int .u8 0, .int .i64 0, .slice none 0 0]] 8 rfl (World.shaped_of_ZipB (by kernel_rfl) (by kernel_rfl)) (by kernel_rfl) (by kernel_rfl) (by kernel_rfl) (flips_door_met os _)) ?_
  intro W base args ds gs before hval0 hW _ hsz0 hL _
  have hval : ∀ (j : Nat) t v, Tryd.f4.params[j]? = some t → args[j]? = some v → Value.okWide Tryd.prog W .any base t v := hval0
  have hsz : (DataW.weightsEach Tryd.prog (Tryd.f4.params.toList ++ Rows.wireFlipsSpec.plain.varTypes Tryd.prog) (ds ++ gs)).all (· ≤ reachBytes) = true := hsz0
  have hW' := hW
  obtain ⟨p, q, hA0, hV, rfl, hfz, hnd⟩ := hW
  have hA : DataW.TrodAll enc Tryd.prog W 0 (fun _ => true) true Tryd.f4.params.toList args.toList ds p := hA0
  rw [Tryd.params4] at hA hval hsz
  obtain ⟨v0, vs0, d0, ds0, p0, q0, hargs, rfl, rfl, h0, r0⟩ := trodAll_cons hA
  obtain ⟨rfl, rfl, rfl⟩ := trodAll_nil r0
  obtain rfl : args = #[v0] := by cases args; simp_all
  obtain ⟨rfl, rfl⟩ := trodVars_none hV
  have lt0 : ∀ x ∈ p0, x.block < W.heap.size := by obtain ⟨m, hm⟩ := h0; exact DataW.trod_lt m _ _ _ hm
  have h0' := h0
  obtain ⟨u0, u1, u2, u3, u4, u5, y0, y1, y2, y3, y4, y5, m, rfl, rfl, t0, t1, t2, t3, t4, t5⟩ := spoil_open (hval 0 25 v0 rfl rfl) h0
  obtain ⟨z0, c0, _, w0⟩ := DataW.trod_int Tryd.underlying5 t0
  obtain ⟨z2, c2, _, w2⟩ := DataW.trod_int Tryd.underlying3 t2
  obtain ⟨z3, c3, _, w3⟩ := DataW.trod_int Tryd.underlying5 t3
  obtain ⟨z4, c4, _, w4⟩ := DataW.trod_int Tryd.underlying3 t4
  obtain rfl : u0 = .int .u8 z0 := by simpa using c0
  obtain rfl : u2 = .int .i64 z2 := by simpa using c2
  obtain rfl : u3 = .int .u8 z3 := by simpa using c3
  obtain rfl : u4 = .int .i64 z4 := by simpa using c4
  have b0 := bounds_u8 w0
  have b3 := bounds_u8 w3
  obtain ⟨a1, len1, cap1, e1⟩ := Go.Joins.slice_form Tryd.underlying23 t1
  obtain ⟨a5, len5, cap5, e5⟩ := Go.Joins.slice_form Tryd.underlying23 t5
  obtain rfl : u1 = .slice a1 len1 cap1 := by simpa using e1
  obtain rfl : u5 = .slice a5 len5 cap5 := by simpa using e5
  obtain ⟨A, hA1, hA2, hA3, hA4⟩ := view (W := W) (enc := enc) (a := a1) (len := len1) (cap := cap1) (d := y1.1) (p := y1.2) ⟨m, t1⟩
  obtain ⟨T, hT1, hT2, hT3, hT4⟩ := view (W := W) (enc := enc) (a := a5) (len := len5) (cap := cap5) (d := y5.1) (p := y5.2) ⟨m, t5⟩
  have hb : len5 ≤ 140737488351232 := by
    rcases hT4 with ⟨_, rfl⟩ | ⟨el, sp, he, rfl⟩
    · omega
    · have hm := List.all_eq_true.1 hsz _ (DataW.weights_mem_each (j := 0) (t := 25) rfl rfl ((el.length + sp.length) * Tryd.prog.bytesOf 5) (by simp only [DataW.weights, Tryd.underlying25, he]; simp [DataW.weightsEach, DataW.weights, Tryd.underlying23]))
      exact reach_at (of_decide_eq_true hm)
  have ez0 : z0 = ((UInt8.ofNat z0.toNat).toNat : Int) := by rw [UInt8.toNat_ofNat']; omega
  have ez3 : z3 = ((UInt8.ofNat z3.toNat).toNat : Int) := by rw [UInt8.toNat_ofNat']; omega
  have hL2 : laidMet Tryd.prog Rows.wireFlipsRow.laid W := by rw [← MakeChecks.laidMetH_plain _ _ _ (by kernel_rfl)]; exact hL
  clear hA0 hval0
  have key := flips_any (UInt8.ofNat z0.toNat) a1 A len1 cap1 z2 (UInt8.ofNat z3.toNat) z4 a5 T len5 cap5 W hA1 (byt_of hA1 hA3) hT1 (byt_of hT1 hT3) hb (nibs_of hL2 (by simp [Rows.wireFlipsRow]))
  rw [← ez0, ← ez3] at key
  refine key.mono fun e W' ⟨he, bel⟩ => ?_
  subst he
  exact ⟨_, rfl, _, _, _, [], _, [], hW', trodAll_mk1 (shut_bool Tryd.underlying4 _), (trodAll_cons_mk (Below.trod laidOut (by kernel_rfl) (of_decide_eq_true (by kernel_rfl)) h0' bel lt0) trodAll_mk0), rfl, bel.frame _, fun h => by cases h⟩

theorem wireFlips_row : Rows.WireFlipsSaid :=
  OpenClaim.holds_of_wide 4 Tryd.f4 rfl rfl rfl rfl rfl rfl rfl ⟨rfl, rfl, rfl, rfl, rfl⟩ rfl rfl rfl rfl rfl (by kernel_rfl) Tryd.func4 (by kernel_rfl)
    (of_decide_eq_true (by kernel_rfl)) (by unfold Func.isWrapper; first | (rw [if_pos (by decide +kernel)]; kernel_rfl) | (rw [if_neg (by decide +kernel)]; exact ⟨rfl, rfl⟩))
    (fun os started H enc _ => flips_lifted os started H enc)

theorem wireFlips_holds : Rows.WireFlipsCardSaid :=
  Claim7.holds_tied_plain_at .later [] _ _ _ _
    wireFlips_row (fun _ h => by cases h) (by kernel_rfl) (fun _ h => by cases h) wireFlips_row_tie rfl ⟨rfl, rfl⟩ (by kernel_rfl) rfl
    (fun f fn hf hfn => by
      obtain rfl : f = 4 := Option.some.inj ((show Tryd.prog.funcNamed "estuary/estuarylaw02.WireFlips" = some 4 by kernel_rfl).symm.trans hf) |>.symm
      obtain rfl : fn = Tryd.f4 := (Option.some.inj (Tryd.func4.symm.trans hfn)).symm
      exact ⟨by kernel_rfl, fun j t ht => by
        rw [Tryd.params4] at ht
        have hm : t ∈ [25] := by
          have := Array.mem_of_getElem? ht
          simpa using this
        have hall : ([25].all fun u => !Tryd.prog.wantsStandIn u) = true := by kernel_rfl
        exact (show Tryd.prog.wantsStandIn t = false by simpa using List.all_eq_true.1 hall t hm)⟩)
    (by kernel_rfl)
#print axioms wireFlips_holds
end Go.Proofs.YtnbjelpnpnppmaaDoor
