import Derived.Test.YthlcmijekgjgjaaDoorRh
import Derived.Test.YthlcmijekgjgjaaDoorTie
import Derived.Test.YthlcmijekgjgjaaDoorCards
import Derived.WalkKit
import Derived.ProofKit
import Derived.OpenShut
import Derived.ChangeOld
import Derived.Below
import Derived.LaidMore
import Derived.Lib.LaidTab
import Derived.Lib.LaidU8
import Derived.Stop.Joined
import Derived.SizedLaws
import Derived.SevenTiedAt
namespace Go.Proofs.YthlcmijekgjgjaaDoor
open Go.ChangeShapes Go.WideShapes Go.ChangeAt Go.RowKit
set_option linter.unusedVariables false
set_option linter.unusedSimpArgs false

theorem own : ownKnob Tryd.prog.godebug = none := by kernel_rfl
theorem laidOut : laidOutB Tryd.prog = true := by kernel_rfl
/-- A listed table of numbers of 32 bits: its cells. -/
theorem tab_cells {W : World} {name : String} {l : List UInt32} {laid : List (String × DataW Unit)} {g : Nat} {t : TypeId} {n : Nat} (h : laidMet Tryd.prog laid W) (hm : (name, Lib.tabData .u32 (l.map U)) ∈ laid)
    (hg : Tryd.prog.globalNamed name = some g) (hty : (Tryd.prog.globals[g]?).map (·.type) = some t) (ht : Tryd.prog.underlying t = some (.array n 51)) (hct : Tryd.prog.cellsOf t = n) :
    ∀ j, j < l.length → W.cell? ⟨g, j, none⟩ = some (.int .u32 (U (l.getD j 0))) := by
  obtain ⟨g', t', cs, fuel, p, hg', ht', hvar, hd⟩ := Lib.laidMet.reads h hm
  obtain rfl := Option.some.inj (hg.symm.trans hg')
  obtain rfl := Option.some.inj (hty.symm.trans ht')
  have hc := Lib.cells_of_tab ht Tryd.underlying51 (by kernel_rfl) hct hd
  have hT : Lib.TabIs Tryd.prog W name .u32 (l.map U) := by
    unfold Lib.TabIs
    rw [hvar, ← hc]
  intro j hj
  rw [hT.cell hg j (by simpa using hj)]
  have e : (l.map U).getD j 0 = U (l.getD j 0) := by simp [List.getElem?_eq_getElem hj]
  rw [e]
theorem gFirst : Tryd.prog.globalNamed "estuary/digest.firstState" = some 1 := by kernel_rfl
theorem gKeys : Tryd.prog.globalNamed "estuary/digest.roundKeys" = some 3 := by kernel_rfl
theorem gRoots : Tryd.prog.globalNamed "estuary/estuaryref01.roots" = some 0 := by kernel_rfl
theorem gRounds : Tryd.prog.globalNamed "estuary/estuaryref01.rounds" = some 2 := by kernel_rfl
theorem dFirst {H : Type} : (Rows.laid_estuary_digest_firstState : DataW H) = Lib.tabData .u32 (first.list.map U) := by kernel_rfl
theorem dKeys {H : Type} : (Rows.laid_estuary_digest_roundKeys : DataW H) = Lib.tabData .u32 (keys.map U) := by kernel_rfl
theorem dRoots {H : Type} : (Rows.laid_estuary_estuaryref01_roots : DataW H) = Lib.tabData .u32 (first.list.map U) := by kernel_rfl
theorem dRounds {H : Type} : (Rows.laid_estuary_estuaryref01_rounds : DataW H) = Lib.tabData .u32 (keys.map U) := by kernel_rfl
theorem first_of {W : World} {laid : List (String × DataW Unit)} (h : laidMet Tryd.prog laid W) (hm : ("estuary/digest.firstState", Rows.laid_estuary_digest_firstState) ∈ laid) : FirstAt W := by
  rw [dFirst] at hm
  exact tab_cells (n := 8) h hm gFirst (t := 52) (by kernel_rfl) Tryd.underlying52 (by kernel_rfl)
theorem keys_of {W : World} {laid : List (String × DataW Unit)} (h : laidMet Tryd.prog laid W) (hm : ("estuary/digest.roundKeys", Rows.laid_estuary_digest_roundKeys) ∈ laid) : KeysAt W := by
  rw [dKeys] at hm
  exact tab_cells (n := 64) h hm gKeys (t := 58) (by kernel_rfl) Tryd.underlying58 (by kernel_rfl)
theorem roots_of {W : World} {laid : List (String × DataW Unit)} (h : laidMet Tryd.prog laid W) (hm : ("estuary/estuaryref01.roots", Rows.laid_estuary_estuaryref01_roots) ∈ laid) : RootsAt W := by
  rw [dRoots] at hm
  exact tab_cells (n := 8) h hm gRoots (t := 52) (by kernel_rfl) Tryd.underlying52 (by kernel_rfl)
theorem rounds_of {W : World} {laid : List (String × DataW Unit)} (h : laidMet Tryd.prog laid W) (hm : ("estuary/estuaryref01.rounds", Rows.laid_estuary_estuaryref01_rounds) ∈ laid) : RoundsAt W := by
  rw [dRounds] at hm
  exact tab_cells (n := 64) h hm gRounds (t := 58) (by kernel_rfl) Tryd.underlying58 (by kernel_rfl)
theorem cells26 : Tryd.prog.cellsOf 26 = 33 := by kernel_rfl
theorem cells3 : Tryd.prog.cellsOf 3 = 1 := by kernel_rfl
theorem cells24 : Tryd.prog.cellsOf 24 = 32 := by kernel_rfl
/-- The cells of a key that came in. -/
theorem key_cells {H : Type} {enc : TypeId × Value → H} {W : World} {fuel : Nat} {cs : List Value} {y : DataW H × List MemPlace} (h : DataW.trod enc Tryd.prog W 0 (fun _ => true) true fuel 24 cs = some y) : ∃ k : List UInt8, k.length = 32 ∧ cs = kcs k := by
  obtain ⟨xs, m, _, _, hlen, hxs, hall⟩ := DataW.trod_array Tryd.underlying24 h
  rw [cells24] at hlen
  have hce : Tryd.prog.cellsOf 5 = 1 := by kernel_rfl
  have key : ∀ i (hi : i < cs.length), ∃ z : Int, cs[i] = .int .u8 z ∧ 0 ≤ z ∧ z ≤ 255 := by
    intro i hi
    have h1 := hall i (by omega)
    rw [hce, Nat.mul_one, List.getElem?_eq_getElem (by omega)] at h1
    obtain ⟨z, e0, _, w0⟩ := DataW.trod_int Tryd.underlying5 h1
    have hb := bounds_u8 w0
    refine ⟨z, ?_, hb.1, hb.2⟩
    rw [List.drop_eq_getElem_cons hi, List.take_succ_cons, List.take_zero] at e0
    exact (List.cons.inj e0).1
  refine ⟨cs.map (fun v => UInt8.ofNat (intOf v).toNat), by simpa using hlen, ?_⟩
  apply List.ext_getElem
  · simp [kcs]
  · intro i h1 h2
    obtain ⟨z, hz, z0, z1⟩ := key i h1
    simp only [kcs, List.map_map, List.getElem_map, Function.comp_apply]
    rw [hz]
    simp only [intOf, Value.int.injEq, true_and]
    rw [UInt8.toNat_ofNat']
    omega
theorem bytes26 : Tryd.prog.bytesOf 26 = 40 := by kernel_rfl
theorem list2 {α : Type} {l : List α} (h : l.length = 2) : ∃ c0 c1, l = [c0, c1] := by
  match l, h with
  | [c0, c1], _ => exact ⟨c0, c1, rfl⟩
theorem i64_wf {z : Int} (h : (Lit.int .i64 z).wf = true) : -9223372036854775808 ≤ z ∧ z ≤ 9223372036854775807 := by
  simp [Lit.wf, IntKind.min, IntKind.max, IntKind.signed, IntKind.bits] at h
  omega
/-- The cells of a holder that came in. -/
theorem hd_cells {H : Type} {enc : TypeId × Value → H} {W : World} {fuel : Nat} {cs : List Value} {y : DataW H × List MemPlace} (h : DataW.trod enc Tryd.prog W 0 (fun _ => true) true fuel 26 cs = some y) : ∃ x : Hd, cs = hdC x ∧ HdOk x := by
  obtain ⟨xs, n, _, hx, hcl, hlen, hfs⟩ := DataW.trod_struct Tryd.underlying26 h
  rw [cells26] at hcl
  have hlen : xs.length = 2 := hlen
  obtain ⟨y0, y1, rfl⟩ := list2 hlen
  obtain ⟨c0, t, rfl⟩ : ∃ c0 t, cs = c0 :: t := by
    cases cs with
    | nil => simp at hcl
    | cons c0 t => exact ⟨c0, t, rfl⟩
  have ht : t.length = 32 := by simpa using hcl
  have t0 : DataW.trod enc Tryd.prog W 0 (fun _ => true) true n 3 [c0] = some y0 := by simpa [cells3] using hfs 0 _ rfl
  have t1 : DataW.trod enc Tryd.prog W 0 (fun _ => true) true n 24 t = some y1 := by
    have := hfs 1 _ rfl
    simpa [cells24, List.take_of_length_le (Nat.le_of_eq ht)] using this
  obtain ⟨z0, e0, _, w0⟩ := DataW.trod_int Tryd.underlying3 t0
  obtain ⟨k, hk, rfl⟩ := key_cells t1
  simp at e0
  subst e0
  have b := i64_wf w0
  exact ⟨⟨z0, k⟩, rfl, hk, b.1, b.2⟩
/-- What a slice of holders that came in gives a walk. -/
theorem view_hds {H : Type} {enc : TypeId × Value → H} {W : World} {a : Option Addr} {len cap : Nat} {d : DataW H} {p : List MemPlace}
    (h : DataW.Trod enc Tryd.prog W 0 (fun _ => true) true 22 (.slice a len cap) d p) (hw : ∀ n ∈ d.weights Tryd.prog 22, n ≤ reachBytes) :
    ∃ l : List Hd, l.length = len ∧ len ≤ 3518437208780 ∧ (∀ o ∈ l, HdOk o) ∧ HdsAt W a l := by
  obtain ⟨fuel, hf⟩ := h
  rcases DataW.trod_slice Tryd.underlying22 hf with ⟨hcs', hx⟩ | ⟨ad, l, c, elems, rest, n, _, hcs', hx, _, hl, hm, hel, hcell, _, _⟩
  · simp [Value.cells] at hcs'
    obtain ⟨rfl, rfl, rfl⟩ := hcs'
    exact ⟨[], rfl, by omega, fun o ho => (by cases ho), .inl rfl⟩
  · simp [Value.cells] at hcs'
    obtain ⟨rfl, rfl, rfl⟩ := hcs'
    simp only [Prod.mk.injEq] at hx
    obtain ⟨b, off, spot⟩ := ad
    have hbd : len ≤ 3518437208780 := by
      have := hw ((elems.map (·.1)).length * Tryd.prog.bytesOf 26 + (rest.map (·.1)).length * Tryd.prog.bytesOf 26) (by
        rw [hx.1]
        simp only [DataW.weights, Tryd.underlying22, List.mem_cons, List.mem_append, Nat.add_mul]
        exact .inl trivial)
      rw [bytes26] at this
      simp only [reachBytes, List.length_map] at this
      omega
    have raw : ∀ i, i < len → ∃ x : Hd, HdOk x ∧ ∀ j u, (hdC x)[j]? = some u → W.cell? (((⟨b, off, spot⟩ : Addr).add (i * 33)).add j) = some u := fun i hi => by
      have hi2 := hcell i hi
      have hlt : i < elems.length := by omega
      rw [List.getElem?_eq_getElem hlt, cells26, Option.bind_eq_some_iff] at hi2
      obtain ⟨cs, hc1, hc2⟩ := hi2
      obtain ⟨o, rfl, ok⟩ := hd_cells hc2
      obtain ⟨_, _, hc3⟩ := World.cells?_some hc1
      refine ⟨o, ok, fun j u hu => ?_⟩
      have hj := (List.getElem?_eq_some_iff.1 hu).1
      have hj : j < 33 := by rw [hdC_len ok] at hj; exact hj
      rw [hc3 j hj]
      exact hu
    have hspot : 0 < len → spot = none := fun h0 => by
      obtain ⟨x, ok, hc⟩ := raw 0 h0
      have q := hc 0 _ (List.getElem?_eq_getElem (by rw [hdC_len ok]; omega))
      have := World.cell?_spot q
      simpa [Addr.add] using this
    let F : Nat → Hd := fun i => if h : i < len then Classical.choose (raw i h) else zHd
    have hF : ∀ i (h : i < len), F i = Classical.choose (raw i h) := fun i h => dif_pos h
    have key : ∀ i o, ((List.range len).map F)[i]? = some o → i < len ∧ HdOk o ∧ ∀ j u, (hdC o)[j]? = some u → W.cell? (((⟨b, off, spot⟩ : Addr).add (i * 33)).add j) = some u := fun i o hv => by
      have hi : i < len := by
        have := (List.getElem?_eq_some_iff.1 hv).1
        simpa using this
      rw [List.getElem?_map, List.getElem?_range hi] at hv
      simp only [Option.map_some, Option.some.injEq] at hv
      rw [hF i hi] at hv
      have sp := Classical.choose_spec (raw i hi)
      rw [hv] at sp
      exact ⟨hi, sp⟩
    refine ⟨(List.range len).map F, by simp, hbd, fun o ho => ?_, ?_⟩
    · obtain ⟨i, hi⟩ := List.mem_iff_getElem?.1 ho
      exact (key i o hi).2.1
    by_cases h0 : 0 < len
    · have hs := hspot h0
      subst hs
      have cell : ∀ i o, ((List.range len).map F)[i]? = some o → W.rangeAt b (off + 33 * i) (hdC o) := fun i o hv j u hu => by
        have := (key i o hv).2.2 j u hu
        rw [Addr.add_mid, Addr.add_mid] at this
        rwa [show off + 33 * i + j = off + i * 33 + j by omega]
      refine .inr ⟨b, off, rfl, ?_, cell⟩
      have hlt : 0 < ((List.range len).map F).length := by simpa using h0
      have e0 := List.getElem?_eq_getElem hlt
      exact World.block_lt_of_cell? W ⟨b, off + 33 * 0 + 0, none⟩ (cell 0 _ e0 0 _ rfl)
    · obtain rfl : len = 0 := by omega
      exact .inl rfl
end Go.Proofs.YthlcmijekgjgjaaDoor
