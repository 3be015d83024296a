import Derived.Test.YthffcdahjcpdfaaGreatDoorGZc
import Derived.Test.YthffcdahjcpdfaaGreatDoorRows
import Derived.WalkKit
import Derived.ProofKit
import Derived.OpenShut
import Derived.ShutString
import Derived.ChangeOld
import Derived.Below
import Derived.SizedLaws
import Derived.Deep.Slices
import Derived.Test.YthffcdahjcpdfaaGreatDoorTie
import Derived.Test.YthffcdahjcpdfaaGreatDoorCards
import Derived.Lib.LaidU8T
import Derived.Lib.LaidU8
import Derived.LaidMore
import Derived.Stop.Joined
import Derived.Stop.LaidErr
import Derived.Stop.LaidTwo
import Derived.SevenTiedAt
import Derived.Lay
import Derived.Lib.SmallJoins
import Derived.Deep.DeepHandedRow
import Derived.JoinedCond
import Derived.Laws.Cover2
import Derived.Lib.LaidTab
namespace Go.Proofs.YthffcdahjcpdfaaGreatDoor
open Go.ChangeShapes Go.WideShapes Go.ChangeAt Go.RowKit
set_option linter.unusedVariables false
set_option linter.unusedSimpArgs false

theorem own : ownKnob Tryz.prog.godebug = none := by kernel_rfl
theorem laidOut : laidOutB Tryz.prog = true := by kernel_rfl
theorem bytesS : Tryz.prog.bytesOf 54 = 32 := by kernel_rfl
theorem cellsS : Tryz.prog.cellsOf 54 = 3 := by kernel_rfl
theorem coK : Tryz.prog.cellsOf 52 = 1 := by kernel_rfl
theorem co9 : Tryz.prog.cellsOf 9 = 1 := by kernel_rfl
theorem co3 : Tryz.prog.cellsOf 3 = 1 := by kernel_rfl
theorem li3 {α : Type} {l : List α} (h : l.length = 3) : ∃ c0 c1 c2, l = [c0, c1, c2] := by
  match l, h with
  | [c0, c1, c2], _ => exact ⟨c0, c1, c2, rfl⟩
theorem step_cells {H : Type} {enc : TypeId × Value → H} {W : World} {fuel : Nat} {cs : List Value} {y : DataW H × List MemPlace} (h : DataW.trod enc Tryz.prog W 0 (fun _ => true) true fuel 54 cs = some y) : ∃ p : St, cs = p.c.toList := by
  obtain ⟨xs, n, _, hx, hcl, hlen, hfs⟩ := DataW.trod_struct Tryz.underlying54 h
  rw [cellsS] at hcl
  have hlen : xs.length = 3 := hlen
  obtain ⟨y0, y1, y2, rfl⟩ := li3 hlen
  obtain ⟨c0, c1, c2, rfl⟩ := li3 hcl
  have t0 : DataW.trod enc Tryz.prog W 0 (fun _ => true) true n 52 [c0] = some y0 := by simpa [coK] using hfs 0 _ rfl
  have t1 : DataW.trod enc Tryz.prog W 0 (fun _ => true) true n 9 [c1] = some y1 := by simpa [co9] using hfs 1 _ rfl
  have t2 : DataW.trod enc Tryz.prog W 0 (fun _ => true) true n 3 [c2] = some y2 := by simpa [co3] using hfs 2 _ rfl
  obtain ⟨z0, e0, _, _⟩ := DataW.trod_int Tryz.underlying52 t0
  obtain ⟨s, e1, _, _⟩ := DataW.trod_string Tryz.underlying9 t1
  obtain ⟨z2, e2, _, _⟩ := DataW.trod_int Tryz.underlying3 t2
  simp at e0 e1 e2
  subst e0 e1 e2
  exact ⟨⟨z0, s, z2⟩, rfl⟩
/-- What a slice of steps that came in gives a walk. -/
theorem view_steps {H : Type} {enc : TypeId × Value → H} {W : World} {a : Option Addr} {len cap : Nat} {d : DataW H} {p : List MemPlace}
    (h : DataW.Trod enc Tryz.prog W 0 (fun _ => true) true 22 (.slice a len cap) d p) :
    ∃ L : List St, L.length = len ∧ len ≤ cap ∧ Sts W a L ∧ (d = .nil ∧ len = 0 ∨ ∃ el sp, d = .slice el sp ∧ el.length = len) := by
  obtain ⟨fuel, hf⟩ := h
  rcases DataW.trod_slice Tryz.underlying22 hf with ⟨hcs', hx⟩ | ⟨ad, l, c, elems, rest, n, _, hcs', hx, _, hl, hm, hel, hcell, _, _⟩
  · simp [Value.cells] at hcs'
    obtain ⟨rfl, rfl, rfl⟩ := hcs'
    simp only [Prod.mk.injEq] at hx
    exact ⟨[], rfl, Nat.le_refl _, .inl rfl, .inl ⟨hx.1, rfl⟩⟩
  · simp [Value.cells] at hcs'
    obtain ⟨rfl, rfl, rfl⟩ := hcs'
    simp only [Prod.mk.injEq] at hx
    obtain ⟨b, off, spot⟩ := ad
    have raw : ∀ i, i < len → ∃ x : St, ∀ j u, x.c.toList[j]? = some u → W.cell? (((⟨b, off, spot⟩ : Addr).add (i * 3)).add j) = some u := fun i hi => by
      have hi2 := hcell i hi
      have hlt : i < elems.length := by omega
      rw [List.getElem?_eq_getElem hlt, cellsS, Option.bind_eq_some_iff] at hi2
      obtain ⟨cs, hc1, hc2⟩ := hi2
      obtain ⟨x, rfl⟩ := step_cells hc2
      obtain ⟨_, _, hc3⟩ := World.cells?_some hc1
      refine ⟨x, fun j u hu => ?_⟩
      have hj := (List.getElem?_eq_some_iff.1 hu).1
      have hj : j < 3 := hj
      rw [hc3 j hj]
      exact hu
    have hspot : 0 < len → spot = none := fun h0 => by
      obtain ⟨x, hc⟩ := raw 0 h0
      have q := hc 0 (.int .u8 x.k) rfl
      have := World.cell?_spot q
      simpa [Addr.add] using this
    let F : Nat → St := fun i => if h : i < len then Classical.choose (raw i h) else ⟨0, ⟨#[]⟩, 0⟩
    have hF : ∀ i (h : i < len), F i = Classical.choose (raw i h) := fun i h => dif_pos h
    refine ⟨(List.range len).map F, by simp, hl, ?_, .inr ⟨_, _, hx.1, by simp; omega⟩⟩
    by_cases h0 : 0 < len
    · have hs := hspot h0
      subst hs
      refine .inr ⟨b, off, rfl, fun i x hv => ?_⟩
      have hi : i < len := by
        have := (List.getElem?_eq_some_iff.1 hv).1
        simpa using this
      rw [List.getElem?_map, List.getElem?_range hi] at hv
      simp only [Option.map_some, Option.some.injEq] at hv
      rw [hF i hi] at hv
      have sp := Classical.choose_spec (raw i hi)
      rw [hv] at sp
      have s0 := sp 0 _ rfl
      have s1 := sp 1 _ rfl
      have s2 := sp 2 _ rfl
      rw [Addr.add_mid, Addr.add_mid] at s0 s1 s2
      rw [show off + 3 * i = off + i * 3 by omega]
      exact ⟨s0, s1, s2⟩
    · obtain rfl : len = 0 := by omega
      exact .inl rfl
theorem reachS {H : Type} {ts : List TypeId} {ds : List (DataW H)} (h : (DataW.weightsEach Tryz.prog ts ds).all (· ≤ reachBytes) = true) (j : Nat) (ht : ts[j]? = some 22) {d : DataW H} (hd : ds[j]? = some d) {len : Nat} (hv : d = .nil ∧ len = 0 ∨ ∃ el sp, d = .slice el sp ∧ el.length = len) : len ≤ 4398046510976 := by
  rcases hv with ⟨_, rfl⟩ | ⟨el, sp, rfl, rfl⟩
  · omega
  · have := sized_slice h (j := j) (t := 22) (e := 54) ht hd Tryz.underlying22
    rw [bytesS] at this
    simp only [reachBytes] at this
    omega
end Go.Proofs.YthffcdahjcpdfaaGreatDoor

namespace Go.Proofs.YthffcdahjcpdfaaGreatDoor
open Go.ChangeShapes Go.WideShapes Go.ChangeAt Go.RowKit
set_option linter.unusedVariables false
set_option linter.unusedSimpArgs false

/-- What a slice of steps that came in gives a walk. -/
theorem view_steps2 {H : Type} {enc : TypeId × Value → H} {W : World} {a : Option Addr} {len cap : Nat} {d : DataW H} {p : List MemPlace}
    (h : DataW.Trod enc Tryz.prog W 0 (fun _ => true) true 22 (.slice a len cap) d p) :
    ∃ L : List St, L.length = len ∧ len ≤ cap ∧ Sts W a L ∧ (a = none → L = []) ∧ (d = .nil ∧ len = 0 ∨ ∃ el sp, d = .slice el sp ∧ el.length = len) := by
  obtain ⟨fuel, hf⟩ := h
  rcases DataW.trod_slice Tryz.underlying22 hf with ⟨hcs', hx⟩ | ⟨ad, l, c, elems, rest, n, _, hcs', hx, _, hl, hm, hel, hcell, _, _⟩
  · simp [Value.cells] at hcs'
    obtain ⟨rfl, rfl, rfl⟩ := hcs'
    simp only [Prod.mk.injEq] at hx
    exact ⟨[], rfl, Nat.le_refl _, .inl rfl, fun _ => rfl, .inl ⟨hx.1, rfl⟩⟩
  · simp [Value.cells] at hcs'
    obtain ⟨rfl, rfl, rfl⟩ := hcs'
    simp only [Prod.mk.injEq] at hx
    obtain ⟨b, off, spot⟩ := ad
    have raw : ∀ i, i < len → ∃ x : St, ∀ j u, x.c.toList[j]? = some u → W.cell? (((⟨b, off, spot⟩ : Addr).add (i * 3)).add j) = some u := fun i hi => by
      have hi2 := hcell i hi
      have hlt : i < elems.length := by omega
      rw [List.getElem?_eq_getElem hlt, cellsS, Option.bind_eq_some_iff] at hi2
      obtain ⟨cs, hc1, hc2⟩ := hi2
      obtain ⟨x, rfl⟩ := step_cells hc2
      obtain ⟨_, _, hc3⟩ := World.cells?_some hc1
      refine ⟨x, fun j u hu => ?_⟩
      have hj := (List.getElem?_eq_some_iff.1 hu).1
      have hj : j < 3 := hj
      rw [hc3 j hj]
      exact hu
    have hspot : 0 < len → spot = none := fun h0 => by
      obtain ⟨x, hc⟩ := raw 0 h0
      have q := hc 0 (.int .u8 x.k) rfl
      have := World.cell?_spot q
      simpa [Addr.add] using this
    let F : Nat → St := fun i => if h : i < len then Classical.choose (raw i h) else ⟨0, ⟨#[]⟩, 0⟩
    have hF : ∀ i (h : i < len), F i = Classical.choose (raw i h) := fun i h => dif_pos h
    refine ⟨(List.range len).map F, by simp, hl, ?_, fun h => (by cases h), .inr ⟨_, _, hx.1, by simp; omega⟩⟩
    by_cases h0 : 0 < len
    · have hs := hspot h0
      subst hs
      refine .inr ⟨b, off, rfl, fun i x hv => ?_⟩
      have hi : i < len := by
        have := (List.getElem?_eq_some_iff.1 hv).1
        simpa using this
      rw [List.getElem?_map, List.getElem?_range hi] at hv
      simp only [Option.map_some, Option.some.injEq] at hv
      rw [hF i hi] at hv
      have sp := Classical.choose_spec (raw i hi)
      rw [hv] at sp
      have s0 := sp 0 _ rfl
      have s1 := sp 1 _ rfl
      have s2 := sp 2 _ rfl
      rw [Addr.add_mid, Addr.add_mid] at s0 s1 s2
      rw [show off + 3 * i = off + i * 3 by omega]
      exact ⟨s0, s1, s2⟩
    · obtain rfl : len = 0 := by omega
      exact .inl rfl
end Go.Proofs.YthffcdahjcpdfaaGreatDoor

namespace Go.Proofs.YthffcdahjcpdfaaGreatDoor
open Go.ChangeShapes Go.WideShapes Go.ChangeAt Go.RowKit Go.Shelf
set_option linter.unusedVariables false
set_option linter.unusedSimpArgs false

def u8_ren : Go.Shelf.Ren := ⟨fun n => n, fun | 119 => 155 | 138 => 157 | 139 => 158 | n => n, fun | 3 => 3 | 4 => 4 | n => n⟩
theorem u8t : U8Types Tryz.prog u8_ren := ⟨Tryz.underlying5, Tryz.underlying155, Tryz.underlying157, Tryz.underlying158⟩
theorem u8x : U8Extra Tryz.prog u8_ren := ⟨by kernel_rfl, by kernel_rfl, by kernel_rfl, by kernel_rfl, by kernel_rfl, by kernel_rfl, by kernel_rfl⟩
theorem dF : (Rows.laid_unicode_utf8_first : DataW Unit) = Lib.firstData := by kernel_rfl
theorem dA : (Rows.laid_unicode_utf8_acceptRanges : DataW Unit) = Lib.acceptData := by kernel_rfl
theorem tabs_of {W : World} {laid : List (String × DataW Unit)} (h : laidMet Tryz.prog laid W) (h3 : ("unicode/utf8.first", (Rows.laid_unicode_utf8_first : DataW Unit)) ∈ laid) (h4 : ("unicode/utf8.acceptRanges", (Rows.laid_unicode_utf8_acceptRanges : DataW Unit)) ∈ laid) : K.V.Tabs W := by
  rw [dF] at h3
  rw [dA] at h4
  exact utf8Tabs_of_readsT u8t u8x (Lib.laidMet.reads h h3) (Lib.laidMet.reads h h4)
theorem gN0 : Tryz.prog.globalNamed "estuary/way.errLong" = some 0 := by kernel_rfl
theorem gN1 : Tryz.prog.globalNamed "estuary/way.errStep" = some 2 := by kernel_rfl
theorem gN2 : Tryz.prog.globalNamed "estuary/way.errText" = some 1 := by kernel_rfl
theorem gT0 : (Tryz.prog.globals[0]?).map (·.type) = some 59 := by kernel_rfl
theorem gT1 : (Tryz.prog.globals[2]?).map (·.type) = some 59 := by kernel_rfl
theorem gT2 : (Tryz.prog.globals[1]?).map (·.type) = some 59 := by kernel_rfl
theorem cellsE : Tryz.prog.cellsOf 212 = 1 := by kernel_rfl
theorem cells9 : Tryz.prog.cellsOf 9 = 1 := by kernel_rfl
theorem starE : "*" ++ "errors.errorString" = "*errors.errorString" := by decide
theorem rowE (u : TypeId) (h : Tryz.prog.typeName? 3 u = some "*errors.errorString") : u = 189 :=
  typeName_ptr_named (nm := "errors.errorString") (by rw [starE]; kernel_rfl) (by kernel_rfl) (by decide) u (by rw [starE]; exact h)
/-- What the laid errors give. -/
theorem snt_of {W : World} {d : DataW Unit} {r : List (String × DataW Unit)} (h : laidMet Tryz.prog (("unicode/utf8.acceptRanges", d) :: ("estuary/way.errLong", Rows.laid_estuary_way_errLong) :: ("estuary/way.errStep", Rows.laid_estuary_way_errStep) :: ("estuary/way.errText", Rows.laid_estuary_way_errText) :: r) W) : ∃ a0 a1 a2, Snt W a0 a1 a2 := by
  have h1 := laidMet.tail h
  have h2 := laidMet.tail h1
  obtain ⟨a0, a1, s0, s1, c0, c1, t0, t1, hv0, hv1, hc0, hs0, hz0, hc1, hs1, hz1, hne, hb0, hb1⟩ := laid_sentinels2 h1 gN0 gT0 gN1 gT1 Tryz.underlying59 rowE Tryz.underlying189 Tryz.underlying212 rfl rfl Tryz.underlying9 cellsE cells9
  obtain ⟨a1', a2, s1', s2, c1', c2, t1', t2, hv1', hv2, hc1', hs1', hz1', hc2, hs2, hz2, hne', hb1', hb2⟩ := laid_sentinels2 h2 gN1 gT1 gN2 gT2 Tryz.underlying59 rowE Tryz.underlying189 Tryz.underlying212 rfl rfl Tryz.underlying9 cellsE cells9
  have e : a1' = a1 := by
    have := hv1'.symm.trans hv1
    simpa using this
  subst e
  refine ⟨a0, a1', a2, ?_, ?_, ?_, hne, hne', ?_, ⟨_, _, hb0⟩, ⟨_, _, hb1⟩, ⟨_, _, hb2⟩⟩
  · simpa using World.var?_cell gN0 hv0 0
  · simpa using World.var?_cell gN1 hv1 0
  · simpa using World.var?_cell gN2 hv2 0
  · rintro rfl
    have := hc0.symm.trans hc2
    simp at this
    subst this
    rw [hs0] at hs2
    revert hs2
    decide

end Go.Proofs.YthffcdahjcpdfaaGreatDoor

