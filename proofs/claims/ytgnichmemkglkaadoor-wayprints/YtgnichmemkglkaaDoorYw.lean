import Derived.Test.YtgnichmemkglkaaDoorYv
namespace Go.Proofs.YtgnichmemkglkaaDoor
open Go.ChangeShapes Go.WideShapes Go.ChangeAt Go.RowKit
set_option linter.unusedVariables false
set_option linter.unusedSimpArgs false

/-- What a slice of steps that came in gives a walk. -/
theorem view_steps2 {H : Type} {enc : TypeId × Value → H} {W : World} {a : Option Addr} {len cap : Nat} {d : DataW H} {p : List MemPlace}
    (h : DataW.Trod enc Tryd.prog W 0 (fun _ => true) true 22 (.slice a len cap) d p) :
    ∃ L : List St, L.length = len ∧ len ≤ cap ∧ Sts W a L ∧ (a = none → L = []) ∧ (d = .nil ∧ len = 0 ∨ ∃ el sp, d = .slice el sp ∧ el.length = len) := by
  obtain ⟨fuel, hf⟩ := h
  rcases DataW.trod_slice Tryd.underlying22 hf with ⟨hcs', hx⟩ | ⟨ad, l, c, elems, rest, n, _, hcs', hx, _, hl, hm, hel, hcell, _, _⟩
  · simp [Value.cells] at hcs'
    obtain ⟨rfl, rfl, rfl⟩ := hcs'
    simp only [Prod.mk.injEq] at hx
    exact ⟨[], rfl, Nat.le_refl _, .inl rfl, fun _ => rfl, .inl ⟨hx.1, rfl⟩⟩
  · simp [Value.cells] at hcs'
    obtain ⟨rfl, rfl, rfl⟩ := hcs'
    simp only [Prod.mk.injEq] at hx
    obtain ⟨b, off, spot⟩ := ad
    have raw : ∀ i, i < len → ∃ x : St, ∀ j u, x.c.toList[j]? = some u → W.cell? (((⟨b, off, spot⟩ : Addr).add (i * 3)).add j) = some u := fun i hi => by
      have hi2 := hcell i hi
      have hlt : i < elems.length := by omega
      rw [List.getElem?_eq_getElem hlt, cellsS, Option.bind_eq_some_iff] at hi2
      obtain ⟨cs, hc1, hc2⟩ := hi2
      obtain ⟨x, rfl⟩ := step_cells hc2
      obtain ⟨_, _, hc3⟩ := World.cells?_some hc1
      refine ⟨x, fun j u hu => ?_⟩
      have hj := (List.getElem?_eq_some_iff.1 hu).1
      have hj : j < 3 := hj
      rw [hc3 j hj]
      exact hu
    have hspot : 0 < len → spot = none := fun h0 => by
      obtain ⟨x, hc⟩ := raw 0 h0
      have q := hc 0 (.int .u8 x.k) rfl
      have := World.cell?_spot q
      simpa [Addr.add] using this
    let F : Nat → St := fun i => if h : i < len then Classical.choose (raw i h) else ⟨0, ⟨#[]⟩, 0⟩
    have hF : ∀ i (h : i < len), F i = Classical.choose (raw i h) := fun i h => dif_pos h
    refine ⟨(List.range len).map F, by simp, hl, ?_, fun h => (by cases h), .inr ⟨_, _, hx.1, by simp; omega⟩⟩
    by_cases h0 : 0 < len
    · have hs := hspot h0
      subst hs
      refine .inr ⟨b, off, rfl, fun i x hv => ?_⟩
      have hi : i < len := by
        have := (List.getElem?_eq_some_iff.1 hv).1
        simpa using this
      rw [List.getElem?_map, List.getElem?_range hi] at hv
      simp only [Option.map_some, Option.some.injEq] at hv
      rw [hF i hi] at hv
      have sp := Classical.choose_spec (raw i hi)
      rw [hv] at sp
      have s0 := sp 0 _ rfl
      have s1 := sp 1 _ rfl
      have s2 := sp 2 _ rfl
      rw [Addr.add_mid, Addr.add_mid] at s0 s1 s2
      rw [show off + 3 * i = off + i * 3 by omega]
      exact ⟨s0, s1, s2⟩
    · obtain rfl : len = 0 := by omega
      exact .inl rfl
end Go.Proofs.YtgnichmemkglkaaDoor
