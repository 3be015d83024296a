import Derived.Test.YtoofljkgdjjllaaTyl0
import Derived.Test.YtoofljkgdjjllaaSl
import Derived.Shelf.SlSortCmp.WholeK
import Derived.Shelf.SlSortCmp.NoneTotal
namespace Go.Proofs.Ytoofljkgdjjllaa
open Go.RowKit Go.Shelf
set_option linter.unusedVariables false
set_option linter.unusedSimpArgs false

theorem TO.swo {α : Type} {c : α → α → Int} (h : TO c) : Go.Sort.SWO (ltOf c) := {
  irrefl := fun x => by unfold ltOf; rw [h.refl]; rfl
  trans := fun x y z h1 h2 => by
    unfold ltOf at *
    rw [decide_eq_true_eq] at *
    exact h.lt x y z (by omega) (by omega) (Or.inl h1)
  ntrans := fun x y z h1 h2 => by
    unfold ltOf at *
    rw [decide_eq_false_iff_not] at *
    have e1 := h.anti x y
    have e2 := h.anti y z
    have e3 := h.anti x z
    have := h.le z y x (by omega) (by omega)
    omega }
theorem grow_of {w w' : World} (h : Go.RowKit.Below w.heap.size w w') (hd : w.drawn ≤ w'.drawn) : ∃ q os, w' = Go.Sort.grow (w.drewN q) os := by
  refine ⟨w'.drawn - w.drawn, w'.heap.extract w.heap.size w'.heap.size, ?_⟩
  have e1 : w.heap ++ w'.heap.extract w.heap.size w'.heap.size = w'.heap := by
    apply Array.ext_getElem?
    intro i
    rw [Array.getElem?_append]
    split
    · next hi => exact (h.block i hi).symm
    · next hi =>
      rw [Array.getElem?_extract]
      split
      · rw [show w.heap.size + (i - w.heap.size) = i by omega]
      · next hj => rw [Array.getElem?_eq_none (by omega)]
  have e2 : w.drawn + (w'.drawn - w.drawn) = w'.drawn := by omega
  have h1 := h.os
  have h2 := h.tape
  have h3 := h.output
  cases w' with
  | mk hp tp dr oo ou =>
    simp only at *
    unfold Go.Sort.grow World.drewN
    simp only [e1, e2, h1, h2, h3]
theorem encK_len (x : KidV) : (nrmK x).c.length = 34 := KidV.len (nrmK_ok x)
section
variable [Inhabited KidV]
theorem cmpLaysK (blk off size : Nat) (w : World) : CmpLays Try.prog 83 #[] (fun x => (nrmK x).c) 34 cfK blk off size w :=
  fun m os dk hdk x y => (cmpKid_any (nrmK x) (nrmK y) _ (nrmK_ok x) (nrmK_ok y)).mono fun e w' ⟨he, hb, hd⟩ => ⟨he, grow_of hb hd⟩
theorem holdsK_own {w : World} {g : Nat} {cur : Array Value} {L : List KidV} (ok : ∀ x ∈ L, x.id.ok) (hg : w.heap[g]? = some (.cells cur 109 (0, 0))) (ht : cur.toList.take (L.length * 34) = flatK L) : Go.Sort.HoldsK (fun x => (nrmK x).c) 34 w g 0 L.toArray := fun j hj => by
  rw [Go.Sort.size_flatK] at hj
  simp only [List.size_toArray] at hj
  have hi : j / 34 < L.length := by omega
  have hx : L[j / 34]? = some L[j / 34] := List.getElem?_eq_getElem hi
  have hok := ok _ (List.mem_of_getElem? hx)
  have hlen := KidV.len hok
  have hc : (KidV.c L[j / 34])[j % 34]? = some ((KidV.c L[j / 34])[j % 34]'(by omega)) := List.getElem?_eq_getElem _
  have hf := flatK_get ok hx hc
  rw [show 34 * (j / 34) + j % 34 = j by omega, ← ht, List.getElem?_take, if_pos (by omega)] at hf
  rw [Go.Sort.get_flatK _ _ _ _ (by simpa using hj)]
  have e : L.toArray[j / 34]! = L[j / 34] := by simp [hi]
  rw [Nat.zero_add]
  refine ⟨?_, ?_⟩
  · rw [cell_of_row w g j cur 109 (0, 0) hg, e, nrmK_id hok]
    rw [getElem!_pos (KidV.c L[j / 34]) (j % 34) (by omega)]
    simpa using hf
  · simp [World.frozen?, hg]
theorem own_holdsK {w : World} {g : Nat} {cur : Array Value} {L : List KidV} (ok : ∀ x ∈ L, x.id.ok) (hg : w.heap[g]? = some (.cells cur 109 (0, 0))) (hn : L.length * 34 ≤ cur.size) (h : Go.Sort.HoldsK (fun x => (nrmK x).c) 34 w g 0 L.toArray) : cur.toList.take (L.length * 34) = flatK L := by
  have hfl := flatK_len ok
  apply List.ext_getElem?
  intro p
  rw [List.getElem?_take]
  split
  · next hp =>
    have hi : p / 34 < L.length := by omega
    have hx : L[p / 34]? = some L[p / 34] := List.getElem?_eq_getElem hi
    have hok := ok _ (List.mem_of_getElem? hx)
    have hlen := KidV.len hok
    have hc : (KidV.c L[p / 34])[p % 34]? = some ((KidV.c L[p / 34])[p % 34]'(by omega)) := List.getElem?_eq_getElem _
    have hf := flatK_get ok hx hc
    rw [show 34 * (p / 34) + p % 34 = p by omega] at hf
    rw [hf]
    have h1 := (h p (by rw [Go.Sort.size_flatK]; simpa using hp)).1
    rw [Go.Sort.get_flatK _ _ _ _ (by simpa using hp), Nat.zero_add, cell_of_row w g p cur 109 (0, 0) hg] at h1
    have e : L.toArray[p / 34]! = L[p / 34] := by simp [hi]
    rw [e, nrmK_id hok, getElem!_pos (KidV.c L[p / 34]) (p % 34) (by omega)] at h1
    simpa using h1
  · next hp => rw [List.getElem?_eq_none (by omega)]
theorem sortWK_block {w : World} {g n : Nat} {os : Array Obj} (d : Array KidV) {cur : Array Value} (hg : w.heap[g]? = some (.cells cur 109 (0, 0))) : ∃ cur', (sortWorldK (fun x => (nrmK x).c) 34 w g 0 n d os).heap[g]? = some (.cells cur' 109 (0, 0)) ∧ cur'.size = cur.size := by
  have hlt := (Array.getElem?_eq_some_iff.1 hg).1
  have hv := (Array.getElem?_eq_some_iff.1 hg).2
  refine ⟨Go.Sort.putCells id 0 (Go.Sort.flatK (fun x => (nrmK x).c) 34 d) cur, ?_, ?_⟩
  · simp only [sortWorldK, Go.Sort.grow, Go.Sort.putRowK, Go.Sort.putRow, Go.Sort.mapBlock, Go.Sort.ahead]
    rw [Array.getElem?_append_left (by simpa using hlt), Array.getElem?_modify, if_pos rfl, hg]
    rfl
  · simp [Go.Sort.putCells]
theorem sortWK_tch {w : World} {g n : Nat} {os : Array Obj} (d : Array KidV) (hg : g < w.heap.size) : Tch (fun j => some g = some j) w (sortWorldK (fun x => (nrmK x).c) 34 w g 0 n d os) := by
  refine ⟨rfl, rfl, rfl, by simp [sortWorldK, Go.Sort.grow, Go.Sort.putRowK, Go.Sort.putRow, Go.Sort.mapBlock, Go.Sort.ahead], fun k hk hn => ?_⟩
  have hne : g ≠ k := fun e => hn (by rw [e])
  simp [sortWorldK, Go.Sort.grow, Go.Sort.putRowK, Go.Sort.putRow, Go.Sort.mapBlock, Go.Sort.ahead, Array.getElem?_append, Array.getElem?_modify, Array.getElem_modify, hk, hne]
set_option maxHeartbeats 1000000 in
/-- slices.SortFunc of a row's kids. -/
theorem sortK_inh : SortK SdK := fun W base v L own ok hL => by
  rcases own.2 with ⟨rfl, hn⟩ | ⟨g, cap, cur, rfl, hbg, hg, hnc, hcm, hcs, htake⟩
  · obtain rfl : L = [] := List.eq_nil_of_length_eq_zero hn
    have h := AnyF.slices_SortFunc_none sortLays none 0 (.func (.func 83) #[] #[]) W
    refine h.mono ?_
    rintro e w' ⟨he, rfl⟩
    exact ⟨he, [], List.Perm.refl _, List.Pairwise.nil, own, Tch.refl _ _⟩
  · have eg : ∀ args w, (callFunc 83 args).run Try.prog w = .ok (.enter 83 args) w := enters_of Try.func83 (by kernel_rfl) rfl
    have hlt := (Array.getElem?_eq_some_iff.1 hg).1
    have hH := holdsK_own ok hg htake
    have h := AnyQ.slices_SortFunc sortLays 34 Try.isAgg109 Try.sizeOf109 (fun x => (nrmK x).c) encK_len (fun x v hv => KidV.one (nrmK x) v hv) cfK to_cfK.swo 83 #[] g 0 cap L.toArray W eg (cmpLaysK g 0 _ W) hH hlt (by simp; omega)
    change Calls Try.prog 82 _ _ _ at h
    simp only [List.size_toArray] at h
    refine h.mono ?_
    rintro e w' ⟨he, d', n, os, hp, hsrt, rfl⟩
    have hsz : d'.size = L.length := by simpa using hp.1
    have hperm : d'.toList.Perm L := by
      have := hp.2.2
      rw [← hsz, Array.extract_size] at this
      have e2 : L.toArray.extract 0 d'.size = L.toArray := by rw [hsz]; simp
      rw [e2] at this
      simpa using this
    have ok' : ∀ x ∈ d'.toList, x.id.ok := fun x hx => ok x (hperm.mem_iff.1 hx)
    have hh := holdsK_sortWorldK (fun x => (nrmK x).c) 34 W g 0 n L.toArray d' os hlt hH (by simpa using hsz)
    obtain ⟨cur', hg', hs'⟩ := sortWK_block (n := n) (os := os) d' hg
    have hlen : d'.toList.length = L.length := by simpa using hsz
    refine ⟨he, d'.toList, hperm, ?_, ⟨?_, Or.inr ⟨g, cap, cur', by rw [hlen], hbg, hg', by rw [hlen]; exact hnc, hcm, hs'.trans hcs, ?_⟩⟩, sortWK_tch d' hlt⟩
    · unfold SdK
      rw [List.pairwise_iff_getElem]
      intro i j hi hj hij
      have hlt := hsrt i j (by omega) hij (by rw [← hsz]; simpa using hj)
      rw [getElem!_pos d' i (by simpa using hi), getElem!_pos d' j (by simpa using hj)] at hlt
      unfold ltOf cfK at hlt
      rw [decide_eq_false_iff_not] at hlt
      have o1 := ok' _ (List.getElem_mem hi)
      have o2 := ok' _ (List.getElem_mem hj)
      simp only [Array.getElem_toList] at o1 o2 ⊢
      rwa [nrmK_id o1, nrmK_id o2] at hlt
    · rw [flatK_len ok', Nat.mul_comm]
    · refine own_holdsK ok' hg' (by rw [hlen, hs', hcs]; exact Nat.mul_le_mul_right _ hnc) (by simpa using hh)
end
theorem sortK_any : SortK SdK := @sortK_inh ⟨zKid⟩
end Go.Proofs.Ytoofljkgdjjllaa
