import Derived.Test.YtoofljkgdjjllaaTyg
import Derived.Maps.RangeRun
namespace Go.Proofs.Ytoofljkgdjjllaa.M
open Go.RowKit Go.ChangeMaps
set_option linter.unusedVariables false
set_option linter.unusedSimpArgs false
section
variable {P : Program} {κ : Type}
def kv (e : MapEntry) : Value × Value := (e.key, e.val)
/-- A range over a map under way: T is still to come. -/
def Iter (w : World) (b r : Nat) (enc : κ → Value) (E T : List (κ × Value)) : Prop :=
  ∃ es clock since seen c0, w.heap[b]? = some (.map es clock) ∧ es.toList.map (fun e => (e.key, e.val)) = E.map (fun p => (enc p.1, p.2)) ∧ Stamps (es.toList.map (·.born)) clock ∧
    w.heap[r]? = some (.mapIter (some b) since seen c0) ∧ (∀ x ∈ es.toList, x.born < since) ∧ since ≤ c0 ∧ since ≤ clock ∧ (leftOf es seen).toList.map (fun e => (e.key, e.val)) = T.map (fun p => (enc p.1, p.2))
/-- What the round has in hand. -/
def Now (w : World) (b r : Nat) (x y : Value) : Prop :=
  ∃ (es : Array MapEntry) (clock since : Nat) (seen : Array Nat) (e : MapEntry), w.heap[r]? = some (.mapIter (some b) since (seen.push e.born) clock) ∧ w.heap[b]? = some (.map es clock) ∧ e ∈ es.toList ∧ (es.toList.map (·.born)).Nodup ∧ e.key = x ∧ e.val = y
theorem Iter.same {w w' : World} {b r : Nat} {enc : κ → Value} {E T : List (κ × Value)} (h : Iter w b r enc E T) (hb : w'.heap[b]? = w.heap[b]?) (hr : w'.heap[r]? = w.heap[r]?) : Iter w' b r enc E T := by
  obtain ⟨es, c, s, n, c0, h1, h2, h3, h4, h5⟩ := h
  exact ⟨es, c, s, n, c0, hb.trans h1, h2, h3, hr.trans h4, h5⟩
theorem Now.same {w w' : World} {b r : Nat} {x y : Value} (h : Now w b r x y) (hb : w'.heap[b]? = w.heap[b]?) (hr : w'.heap[r]? = w.heap[r]?) : Now w' b r x y := by
  obtain ⟨es, c, s, n, e, h1, h2, h5⟩ := h
  exact ⟨es, c, s, n, e, hr.trans h1, hb.trans h2, h5⟩
theorem Now.run {w : World} {b r : Nat} {x y : Value} (h : Now w b r x y) : (Instr.entry (.pointer (some ⟨r, 0, none⟩))).run P w = .ok (.tuple #[x, y]) w := by
  obtain ⟨es, c, s, n, e, h1, h2, h3, h4, rfl, rfl⟩ := h
  exact run_entry_at w r b s n es c e h1 h2 h3 h4
theorem range_any {t k e : TypeId} {w : World} {b : Nat} {enc : κ → Value} {V : κ → Prop} {E : List (κ × Value)} (ht : P.underlying t = some (.map k e)) (h : MapAt w b enc V E) :
    ∃ w', (Instr.range t (.map (some b))).run P w = .ok (.pointer (some ⟨w.heap.size, 0, none⟩)) w' ∧ Iter w' b w.heap.size enc E E ∧ w'.heap.size = w.heap.size + 1 ∧ Below w.heap.size w w' := by
  have hlt := h.lt
  obtain ⟨⟨es, c, hb, he, hs⟩, hn, hV⟩ := h
  refine ⟨_, run_range_map w t k e b es c ht hb, ⟨es, c, c, #[], c, (heap_alloc_old w _ hlt).trans hb, he, hs, heap_alloc_new _ _, fun x hx => hs.1 _ (List.mem_map.2 ⟨x, hx, rfl⟩), Nat.le_refl _, Nat.le_refl _, ?_⟩, by simp, (Below.refl _ _).alloc (Nat.le_refl _) _⟩
  rw [show leftOf es #[] = es by simp [leftOf]]
  exact he
theorem next_any {ty : TypeId} {w : World} {b r : Nat} {enc : κ → Value} {E T : List (κ × Value)} (h : Iter w b r enc E T) :
    (T = [] ∧ (Instr.next (.pointer (some ⟨r, 0, none⟩)) false ty).run P w = .ok (.tuple #[.bool false]) w) ∨
    ∃ A p B w', T = A ++ p :: B ∧ (Instr.next (.pointer (some ⟨r, 0, none⟩)) false ty).run P w = .ok (.tuple #[.bool true, enc p.1, p.2]) w' ∧ Iter w' b r enc E (A ++ B) ∧ Now w' b r (enc p.1) p.2 ∧ Tch (fun j => j = r) w w' ∧ w'.heap.size = w.heap.size := by
  obtain ⟨es, c, since, seen, c0, hb, he, hs, hr, hold, hsc, hc, hl⟩ := h
  have hrl : r < w.heap.size := (Array.getElem?_eq_some_iff.1 hr).1
  have hne : b ≠ r := by
    rintro rfl
    rw [hb] at hr
    cases hr
  rcases run_next_at (P := P) w ty r b since c0 seen es c hr hb hold hsc with ⟨h0, hrun⟩ | ⟨e, hm, w1, hw1, hrun⟩
  · left
    refine ⟨?_, hrun⟩
    have : (leftOf es seen).toList = [] := by rw [← Array.length_toList] at h0; exact List.eq_nil_of_length_eq_zero h0
    rw [this] at hl
    simpa using hl.symm
  · right
    obtain ⟨X, Y, hXY⟩ := List.append_of_mem hm
    rw [hXY, List.map_append, List.map_cons] at hl
    obtain ⟨A, T2, rfl, hA, hT2⟩ := List.map_eq_append_iff.1 hl.symm
    obtain ⟨p, B, rfl, hp, hB⟩ := List.map_eq_cons_iff.1 hT2
    have hk1 : enc p.1 = e.key := (Prod.mk.inj hp).1
    have hk2 : p.2 = e.val := (Prod.mk.inj hp).2
    have hmem : e ∈ es.toList := by
      have : e ∈ leftOf es seen := by simpa using hm
      unfold leftOf at this
      rw [Array.mem_filter] at this
      simpa using this.1
    have hsub : ((leftOf es seen).toList.map (·.born)).Nodup := by
      refine hs.2.sublist (List.Sublist.map _ ?_)
      unfold leftOf
      rw [Array.toList_filter]
      exact List.filter_sublist
    have hlf : (leftOf es (seen.push e.born)).toList = X ++ Y := by
      have e1 : leftOf es (seen.push e.born) = (leftOf es seen).filter (fun x => !(x.born == e.born)) := by
        unfold leftOf
        rw [Array.filter_filter]
        congr 1
        funext x
        cases h1 : (x.born == e.born) <;> cases h2 : seen.contains x.born <;> simp_all [Array.contains_push]
      rw [e1, Array.toList_filter, hXY, List.filter_append, List.filter_cons]
      rw [hXY, List.map_append, List.map_cons] at hsub
      have hd := List.nodup_append.1 hsub
      have hd2 := List.nodup_cons.1 hd.2.1
      rw [if_neg (by simp)]
      congr 1
      · refine List.filter_eq_self.2 fun x hx => ?_
        have := hd.2.2 x.born (List.mem_map.2 ⟨x, hx, rfl⟩) e.born (List.mem_cons_self ..)
        simpa using this
      · refine List.filter_eq_self.2 fun x hx => ?_
        have : x.born ≠ e.born := fun q => hd2.1 (by rw [← q]; exact List.mem_map.2 ⟨x, hx, rfl⟩)
        simpa using this
    have hw : ∀ j : Nat, w1.heap[j]? = w.heap[j]? := fun j => by rcases hw1 with rfl | rfl <;> rfl
    have hsz : w1.heap.size = w.heap.size := by rcases hw1 with rfl | rfl <;> rfl
    have hrr : (setBlock w1 r (.mapIter (some b) since (seen.push e.born) c)).heap[r]? = some (.mapIter (some b) since (seen.push e.born) c) := by
      simp [setBlock, hsz, hrl]
    have ho : ∀ j, j ≠ r → (setBlock w1 r (.mapIter (some b) since (seen.push e.born) c)).heap[j]? = w.heap[j]? := fun j hj => by
      rw [← hw j]
      simp [setBlock, Array.getElem?_setIfInBounds, Ne.symm hj]
    refine ⟨A, p, B, _, rfl, by rw [hk1, hk2]; exact hrun, ⟨es, c, since, _, c, (ho b hne).trans hb, he, hs, hrr, hold, hc, hc, ?_⟩, ⟨es, c, since, seen, e, hrr, (ho b hne).trans hb, hmem, hs.2, hk1.symm, hk2.symm⟩, ?_, ?_⟩
    · rw [hlf, List.map_append, List.map_append, hA, hB]
    · refine ⟨?_, ?_, ?_, by simp [setBlock, hsz], fun j hj hn => ho j hn⟩
      all_goals (rcases hw1 with rfl | rfl <;> rfl)
    · simp [setBlock, hsz]
end
end Go.Proofs.Ytoofljkgdjjllaa.M
