import Derived.Test.YtoofljkgdjjllaaTl
namespace Go.Proofs.Ytoofljkgdjjllaa
open Go.RowKit
set_option linter.unusedVariables false
set_option linter.unusedSimpArgs false

theorem hidMk {p : Prop} (h : p) : Hid p := h
theorem did_of {s : Tr} {H : List Rec} {k : IdK} {n : NodeV} {w w2 w3 w4 : World} {R' : List (IdK × (Nat × List IdK))} {m : Nat} {cs : Array Value} (r : Rec) (h : TreeAt w s H) (b : Below w.heap.size w w2) (hk : k.ok)
    (h3 : TrAt w3 { s with N := M.put s.N k n, R := R' }) (r3 : RowsOk R' (shN (M.put s.N k n))) (t3 : Tch (fun j => j ∈ s.bl) w2 w3) (f3 : RowsFrom R' s.R w2.heap.size) (hbk : w3.heap.size ≤ r.bk)
    (c4 : w4.heap[r.bk]? = some (.cells #[.pointer s.last, .func (.func m) #[] cs] 103 (0, 0))) (h4 : TrAt w4 { s with N := M.put s.N k n, R := R', last := some ⟨r.bk, 0, none⟩ }) (t4 : Tch (fun j => j = s.t) w3 w4)
    (hrk : r.k = k) (hro : r.o = lookN s.N k) (hib : w.heap.size ≤ r.ib ∧ r.ib < w2.heap.size) (hnb : w.heap.size ≤ r.nb ∧ r.nb < w2.heap.size)
    (hat : ∀ W : World, W.heap[r.ib]? = w2.heap[r.ib]? → W.heap[r.nb]? = w2.heap[r.nb]? → W.heap[r.bk]? = some (.cells #[.pointer s.last, .func (.func m) #[] cs] 103 (0, 0)) → Rec.at W r s.last) :
    Did s H k n w (.returned (.tuple #[.pointer (some ⟨r.bk, 0, none⟩), .int .i64 0])) w4 := by
  have hl := h.tr.lt
  have z2 := b.size
  have z3 := t3.size
  have ts : s.t ∈ s.bl := by simp [Tr.bl]
  have hlt := hl _ ts
  have e3 : ∀ j, w.heap.size ≤ j → j < w2.heap.size → w4.heap[j]? = w2.heap[j]? := fun j h1 h2 =>
    (t4.block j (by omega) (by omega)).trans (t3.block j h2 (fun q => by have := hl j q; omega))
  have hbl : ∀ j ∈ ({ s with N := M.put s.N k n, R := R', last := some ⟨r.bk, 0, none⟩ } : Tr).bl, (j ∈ s.bl ∨ w2.heap.size ≤ j) ∧ j < w3.heap.size := by
    intro j hj
    refine ⟨?_, h3.lt j hj⟩
    simp only [Tr.bl, List.mem_cons] at hj ⊢
    rcases hj with e | e | e | e
    · exact Or.inl (Or.inl e)
    · exact Or.inl (Or.inr (Or.inl e))
    · exact Or.inl (Or.inr (Or.inr (Or.inl e)))
    · obtain ⟨x, hx, rfl⟩ := List.mem_map.1 e
      rcases f3 x hx with q | q
      · exact Or.inl (Or.inr (Or.inr (Or.inr q)))
      · exact Or.inr q
  have old : ∀ r' ∈ H, ∀ x ∈ r'.bl, x < w.heap.size := h.hist.lt
  refine ⟨_, r, rfl, ⟨h4, r3, rfl, ⟨?_, ?_⟩, ?_, ?_⟩, rfl, rfl, hrk, hro, ?_, fun j hj => ?_, ?_⟩
  · rw [← h.last]
    exact hat w4 (e3 _ hib.1 hib.2) (e3 _ hnb.1 hnb.2) c4
  · refine h.hist.same fun r' hr' x hx => ?_
    have h1 := old r' hr' x hx
    have h2 := h.apart r' hr' x hx
    exact ((t4.block x (by omega) (fun e => h2 (e ▸ ts))).trans (t3.block x (by omega) h2)).trans (b.block x h1)
  · intro r' hr' x hx hm
    obtain ⟨q, q'⟩ := hbl x hm
    rcases List.mem_cons.1 hr' with rfl | hr'
    · simp only [Rec.bl, List.mem_cons, List.not_mem_nil, or_false] at hx
      rcases hx with rfl | rfl | rfl
      · omega
      · rcases q with q | q
        · have := hl _ q; omega
        · omega
      · rcases q with q | q
        · have := hl _ q; omega
        · omega
    · have h1 := old r' hr' x hx
      rcases q with q | q
      · exact h.apart r' hr' x hx q
      · omega
  · intro r' hr'
    rcases List.mem_cons.1 hr' with rfl | hr'
    · rw [hrk]
      refine ⟨hk, fun n0 e => ?_⟩
      rw [hro] at e
      exact h.tr.uok (k, n0) (M.look_mem e)
    · exact h.ok r' hr'
  · exact (Tch.of_below b (fun j h1 h2 => by omega)).trans (t3.trans' t4 (fun j _ e => e ▸ ts))
  · rcases (hbl j hj).1 with q | q
    · exact Or.inl q
    · exact Or.inr (by omega)
  · intro x hx
    simp only [Rec.bl, List.mem_cons, List.not_mem_nil, or_false] at hx
    rcases hx with rfl | rfl | rfl <;> omega
end Go.Proofs.Ytoofljkgdjjllaa
