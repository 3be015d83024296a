import Derived.Test.YtoofljkgdjjllaaTa
namespace Go.Proofs.Ytoofljkgdjjllaa
open Go.RowKit
set_option linter.unusedVariables false

/-- A frame's slots behind a put. -/
theorem pk {a a' : Act} {i j : Nat} {u v : Value} (e : a' = a.put (some j) v) (h : a.tmps.getD i undef = u) (hij : i ≠ j := by decide) : a'.tmps.getD i undef = u := by
  rw [e, put_ne _ _ _ _ (Ne.symm hij)]; exact h
theorem pz {a a' : Act} {j n : Nat} {v : Value} (e : a' = a.put (some j) v) (h : a.tmps.size = n) : a'.tmps.size = n := by
  rw [e, put_size]; exact h
theorem pq {a a' : Act} {j n : Nat} {v : Value} (e : a' = a.put (some j) v) (h : a.tmps.size = n) (hj : j < n := by decide) : a'.tmps.getD j undef = v := by
  rw [e]; exact put_same _ _ _ (by omega)
/-- A quiet operation of a region that draws. -/
theorem tk {P : Program} {md : Region.Mode} {ops : Array Oper} {Q : Exit → Act → World → Prop} {S : World → Prop} {fuel : Nat} {listed : Array Bool} {a : Act} {w : World} (i : Nat) (oi : Oper) (v : Value) {d : Nat} (hy : Region.wanted oi (yielded ops a.tmps) = true) (he : ∀ w1, S w1 → (execOp a.eval oi).run P w1 = .ok (.value v) w1) (hS : S w)
    (h : ∀ a', a' = a.put (some d) v → wpAnyH P md ops Q S fuel (listed.setIfInBounds i true) a' w) (hd : oi.dst = some d := by rfl) (hi : ops[i]? = some oi := by rfl) (hs : Region.noSelect ops = true := by kernel_rfl) (hf : Region.free md ops listed i = true := by kernel_rfl) (hr : (Region.ready md ops listed).contains i = true := by kernel_rfl)
    (hQ : ∀ c a w, Q (.panic c) (a.put oi.dst v) w → Q (.panic c) a w := by exact fun _ _ _ h => h) : wpAnyH P md ops Q S (fuel + 1) listed a w :=
  wpAnyH_take hi hs hf hr hQ (Or.inl ⟨hy, he⟩) hS (by rw [hd]; exact h _ rfl)
end Go.Proofs.Ytoofljkgdjjllaa
