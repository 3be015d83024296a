import Derived.Test.YtgnichmemkglkaaDoorYb
namespace Go.Proofs.YtgnichmemkglkaaDoor
open Go.RowKit
set_option linter.unusedVariables false
set_option linter.unusedSimpArgs false

/-- Steps that lie in memory. -/
def Sts (W : World) (a : Option Addr) (l : List St) : Prop := l = [] ∨ ∃ b off, a = some ⟨b, off, none⟩ ∧ ∀ (i : Nat) (p : St), l[i]? = some p → W.cell? ⟨b, off + 3 * i, none⟩ = some (.int .u8 p.k) ∧ W.cell? ⟨b, off + 3 * i + 1, none⟩ = some (.string p.s) ∧ W.cell? ⟨b, off + 3 * i + 2, none⟩ = some (.int .i64 p.n)
theorem Sts.below {W W' : World} {a : Option Addr} {l : List St} (h : Sts W a l) (hb : Below W.heap.size W W') : Sts W' a l := by
  rcases h with rfl | ⟨b, off, rfl, h⟩
  · exact .inl rfl
  · refine .inr ⟨b, off, rfl, fun i p e => ?_⟩
    obtain ⟨h0, h1, h2⟩ := h i p e
    exact ⟨(hb.cell (p := ⟨b, off + 3 * i, none⟩) (block_lt_of_cell h0)).trans h0, (hb.cell (p := ⟨b, off + 3 * i + 1, none⟩) (block_lt_of_cell h1)).trans h1, (hb.cell (p := ⟨b, off + 3 * i + 2, none⟩) (block_lt_of_cell h2)).trans h2⟩
theorem Sts.at {W : World} {a : Option Addr} {l : List St} (h : Sts W a l) {i : Nat} (hi : i < l.length) : ∃ b off p, a = some ⟨b, off, none⟩ ∧ l[i]? = some p ∧ W.cell? ⟨b, off + 3 * i, none⟩ = some (.int .u8 p.k) ∧ W.cell? ⟨b, off + 3 * i + 1, none⟩ = some (.string p.s) ∧ W.cell? ⟨b, off + 3 * i + 2, none⟩ = some (.int .i64 p.n) := by
  rcases h with rfl | ⟨b, off, rfl, h⟩
  · simp at hi
  · obtain ⟨p, e⟩ : ∃ p, l[i]? = some p := ⟨_, List.getElem?_eq_getElem hi⟩
    obtain ⟨h0, h1, h2⟩ := h i p e
    exact ⟨b, off, p, rfl, e, h0, h1, h2⟩
theorem info_some {P : Program} {t : TypeId} {n : Nat} (h : (P.info? t).map (·.size) = some n) : ∃ i, P.info? t = some i ∧ i.size = n := by
  cases hq : P.info? t with
  | none => rw [hq] at h; simp at h
  | some i => rw [hq] at h; simp at h; exact ⟨i, rfl, h⟩
theorem sizeStep : (Tryd.prog.info? 35).map (·.size) = some 3 := by kernel_rfl
theorem indexS (b off n cap k : Nat) (w : World) (hk : k < n) :
    (Instr.indexAt 22 (.slice (some ⟨b, off, none⟩) n cap) (.int .i64 (k : Int))).run Tryd.prog w = .ok (.pointer (some ⟨b, off + 3 * k, none⟩)) w := by
  obtain ⟨i, hi, hs⟩ := info_some sizeStep
  have hu := Tryd.underlying22
  have he : Tryd.prog.elem 22 = 35 := by kernel_rfl
  rw [run_indexAt_slice (P := Tryd.prog) _ _ _ _ _ _ _ (by rw [he]; exact hu)]
  simp [hk, he, hi, hs, Go.sizeOf, typeInfo, Addr.add_mid]
theorem cL_step : ∀ {l m : List St} (k : Nat), l.take k = m.take k → k ≤ l.length → k ≤ m.length → cL l m = cL (l.drop k) (m.drop k)
  | _, _, 0, _, _, _ => by simp
  | [], _, k + 1, _, h, _ => by simp at h
  | _ :: _, [], k + 1, _, _, h => by simp at h
  | a :: x, b :: y, k + 1, h, h1, h2 => by
    simp only [List.take_succ_cons, List.cons.injEq] at h
    obtain ⟨rfl, h⟩ := h
    simp only [List.length_cons] at h1 h2
    have e : cSt a a = 0 := cSt_zero.2 rfl
    rw [List.drop_succ_cons, List.drop_succ_cons, ← cL_step k h (by omega) (by omega)]
    simp [cL, or2, e]
theorem drop_at {l : List St} {k : Nat} {p : St} (h : l[k]? = some p) : l.drop k = p :: l.drop (k + 1) := by
  have hk := (List.getElem?_eq_some_iff.1 h)
  obtain ⟨h1, h2⟩ := hk
  rw [List.drop_eq_getElem_cons h1, h2]
theorem take_at {l m : List St} {k : Nat} {p : St} (h : l.take k = m.take k) (h1 : l[k]? = some p) (h2 : m[k]? = some p) : l.take (k + 1) = m.take (k + 1) := by
  rw [List.take_add_one, List.take_add_one, h, h1, h2]
end Go.Proofs.YtgnichmemkglkaaDoor
