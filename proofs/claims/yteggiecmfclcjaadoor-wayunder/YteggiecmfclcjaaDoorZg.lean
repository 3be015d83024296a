import Derived.Test.YteggiecmfclcjaaDoorZf
namespace Go.Proofs.YteggiecmfclcjaaDoor
open Go.RowKit
set_option linter.unusedVariables false
set_option linter.unusedSimpArgs false

theorem Sts.drop {W : World} {b off : Nat} {l : List St} (h : Sts W (some ⟨b, off, none⟩) l) (k : Nat) : Sts W (some ⟨b, off + 3 * k, none⟩) (l.drop k) := by
  rcases h with rfl | ⟨b', off', e, h⟩
  · exact .inl (by simp)
  · cases e
    refine .inr ⟨b, off + 3 * k, rfl, fun i p e => ?_⟩
    have := h (k + i) p (by rw [List.getElem?_drop] at e; exact e)
    rw [show off + 3 * k + 3 * i = off + 3 * (k + i) by omega]
    exact this
/-- A slice from a place on. -/
theorem sl_lo (a : Option Addr) (l : List St) (cap k : Nat) (W : World) (hl : Sts W a l) (hne : a = none → l = []) (hc : l.length ≤ cap) (hk : k ≤ l.length) :
    ∃ A, (∀ w : World, (Instr.slice 22 (.slice a l.length cap) (some (.int .i64 (k : Int))) none none).run Tryd.prog w = .ok (.slice A (l.length - k) (cap - k)) w) ∧ Sts W A (l.drop k) ∧ (A = none → l.drop k = []) := by
  obtain ⟨i, hi, hz, hs, hby⟩ := infoS
  refine ⟨if cap = k then a else a.map (·.add (k * 3)), fun w => ?_, ?_, ?_⟩
  · have h1 : ¬ ((k : Int) < 0) := by omega
    have h2 : k ≤ cap := by omega
    simp [Instr.slice, run_underlying Tryd.underlying22, Instr.sliceBounds, Instr.sliceBound, asIntOf, sizeOf, typeInfo, hi, hs, h1, hk, h2, hc]
  · by_cases h : cap = k
    · rw [if_pos h, List.drop_eq_nil_of_le (by omega)]
      exact .inl rfl
    · rw [if_neg h]
      rcases hl with rfl | ⟨b, off, rfl, hx⟩
      · exact .inl (by simp)
      · have := Sts.drop (W := W) (b := b) (off := off) (l := l) (.inr ⟨b, off, rfl, hx⟩) k
        simp only [Option.map_some, Addr.add_mid]
        rw [show k * 3 = 3 * k by omega]
        exact this
  · intro h
    by_cases hq : cap = k
    · exact List.drop_eq_nil_of_le (by omega)
    · rw [if_neg hq] at h
      cases a with
      | none => rw [hne rfl]; simp
      | some a => simp at h
end Go.Proofs.YteggiecmfclcjaaDoor
