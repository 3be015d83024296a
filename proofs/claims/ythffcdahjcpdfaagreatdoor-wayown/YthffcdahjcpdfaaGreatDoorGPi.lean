import Derived.Test.YthffcdahjcpdfaaGreatDoorGPf
namespace Go.Proofs.YthffcdahjcpdfaaGreatDoor
open Go.RowKit
set_option linter.unusedVariables false
set_option linter.unusedSimpArgs false

/-- The step at the front, as the reference reads it. -/
noncomputable def oneT (t : ByteArray) : St × Nat × Bool :=
  if K.V.by8 t 0 = 47 then (⟨1, (kyT (t.extract 1 t.size)).1, 0⟩, 1 + (kyT (t.extract 1 t.size)).2.1, (kyT (t.extract 1 t.size)).2.2)
  else if K.V.by8 t 0 = 126 then (⟨3, ⟨#[]⟩, ((nuT (t.extract 1 t.size)).1 : Int)⟩, 1 + (nuT (t.extract 1 t.size)).2.1, (nuT (t.extract 1 t.size)).2.2)
  else if K.V.by8 t 0 = 91 then
    (if (nuT (t.extract 1 t.size)).2.2 = false ∨ t.size ≤ 1 + (nuT (t.extract 1 t.size)).2.1 ∨ K.V.by8 t (1 + (nuT (t.extract 1 t.size)).2.1) ≠ 93 then (zSt, 1 + (nuT (t.extract 1 t.size)).2.1, false)
     else (⟨2, ⟨#[]⟩, ((nuT (t.extract 1 t.size)).1 : Int)⟩, 2 + (nuT (t.extract 1 t.size)).2.1, true))
  else (zSt, 0, false)
theorem kyT_le (s : ByteArray) (hU : Q.UB s) : (kyT s).2.1 ≤ s.size := by
  have hp := plN_le s
  obtain ⟨u1, u2, _⟩ := hU
  unfold kyT
  split
  · unfold quT
    split
    · simp; omega
    · split
      · simp
      · simp; omega
  · unfold plT
    split
    · simp
    · split
      · simp; omega
      · simpa using hp
theorem nuT_le (s : ByteArray) : (nuT s).2.1 ≤ s.size ∧ (nuT s).1 ≤ 2147483647 := by
  have h := numP_le s 0 s.size 0 0
  unfold nuT
  split
  · simp
  · split
    · simp
      next h1 _ => 
        rcases Nat.eq_zero_or_pos s.size with h0 | h0
        · exact absurd (.inl h0) h1
        · exact h0
    · exact ⟨by omega, h.2.2.1 (by omega)⟩
theorem three_set {wx : World} {g : Nat} {t : TypeId} (C : Array Value) (hC : C.size = 3) (a b c : Value) (hg : wx.heap[g]? = some (.cells C t (0, 0))) : (((wx.setCell ⟨g, 0, none⟩ a).setCell ⟨g, 1, none⟩ b).setCell ⟨g, 2, none⟩ c).heap[g]? = some (.cells #[a, b, c] t (0, 0)) := by
  have h1 := heap_setCell_same wx g 0 _ t a hg
  have h2 := heap_setCell_same _ g 1 _ t b h1
  have h3 := heap_setCell_same _ g 2 _ t c h2
  rw [h3]
  obtain ⟨l⟩ := C
  match l, hC with
  | [x, y, z], _ => rfl
end Go.Proofs.YthffcdahjcpdfaaGreatDoor

namespace Go.Proofs.YthffcdahjcpdfaaGreatDoor
open Go.RowKit
set_option linter.unusedVariables false
set_option linter.unusedSimpArgs false

theorem oneT_le (t : ByteArray) (h0 : 0 < t.size) (hU : Q.UB (t.extract 1 t.size)) : (oneT t).2.1 ≤ t.size ∧ ((oneT t).2.2 = true → 1 ≤ (oneT t).2.1) := by
  have zt : (t.extract 1 t.size).size = t.size - 1 := Lib.ext_size t 1
  have h1 := kyT_le _ hU
  have h2 := (nuT_le (t.extract 1 t.size)).1
  unfold oneT
  split
  · simp; omega
  · split
    · simp; omega
    · split
      · split
        · simp; omega
        · next h => simp only [not_or] at h; simp; omega
      · simp
/-- The reference's reading of a way from a place on. -/
noncomputable def rR (s : ByteArray) : Nat → Nat → List St → List St × Int × Nat
  | 0, _, acc => (acc, 0, 0)
  | f + 1, i, acc => if i < s.size then (if acc.length = 32 then ([], 130, i) else if (oneT (s.extract i s.size)).2.2 = false then ([], 130, i + (oneT (s.extract i s.size)).2.1) else rR s f (i + (oneT (s.extract i s.size)).2.1) (acc ++ [(oneT (s.extract i s.size)).1])) else (acc, 0, 0)
end Go.Proofs.YthffcdahjcpdfaaGreatDoor

namespace Go.Proofs.YthffcdahjcpdfaaGreatDoor
open Go.RowKit
set_option linter.unusedVariables false
set_option linter.unusedSimpArgs false

end Go.Proofs.YthffcdahjcpdfaaGreatDoor

