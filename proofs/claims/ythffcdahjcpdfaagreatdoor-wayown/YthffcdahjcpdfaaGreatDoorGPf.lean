import Derived.Test.YthffcdahjcpdfaaGreatDoorGQUv
namespace Go.Proofs.YthffcdahjcpdfaaGreatDoor
open Go.RowKit
set_option linter.unusedVariables false
set_option linter.unusedSimpArgs false

/-- The reference's number at the front. -/
def nuT (t : ByteArray) : Nat × Nat × Bool := if t.size = 0 ∨ dgC (K.V.by8 t 0) = false then (0, 0, false) else if K.V.by8 t 0 = 48 then (0, 1, true) else numP t 0 t.size 0 0
end Go.Proofs.YthffcdahjcpdfaaGreatDoor

namespace Go.Proofs.YthffcdahjcpdfaaGreatDoor
open Go.RowKit
set_option linter.unusedVariables false
set_option linter.unusedSimpArgs false

theorem ub_of (t : ByteArray) (w : World) (hs : t.size ≤ 140737488351232) (hT : Q.Tabs w) : Q.UB t := by
  obtain ⟨e, w', fr, h, _⟩ := Q.unquote_b t w hs hT []
  exact h.2.2
theorem tw_ge {f : UInt8 → Bool} : ∀ (l : List UInt8) (m : Nat), m ≤ l.length → (∀ j (h : j < l.length), j < m → f l[j] = true) → m ≤ (l.takeWhile f).length
  | _, 0, _, _ => Nat.zero_le _
  | [], m + 1, h, _ => by simp at h
  | a :: l, m + 1, h, h1 => by
    have h0 := h1 0 (by simp) (by omega)
    simp at h0
    have ih := tw_ge (f := f) l m (by simpa using h) (fun j hj hjm => by have := h1 (j + 1) (by simpa using hj) (by omega); simpa using this)
    simp [List.takeWhile_cons, h0]
    exact ih
theorem plN_ge {s : ByteArray} {m : Nat} (hm : m ≤ s.size) (h : ∀ j, j < m → plC (K.V.by8 s j) = true) : m ≤ plN s := by
  have hz : s.data.toList.length = s.size := Array.length_toList
  refine tw_ge _ m (by omega) (fun j hj hjm => ?_)
  have := h j hjm
  rw [by8_at s j hj] at this
  exact this
/-- A key in quotes at the front. -/
noncomputable def quT (t : ByteArray) : ByteArray × Nat × Bool :=
  if (Q.unqA t).2.2 ≠ 0 then (⟨#[]⟩, (Q.unqA t).2.1.toNat, false)
  else if keyB ⟨(Q.unqA t).1.toArray⟩ = false ∨ plS ⟨(Q.unqA t).1.toArray⟩ = true then (⟨#[]⟩, 0, false)
  else (⟨(Q.unqA t).1.toArray⟩, (Q.unqA t).2.1.toNat, true)
/-- A key without them. -/
def plT (t : ByteArray) : ByteArray × Nat × Bool :=
  if plN t = 0 then (⟨#[]⟩, 0, false) else if 64 < plN t then (⟨#[]⟩, 64, false) else (t.extract 0 (plN t), plN t, true)
noncomputable def kyT (t : ByteArray) : ByteArray × Nat × Bool := if 0 < t.size ∧ K.V.by8 t 0 = 34 then quT t else plT t
theorem sl_to (s : ByteArray) (m : Nat) (h2 : m ≤ s.size) (w : World) : (Instr.slice 9 (.string s) none (some (.int .i64 (m : Int))) none).run Tryz.prog w = .ok (.string (s.extract 0 m)) w := by
  have h3 : ¬ ((m : Int) < 0) := by omega
  simp [Instr.slice, run_underlying Tryz.underlying9, Instr.sliceBounds, Instr.sliceBound, asIntOf, h3, h2]
end Go.Proofs.YthffcdahjcpdfaaGreatDoor

namespace Go.Proofs.YthffcdahjcpdfaaGreatDoor
open Go.RowKit
set_option linter.unusedVariables false
set_option linter.unusedSimpArgs false

end Go.Proofs.YthffcdahjcpdfaaGreatDoor

