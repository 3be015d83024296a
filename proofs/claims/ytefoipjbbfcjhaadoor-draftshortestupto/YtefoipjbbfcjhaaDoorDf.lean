import Derived.Test.YtefoipjbbfcjhaaDoorDe
namespace Go.Proofs.YtefoipjbbfcjhaaDoor
open Go.RowKit
set_option linter.unusedVariables false
set_option linter.unusedSimpArgs false

theorem Tab.start (w : World) (te ti n m : Nat) (k : IntKind) (B : Nat → Nat) (F : Nat → Nat → Nat) : Tab w (w.alloc (.cells (madeCells #[.slice none 0 0] n) te)) w.heap.size w.heap.size ti k n n m B F := by
  have hr := World.rowIs_made w (.slice none 0 0) n te
  exact ⟨(Below.refl _ _).alloc (Nat.le_refl _) _, Nat.le_refl _, by simp, fun i hi => by rw [hr.cell hi, if_neg (by omega)], fun i => hr.frozen i, fun i h1 h2 => absurd h2 (by omega), fun i j h1 h2 => absurd h2 (by omega), fun i h1 h2 => absurd h2 (by omega), fun i h1 h2 => absurd h2 (by omega)⟩
theorem Tab.more {w0 wr : World} {base T ti p n m : Nat} {k : IntKind} {B : Nat → Nat} {F : Nat → Nat → Nat} (h : Tab w0 wr base T ti k (p + 1) n m B F) (hp : p < n) (hb : base ≤ wr.heap.size) (h0 : ∀ q, q < m → F p q = 0) :
    Tab w0 ((wr.alloc (.cells (madeCells #[.int k 0] m) ti)).setCell ⟨T, p, none⟩ (.slice (some ⟨wr.heap.size, 0, none⟩) m m)) base T ti k p n m (fun i => if i = p then wr.heap.size else B i) F := by
  have hnew := World.rowIs_made wr (.int k 0) m ti
  have hlt : ∀ i, p + 1 ≤ i → i < n → B i < wr.heap.size := fun i h1 h2 => (h.row i h1 h2).lt
  have hTn : T ≠ wr.heap.size := Nat.ne_of_lt h.lT
  obtain ⟨c, hc⟩ : ∃ c, (wr.alloc (.cells (madeCells #[.int k 0] m) ti)).cell? ⟨T, p, none⟩ = some c := ⟨_, (((Below.refl _ wr).alloc (Nat.le_refl _) _).cell (p := ⟨T, p, none⟩) h.lT).trans (h.top p hp)⟩
  refine ⟨(h.bel.alloc hb _).setCell h.bT _, h.bT, by have := h.lT; simp; omega, fun i hi => ?_, fun i => ?_, fun i h1 h2 => ?_, fun i j h1 h2 h3 h4 e => ?_, fun i h1 h2 => ?_, fun i h1 h2 => ?_⟩
  · by_cases e : i = p
    · subst e
      rw [if_pos (Nat.le_refl _), if_pos rfl]
      exact World.cell?_setCell_same _ _ _ hc
    · have e1 : ((wr.alloc (.cells (madeCells #[.int k 0] m) ti)).setCell ⟨T, p, none⟩ (.slice (some ⟨wr.heap.size, 0, none⟩) m m)).cell? ⟨T, i, none⟩ = wr.cell? ⟨T, i, none⟩ := by
        rw [World.cell?_setCell_other _ _ _ _ (fun e2 => e (by cases e2; rfl))]
        exact ((Below.refl _ wr).alloc (Nat.le_refl _) _).cell (p := ⟨T, i, none⟩) h.lT
      rw [e1, h.top i hi]
      by_cases h3 : p + 1 ≤ i
      · rw [if_pos h3, if_pos (by omega), if_neg e]
      · rw [if_neg h3, if_neg (by omega)]
  · rw [World.frozen?_setCell]
    exact (((Below.refl _ wr).alloc (Nat.le_refl _) _).frozen (p := ⟨T, i, none⟩) h.lT).trans (h.fz i)
  · by_cases e : i = p
    · subst e
      rw [if_pos rfl]
      exact (hnew.setOther (by exact fun e => hTn e.symm) _).congr fun q hq => by rw [h0 q hq]; rfl
    · rw [if_neg e]
      exact ((h.row i (by omega) h2).alloc _).setOther (by exact h.sep i (by omega) h2) _
  · by_cases e1 : i = p
    · by_cases e2 : j = p
      · rw [e1, e2]
      · rw [if_pos e1, if_neg e2] at e
        have := hlt j (by omega) h4
        omega
    · by_cases e2 : j = p
      · rw [if_neg e1, if_pos e2] at e
        have := hlt i (by omega) h2
        omega
      · rw [if_neg e1, if_neg e2] at e
        exact h.inj i j (by omega) h2 (by omega) h4 e
  · by_cases e : i = p
    · rw [if_pos e]; exact fun e => hTn e.symm
    · rw [if_neg e]; exact h.sep i (by omega) h2
  · by_cases e : i = p
    · rw [if_pos e]; exact hb
    · rw [if_neg e]; exact h.low i (by omega) h2
end Go.Proofs.YtefoipjbbfcjhaaDoor
