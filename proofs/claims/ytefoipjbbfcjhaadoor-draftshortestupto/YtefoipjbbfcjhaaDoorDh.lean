import Derived.Test.YtefoipjbbfcjhaaDoorDg
namespace Go.Proofs.YtefoipjbbfcjhaaDoor
open Go.RowKit
set_option linter.unusedVariables false
set_option linter.unusedSimpArgs false

/-- Rows that are all zero, one behind the other. -/
structure Pre (w0 wr : World) (N : Nat) (lv : Value) (n m : Nat) (Bl : Nat → Nat) : Prop where
  bel : Below N w0 wr
  bN : N ≤ wr.heap.size
  own : wr.ownsRow N 47 1 lv n ((List.range n).map fun i => Value.slice (some ⟨Bl i, 0, none⟩) m m)
  row : ∀ i, i < n → wr.rowIs (Bl i) 3 m (fun _ => .int .i64 0)
  inj : ∀ i j, i < n → j < n → Bl i = Bl j → i = j
  sep : ∀ i, i < n → lv.ownBlock ≠ some (Bl i)
  low : ∀ i, i < n → N ≤ Bl i
theorem Pre.start (w : World) (m : Nat) : Pre w w w.heap.size (.slice none 0 0) 0 m (fun _ => 0) :=
  ⟨Below.refl _ _, Nat.le_refl _, World.ownsRow_nil _ _ _ _, fun i h => absurd h (by omega), fun i j h => absurd h (by omega), fun i h => absurd h (by omega), fun i h => absurd h (by omega)⟩
theorem Pre.next {w0 wr w' : World} {N n m : Nat} {lv v' : Value} {Bl : Nat → Nat} (h : Pre w0 wr N lv n m Bl)
    (own' : w'.ownsRow N 47 1 v' (n + 1) (((List.range n).map fun i => Value.slice (some ⟨Bl i, 0, none⟩) m m) ++ (Value.slice (some ⟨wr.heap.size, 0, none⟩) m m).cells.toList)) (gr : (wr.alloc (.cells (madeCells #[.int .i64 0] m) 3)).grownBy w' lv.ownBlock)
    (hb : v'.ownBlock = lv.ownBlock ∨ ∃ g, v'.ownBlock = some g ∧ (wr.alloc (.cells (madeCells #[.int .i64 0] m) 3)).heap.size ≤ g) : Pre w0 w' N v' (n + 1) m (fun i => if i = n then wr.heap.size else Bl i) := by
  have hsz : (wr.alloc (.cells (madeCells #[.int .i64 0] m) 3)).heap.size = wr.heap.size + 1 := by simp
  have hlt : ∀ i, i < n → Bl i < wr.heap.size := fun i hi => (h.row i hi).lt
  have hol : ∀ k, lv.ownBlock = some k → k < wr.heap.size := fun k hk => (h.own.lt k hk).2
  refine ⟨(h.bel.alloc h.bN _).grown gr (by have := h.bN; omega) (fun k hk => (h.own.lt k hk).1), by have := gr.size; have := h.bN; omega, ?_, fun i hi => ?_, fun i j hi hj e => ?_, fun i hi => ?_, fun i hi => ?_⟩
  · have e : ((List.range (n + 1)).map fun i => Value.slice (some ⟨if i = n then wr.heap.size else Bl i, 0, none⟩) m m) = ((List.range n).map fun i => Value.slice (some ⟨Bl i, 0, none⟩) m m) ++ (Value.slice (some ⟨wr.heap.size, 0, none⟩) m m).cells.toList := by
      rw [List.range_succ, List.map_append]
      congr 1
      · apply List.map_congr_left
        intro i hi
        rw [if_neg (by have := List.mem_range.1 hi; omega)]
      · simp [Value.cells]
    rw [e]
    exact own'
  · by_cases e : i = n
    · subst e
      rw [if_pos rfl]
      exact (World.rowIs_made wr (.int .i64 0) m 3).of_block (gr.block _ (by omega) (fun e => by have := hol _ e.symm; omega))
    · rw [if_neg e]
      exact ((h.row i (by omega)).alloc _).of_block (gr.block _ (by have := hlt i (by omega); omega) (fun e => h.sep i (by omega) e.symm))
  · by_cases e1 : i = n
    · by_cases e2 : j = n
      · rw [e1, e2]
      · rw [if_pos e1, if_neg e2] at e
        have := hlt j (by omega)
        omega
    · by_cases e2 : j = n
      · rw [if_neg e1, if_pos e2] at e
        have := hlt i (by omega)
        omega
      · rw [if_neg e1, if_neg e2] at e
        exact h.inj i j (by omega) (by omega) e
  · by_cases e : i = n
    · rw [if_pos e]
      rcases hb with hb | ⟨g, hb, hg⟩
      · rw [hb]; intro e2; have := hol _ e2; omega
      · rw [hb]; intro e2; injection e2 with e2; omega
    · rw [if_neg e]
      rcases hb with hb | ⟨g, hb, hg⟩
      · rw [hb]; exact h.sep i (by omega)
      · rw [hb]; intro e2; injection e2 with e2; have := hlt i (by omega); omega
  · by_cases e : i = n
    · rw [if_pos e]; exact h.bN
    · rw [if_neg e]; exact h.low i (by omega)
theorem Pre.tab {w0 wr : World} {N n m : Nat} {lv : Value} {Bl : Nat → Nat} {F : Nat → Nat → Nat} (h : Pre w0 wr N lv n m Bl) (hn : 0 < n) (hF : ∀ p q, p < n → q < m → F p q = 0) : ∃ T c, lv = .slice (some ⟨T, 0, none⟩) n c ∧ Tab w0 wr N T 3 .i64 0 n m Bl F := by
  have how := h.own
  rcases how.2 with ⟨_, h0⟩ | ⟨T, cap, cur, rfl, hbg, hg, hnc, hcm, hcs, htake⟩
  · omega
  refine ⟨T, cap, rfl, h.bel, hbg, (Array.getElem?_eq_some_iff.1 hg).1, fun i hi => ?_, fun i => frozen_of_row wr T i _ _ hg, fun i _ hi => ?_, fun i j _ hi _ hj e => h.inj i j hi hj e, fun i _ hi e => h.sep i hi (by simp [Value.ownBlock, e]), fun i _ hi => h.low i hi⟩
  · rw [if_pos (Nat.zero_le _), how.cellAt i (by omega)]
    simp [hi]
  · exact (h.row i hi).congr fun q hq => by rw [hF i q hi hq]; rfl
end Go.Proofs.YtefoipjbbfcjhaaDoor
