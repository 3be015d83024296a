import Derived.Test.YtphpaaajfcbafaaDoorQc
namespace Go.Proofs.YtphpaaajfcbafaaDoor.K
open Go.RowKit
set_option linter.unusedVariables false
set_option linter.unusedSimpArgs false

/-- errors' own variable. -/
def EG (w : World) : Prop := w.cell? ⟨0, 0, none⟩ = some (.iface 114 (.agg #[.pointer (some ⟨1, 40, none⟩)]))
theorem EG.below {w w' : World} (h : EG w) (hb : Below w.heap.size w w') : EG w' := (hb.cell (p := ⟨0, 0, none⟩) (block_lt_of_cell h)).trans h
/-- An error: none, or a fault. -/
def Er (w : World) (v : Value) (why at' : Int) : Prop := (v = .nilIface ∧ why = 0 ∧ at' = 0) ∨ (why ≠ 0 ∧ ∃ q, v = .iface 63 (.pointer (some ⟨q, 0, none⟩)) ∧ w.cell? ⟨q, 0, none⟩ = some (.int .i64 why) ∧ w.cell? ⟨q, 1, none⟩ = some (.int .i64 at'))
theorem Er.below {w w' : World} {v : Value} {y p : Int} (h : Er w v y p) (hb : Below w.heap.size w w') : Er w' v y p := by
  rcases h with h | ⟨h0, q, h1, h2, h3⟩
  · exact .inl h
  · exact .inr ⟨h0, q, h1, (hb.cell (p := ⟨q, 0, none⟩) (block_lt_of_cell h2)).trans h2, (hb.cell (p := ⟨q, 1, none⟩) (block_lt_of_cell h3)).trans h3⟩
theorem asW_below (w : World) (e : Addr) : Below w.heap.size w (asW (w.alloc (.cells #[.pointer none] 63)) e ⟨w.heap.size, 0, none⟩) := by
  unfold asW
  refine Below.setCell (p := ⟨w.heap.size, 0, none⟩) ?_ (Nat.le_refl _) _
  refine Below.alloc ?_ (by simp; omega) _
  refine Below.alloc ?_ (by simp; omega) _
  refine Below.alloc ?_ (by simp; omega) _
  refine Below.alloc ?_ (by simp) _
  exact (Below.refl _ _).alloc (Nat.le_refl _) _
set_option maxRecDepth 100000 in
set_option maxHeartbeats 1000000 in
theorem told_any (v : Value) (y p : Int) (w : World) (hg : EG w) (h : Er w v y p) :
    Calls Tryd.prog 16 #[v] w fun e w' => e = .returned (.tuple #[.int .i64 y, .int .i64 p]) ∧ Below w.heap.size w w' := by
  rcases h with ⟨rfl, rfl, rfl⟩ | ⟨h0, q, rfl, c0, c1⟩
  · have B0 : Hid (Below w.heap.size w (w.alloc (.cells #[.pointer none] 63))) := (Below.refl _ _).alloc (Nat.le_refl _) _
    have HA := Hid.mk' (fun W => as_nil (.iface 77 (.pointer (some ⟨w.heap.size, 0, none⟩))) W)
    clear hg
    go_enter Tryd.func16, Tryd.ntmps16
    go_wp2_with (first
      | (go_at_call 39; refine (HA.out _).mono ?_; rintro e W1 ⟨rfl, hw⟩; obtain rfl := hw)
      | fail)
    go_ret2
    exact ⟨rfl, B0.out⟩
  · have be : Below w.heap.size w (w.alloc (.cells #[.pointer none] 63)) := (Below.refl _ _).alloc (Nat.le_refl _) _
    have HA := Hid.mk' (as_hit ⟨q, 0, none⟩ ⟨w.heap.size, 0, none⟩ (.pointer none) (w.alloc (.cells #[.pointer none] 63)) (hg.below be) (by simp) (by simp))
    have B1 := asW_below w ⟨q, 0, none⟩
    have d0 := (B1.cell (p := ⟨q, 0, none⟩) (block_lt_of_cell c0)).trans c0
    have d1 := (B1.cell (p := ⟨q, 1, none⟩) (block_lt_of_cell c1)).trans c1
    have dt : (asW (w.alloc (.cells #[.pointer none] 63)) ⟨q, 0, none⟩ ⟨w.heap.size, 0, none⟩).cell? ⟨w.heap.size, 0, none⟩ = some (.pointer (some ⟨q, 0, none⟩)) := by
      unfold asW
      refine World.cell?_setCell_same _ _ _ (show _ = some (Value.pointer none) from ?_)
      rw [World.cell?_alloc_lt _ _ ⟨w.heap.size, 0, none⟩ (by simp; omega), World.cell?_alloc_lt _ _ ⟨w.heap.size, 0, none⟩ (by simp; omega), World.cell?_alloc_lt _ _ ⟨w.heap.size, 0, none⟩ (by simp; omega), World.cell?_alloc_lt _ _ ⟨w.heap.size, 0, none⟩ (by simp)]
      simp
    have HB1 := Hid.mk' B1
    clear B1 be c0 c1 hg
    generalize asW (w.alloc (.cells #[.pointer none] 63)) ⟨q, 0, none⟩ ⟨w.heap.size, 0, none⟩ = W1 at *
    go_enter Tryd.func16, Tryd.ntmps16
    go_wp2_with (first
      | (go_at_call 39; refine HA.out.mono ?_; rintro e W2 ⟨rfl, hw⟩; obtain rfl := hw)
      | fail)
    go_quiet (fail)
    go_wp2
    go_ret2
    exact ⟨rfl, below_drewN HB1.out _⟩
variable {r cap : Nat} {a : Option Addr} {L : List UInt8} {s : St}
set_option maxRecDepth 100000 in
set_option maxHeartbeats 1000000 in
theorem ended_any (w : World) (h : RD w 90 r a cap L s) :
    Calls Tryd.prog 37 #[.pointer (some ⟨r, 0, none⟩)] w fun e w' => ∃ v, e = .returned v ∧ Er w' v (doneE L s) (doneP L s) ∧ Below w.heap.size w w' := by
  have HF := Hid.mk' (rdone_any w h)
  have hk := h.at_le
  have hz : doneE L s = 0 → doneP L s = 0 := by
    unfold doneE doneP
    split
    · split
      · intro h; cases h
      · intro _; rfl
    · rename_i h1; intro h2; exact absurd h2 h1
  clear h
  generalize doneE L s = y at *
  generalize doneP L s = p at *
  by_cases hb : y = 0
  · subst hb
    obtain rfl := hz rfl
    go_enter Tryd.func37, Tryd.ntmps37
    go_wp2_with fail
    refine HF.out.mono ?_
    rintro e w1 ⟨rfl, m, rfl⟩
    go_wp2
    go_ret
    exact ⟨_, rfl, .inl ⟨rfl, rfl, rfl⟩, below_drewN (Below.refl _ _) _⟩
  · have e1 : (y == 0) = false := by simp [hb]
    have e2 : (y != 0) = true := by simp [hb]
    have HY := Hid.mk' hb
    have HB : Hid (∀ m, Below w.heap.size w ((w.drewN m).alloc (.cells #[.int .i64 y, .int .i64 p] 65))) := fun m => (below_drewN (Below.refl _ _) m).alloc (Nat.le_refl _) _
    have HC : Hid (∀ m, Er ((w.drewN m).alloc (.cells #[.int .i64 y, .int .i64 p] 65)) (.iface 63 (.pointer (some ⟨w.heap.size, 0, none⟩))) y p) := fun m => .inr ⟨hb, w.heap.size, rfl, (cell_of_row _ w.heap.size 0 _ _ _ (heap_alloc_new (w.drewN m) _)).trans rfl, (cell_of_row _ w.heap.size 1 _ _ _ (heap_alloc_new (w.drewN m) _)).trans rfl⟩
    clear hb hz
    go_enter Tryd.func37, Tryd.ntmps37
    go_wp2_with fail
    refine HF.out.mono ?_
    rintro e w1 ⟨rfl, m, rfl⟩
    go_wp2
    go_ret
    exact ⟨_, rfl, HC.out m, HB.out m⟩
end Go.Proofs.YtphpaaajfcbafaaDoor.K
