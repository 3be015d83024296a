import Derived.Test.YtdnocpngdepbgaaGreatDoorBkb
import Derived.Test.YtdnocpngdepbgaaGreatDoorBa
import Derived.Test.YtdnocpngdepbgaaGreatDoorBb
import Derived.Test.YtdnocpngdepbgaaGreatDoorBc
namespace Go.Proofs.YtdnocpngdepbgaaGreatDoor.K
open Go.RowKit
set_option linter.unusedVariables false
set_option linter.unusedSimpArgs false

/-- A Book's cells. -/
def bkC (all : Value) : Array Value := #[all, .slice none 0 0, .slice none 0 0, .slice none 0 0, .slice none 0 0, .slice none 0 0, .slice none 0 0, .slice none 0 0, .slice none 0 0, .slice none 0 0, .slice none 0 0, .slice none 0 0, .slice none 0 0, .slice none 0 0, .slice none 0 0, .slice none 0 0, .slice none 0 0, .slice none 0 0]
def BkN (w : World) (q base : Nat) (all : Value) (rows : List Value) : Prop := w.heap[q]? = some (.cells (bkC all) 66 (0, 0)) ∧ w.ownsRow base 25 1 all rows.length rows ∧ all.ownBlock ≠ some q
set_option maxRecDepth 100000 in
set_option maxHeartbeats 1000000 in
theorem take_any (q base : Nat) (all : Value) (rows : List Value) (a : Option Addr) (n c : Nat) (w : World) (hw : BkN w q base all rows) (hn : rows.length ≤ 4398046510976) (hbq : base ≤ q) :
    Calls Tryz.prog 15 #[.pointer (some ⟨q, 0, none⟩), .slice a n c] w fun e w' => e = .returned (.tuple #[]) ∧ (∃ all', BkN w' q base all' (rows ++ [.slice a n c])) ∧ Below base w w' := by
  obtain ⟨hq, hr, hne⟩ := hw
  have zq : q < w.heap.size := (Array.getElem?_eq_some_iff.1 hq).1
  have c0 := (cell_of_row w q 0 _ _ _ hq).trans (show (bkC all)[0]? = some all from rfl)
  have be : Below w.heap.size w (w.alloc (.cells #[.slice a n c] 25)) := (Below.refl _ _).alloc (Nat.le_refl _) _
  have RA : Hid ((w.alloc (.cells #[.slice a n c] 25)).ownsRow base 25 1 all rows.length rows) := World.ownsRow.kept hr (World.grownBy_alloc w _ none) (by cases hx : all.ownBlock <;> simp)
  have CA : Hid ((w.alloc (.cells #[.slice a n c] 25)).cell? ⟨w.heap.size, 0, none⟩ = some (.slice a n c)) := (cell_of_row _ w.heap.size 0 _ _ _ (heap_alloc_new _ _)).trans rfl
  have ZA : Hid (base ≤ (w.alloc (.cells #[.slice a n c] 25)).heap.size) := (by simp; omega : _ ≤ _)
  have QA : Hid ((w.alloc (.cells #[.slice a n c] 25)).heap[q]? = some (.cells (bkC all) 66 (0, 0))) := (be.block q zq).trans hq
  have BA : Hid (Below base w (w.alloc (.cells #[.slice a n c] 25))) := (Below.refl _ _).alloc (by omega) _
  clear hq hr be
  go_enter Tryz.func15, Tryz.ntmps15
  go_wp2_with (first | (at_builtin; refine wpList_appS rfl (.tmp 8) (.tmp 10) rfl base all rows.length rows rfl RA.out ⟨w.heap.size, 0, none⟩ (.slice a n c) rfl CA.out rfl (by omega) ZA.out ?_) | fail)
  intro all' w1 rows' gr hblk
  have zA : q < (w.alloc (.cells #[.slice a n c] 25)).heap.size := by simp; omega
  have hq1 : w1.heap[q]? = some (.cells (bkC all) 66 (0, 0)) := by rw [gr.block q zA (fun e => hne e.symm)]; exact QA.out
  have d0 := (cell_of_row w1 q 0 _ _ _ hq1).trans (show (bkC all)[0]? = some all from rfl)
  have f0 := frozen_of_row w1 q 0 _ _ hq1
  have hne1 : all'.ownBlock ≠ some q := by
    rcases hblk with e | e
    · rw [e]; exact hne
    · rw [e]; intro h; simp at h; omega
  have one : all'.oneCell' = true := by
    rcases rows'.2 with ⟨rfl, _⟩ | ⟨g, cap, cur, rfl, _⟩ <;> rfl
  have W1 : Hid (BkN (w1.setCell ⟨q, 0, none⟩ all') q base all' (rows ++ [.slice a n c])) := ⟨by rw [heap_setCell_same w1 q 0 _ 66 _ hq1]; rfl, by
    refine ⟨?_, ?_⟩
    · have := rows'.1; simp
    · rcases rows'.2 with ⟨rfl, hn0⟩ | ⟨g, cap, cur, rfl, hbg, hg, rest⟩
      · exact .inl ⟨rfl, by simp at hn0⟩
      · refine .inr ⟨g, cap, cur, by simp, hbg, ?_, by simpa using rest⟩
        rw [Below.heap_setCell _ _ _ _ (fun e => hne1 (by simp [Value.ownBlock]; exact e))]
        exact hg, hne1⟩
  have B1 : Hid (Below base w (w1.setCell ⟨q, 0, none⟩ all')) := (BA.out.grown gr ZA.out (fun k hk => (World.ownsRow.lt RA.out k hk).1)).setCell hbq _
  obtain ⟨ga, gn, gc, rfl⟩ : ∃ ga gn gc, all' = .slice ga gn gc := by
    rcases rows'.2 with ⟨rfl, _⟩ | ⟨g, cap, cur, rfl, _⟩ <;> exact ⟨_, _, _, rfl⟩
  clear RA CA ZA QA BA rows' gr hblk hne1 hne
  go_wp2
  go_end0
  exact ⟨rfl, ⟨_, W1.out⟩, B1.out⟩
theorem below_setRowX (B : Nat) (w : World) (g : Nat) (cs : Array Value) (h : B ≤ g) : Below B w (w.setRow g cs) :=
  ⟨rfl, rfl, rfl, by simp, fun k hk => setRow_other w g k cs (by omega)⟩
theorem hbBk : Tryz.prog.built 66 [] = some (bkC (.slice none 0 0)) := by kernel_rfl
theorem hsBk : (Tryz.prog.info? 66).map (·.size) = some 18 := by kernel_rfl
theorem hone (v : Value) (h : v = .slice none 0 0) : (bkC v).all (·.oneCell') = true := by subst h; kernel_rfl
end Go.Proofs.YtdnocpngdepbgaaGreatDoor.K
