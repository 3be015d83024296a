import Derived.Test.YtdnocpngdepbgaaGreatDoorBkn
import Derived.Test.YtdnocpngdepbgaaGreatDoorBhb
namespace Go.Proofs.YtdnocpngdepbgaaGreatDoor
open Go.RowKit
set_option linter.unusedVariables false
set_option linter.unusedSimpArgs false

set_option maxRecDepth 100000 in
set_option maxHeartbeats 1000000 in
theorem aloneBytes_nil (q : Nat) (w : World) (c : w.cell? ⟨q, 0, none⟩ = some (.slice none 0 0)) :
    Calls Tryz.prog 57 #[.pointer (some ⟨q, 0, none⟩)] w fun e w' => e = .returned (.bool true) ∧ w' = w := by
  go_enter Tryz.func57, Tryz.ntmps57
  go_wp2
  go_loopw [3] (fun i wr => i = .int .i64 0 ∧ wr = w) (fun _ _ => 0)
  case atStart => exact ⟨rfl, rfl⟩
  case round =>
    obtain ⟨rfl, rfl⟩ := hrel
    go_wp2
    go_loopw [5, 6] (fun all i wy => all = .slice none 0 0 ∧ i = .int .i64 0 ∧ wy = wr) (fun _ _ _ => 0)
    case atStart => exact ⟨rfl, rfl, rfl⟩
    case round =>
      obtain ⟨rfl, rfl, rfl⟩ := hrel
      go_wp2
      go_loopw [9] (fun i wz => i = .int .i64 0 ∧ wz = wr) (fun _ _ => 0)
      case atStart => exact ⟨rfl, rfl⟩
      case round =>
        obtain ⟨rfl, rfl⟩ := hrel
        go_wp2
        go_ret
        exact ⟨rfl, rfl⟩

/-- A Book's cells, with two kinds of lists. -/
def bkC2 (x y : Value) : Array Value := #[x, y, .slice none 0 0, .slice none 0 0, .slice none 0 0, .slice none 0 0, .slice none 0 0, .slice none 0 0, .slice none 0 0, .slice none 0 0, .slice none 0 0, .slice none 0 0, .slice none 0 0, .slice none 0 0, .slice none 0 0, .slice none 0 0, .slice none 0 0, .slice none 0 0]
structure Bk2 (w : World) (q base : Nat) (x y : Value) (rx ry : List Value) : Prop where
  hq : w.heap[q]? = some (.cells (bkC2 x y) 66 (0, 0))
  ox : w.ownsRow base 25 1 x rx.length rx
  oy : w.ownsRow base 37 1 y ry.length ry
theorem own_ty {w : World} {base n sz : Nat} {e t : TypeId} {v : Value} {xs : List Value} {k : Nat} {c : Array Value} {fr : Nat × Nat} (o : w.ownsRow base e sz v n xs) (hk : w.heap[k]? = some (.cells c t fr)) (hne : e ≠ t) : v.ownBlock ≠ some k := fun h => by
  rcases o.2 with ⟨rfl, _⟩ | ⟨g, cap, cur, rfl, _, hg, _⟩
  · cases h
  · cases h
    rw [hg] at hk
    cases hk
    exact hne rfl
theorem own_ty2 {w : World} {b1 b2 n m s1 s2 : Nat} {e t : TypeId} {v u : Value} {xs ys : List Value} {k : Nat} (o : w.ownsRow b1 e s1 v n xs) (p : w.ownsRow b2 t s2 u m ys) (hne : e ≠ t) (h1 : v.ownBlock = some k) (h2 : u.ownBlock = some k) : False := by
  rcases p.2 with ⟨rfl, _⟩ | ⟨g, cap, cur, rfl, _, hg, _⟩
  · cases h2
  · cases h2
    exact own_ty o hg hne h1
theorem rows_one {w : World} {base n : Nat} {e : TypeId} {v : Value} {xs : List Value} (o : w.ownsRow base e 1 v n xs) : ∃ a m c, v = .slice a m c := by
  rcases o.2 with ⟨rfl, _⟩ | ⟨g, cap, cur, rfl, _⟩ <;> exact ⟨_, _, _, rfl⟩
theorem rows_set {w : World} {base n q i : Nat} {e : TypeId} {v u : Value} {xs : List Value} (o : w.ownsRow base e 1 v n xs) (hne : v.ownBlock ≠ some q) : (w.setCell ⟨q, i, none⟩ u).ownsRow base e 1 v n xs := by
  refine ⟨o.1, ?_⟩
  rcases o.2 with hn | ⟨g, cap, cur, rfl, hbg, hg, rest⟩
  · exact .inl hn
  · exact .inr ⟨g, cap, cur, rfl, hbg, (Below.heap_setCell _ _ _ _ (fun e => hne (by have e' : g = q := e; rw [e']; rfl))).trans hg, rest⟩
set_option maxRecDepth 100000 in
set_option maxHeartbeats 1000000 in
theorem takeB (q base : Nat) (x y : Value) (rx ry : List Value) (a : Option Addr) (n c : Nat) (w : World) (hw : Bk2 w q base x y rx ry) (hn : rx.length ≤ 4398046510976) (hbq : base ≤ w.heap.size) :
    Calls Tryz.prog 15 #[.pointer (some ⟨q, 0, none⟩), .slice a n c] w fun e w' => e = .returned (.tuple #[]) ∧ (∃ u, Bk2 w' q base u y (rx ++ [.slice a n c]) ry) ∧ w'.os = w.os ∧ w'.tape = w.tape ∧ w'.output = w.output ∧ w.heap.size ≤ w'.heap.size ∧ ∀ k, k < w.heap.size → k ≠ q → x.ownBlock ≠ some k → w'.heap[k]? = w.heap[k]? := by
  obtain ⟨hq, ox, oy⟩ := hw
  have hne : x.ownBlock ≠ some q := own_ty ox hq (by decide)
  have hneB : y.ownBlock ≠ some q := own_ty oy hq (by decide)
  have zq : q < w.heap.size := (Array.getElem?_eq_some_iff.1 hq).1
  have c0 := (cell_of_row w q 0 _ _ _ hq).trans (show (bkC2 x y)[0]? = some x from rfl)
  have be : Below w.heap.size w (w.alloc (.cells #[.slice a n c] 25)) := (Below.refl _ _).alloc (Nat.le_refl _) _
  have RA : Hid ((w.alloc (.cells #[.slice a n c] 25)).ownsRow base 25 1 x rx.length rx) := World.ownsRow.kept ox (World.grownBy_alloc w _ none) (by cases hx : x.ownBlock <;> simp)
  have RB : Hid ((w.alloc (.cells #[.slice a n c] 25)).ownsRow base 37 1 y ry.length ry) := World.ownsRow.kept oy (World.grownBy_alloc w _ none) (by cases hx : y.ownBlock <;> simp)
  have NE : Hid (∀ k, y.ownBlock = some k → x.ownBlock ≠ some k) := fun k h1 h2 => own_ty2 ox oy (by decide) h2 h1
  have CA : Hid ((w.alloc (.cells #[.slice a n c] 25)).cell? ⟨w.heap.size, 0, none⟩ = some (.slice a n c)) := (cell_of_row _ w.heap.size 0 _ _ _ (heap_alloc_new _ _)).trans rfl
  have ZA : Hid (base ≤ (w.alloc (.cells #[.slice a n c] 25)).heap.size) := (by simp; omega : _ ≤ _)
  have QA : Hid ((w.alloc (.cells #[.slice a n c] 25)).heap[q]? = some (.cells (bkC2 x y) 66 (0, 0))) := (be.block q zq).trans hq
  have HBE := K.Hid.mk' be
  clear hq ox oy be
  obtain ⟨W, hW⟩ : ∃ W, W = w.alloc (.cells #[.slice a n c] 25) := ⟨_, rfl⟩
  have zW : W.heap.size = w.heap.size + 1 := by rw [hW]; simp
  rw [← hW] at RA RB CA ZA QA HBE
  have HW := K.Hid.mk' hW
  clear hW
  go_enter Tryz.func15, Tryz.ntmps15
  go_wp2_with (first | (at_builtin; refine K.wpList_appS rfl (.tmp 8) (.tmp 10) rfl base x rx.length rx rfl (by rw [← HW.out]; exact RA.out) ⟨w.heap.size, 0, none⟩ (.slice a n c) rfl (by rw [← HW.out]; exact CA.out) rfl (by omega) (by rw [← HW.out]; exact ZA.out) ?_) | fail)
  rw [← HW.out]
  intro u w1 rows' gr hblk
  have zA : q < W.heap.size := by omega
  have hq1 : w1.heap[q]? = some (.cells (bkC2 x y) 66 (0, 0)) := by rw [gr.block q zA (fun e => hne e.symm)]; exact QA.out
  have d0 := (cell_of_row w1 q 0 _ _ _ hq1).trans (show (bkC2 x y)[0]? = some x from rfl)
  have f0 := frozen_of_row w1 q 0 _ _ hq1
  have hne1 : u.ownBlock ≠ some q := by
    rcases hblk with e | e
    · rw [e]; exact hne
    · rw [e]; intro h; simp at h; omega
  have rB1 : w1.ownsRow base 37 1 y ry.length ry := World.ownsRow.kept RB.out gr (by
    cases hx : y.ownBlock with
    | none => exact .inl rfl
    | some g => exact .inr (fun e => NE.out g hx e.symm))
  have rows2 : w1.ownsRow base 25 1 u (rx ++ [Value.slice a n c]).length (rx ++ [Value.slice a n c]) := by rw [List.length_append]; exact rows'
  have W1 : Hid (Bk2 (w1.setCell ⟨q, 0, none⟩ u) q base u y (rx ++ [.slice a n c]) ry) := ⟨by rw [heap_setCell_same w1 q 0 _ 66 _ hq1]; rfl, rows_set rows2 hne1, rows_set rB1 hneB⟩
  have FR : Hid ((w1.setCell ⟨q, 0, none⟩ u).os = w.os ∧ (w1.setCell ⟨q, 0, none⟩ u).tape = w.tape ∧ (w1.setCell ⟨q, 0, none⟩ u).output = w.output ∧ w.heap.size ≤ (w1.setCell ⟨q, 0, none⟩ u).heap.size ∧ ∀ k, k < w.heap.size → k ≠ q → x.ownBlock ≠ some k → (w1.setCell ⟨q, 0, none⟩ u).heap[k]? = w.heap[k]?) := ⟨gr.os.trans HBE.out.os, gr.tape.trans HBE.out.tape, gr.output.trans HBE.out.output, by rw [World.size_setCell]; have := gr.size; omega, fun k hk hkq hka => (Below.heap_setCell _ _ _ _ hkq).trans ((gr.block k (by omega) (fun e => hka e.symm)).trans (HBE.out.block k hk))⟩
  obtain ⟨ga, gn, gc, rfl⟩ := rows_one rows'
  clear RA RB CA ZA QA HBE rows' rows2 rB1 gr hblk hne1 hne NE HW
  go_wp2
  go_end0
  exact ⟨rfl, ⟨_, W1.out⟩, FR.out⟩
set_option maxRecDepth 100000 in
set_option maxHeartbeats 1000000 in
theorem takeH (q base : Nat) (x y : Value) (rx ry : List Value) (a : Option Addr) (n c : Nat) (w : World) (hw : Bk2 w q base x y rx ry) (hn : ry.length ≤ 4398046510976) (hbq : base ≤ w.heap.size) :
    Calls Tryz.prog 25 #[.pointer (some ⟨q, 0, none⟩), .slice a n c] w fun e w' => e = .returned (.tuple #[]) ∧ (∃ u, Bk2 w' q base x u rx (ry ++ [.slice a n c])) ∧ w'.os = w.os ∧ w'.tape = w.tape ∧ w'.output = w.output ∧ w.heap.size ≤ w'.heap.size ∧ ∀ k, k < w.heap.size → k ≠ q → y.ownBlock ≠ some k → w'.heap[k]? = w.heap[k]? := by
  obtain ⟨hq, ox, oy⟩ := hw
  have hne : y.ownBlock ≠ some q := own_ty oy hq (by decide)
  have hneB : x.ownBlock ≠ some q := own_ty ox hq (by decide)
  have zq : q < w.heap.size := (Array.getElem?_eq_some_iff.1 hq).1
  have c0 := (cell_of_row w q 1 _ _ _ hq).trans (show (bkC2 x y)[1]? = some y from rfl)
  have be : Below w.heap.size w (w.alloc (.cells #[.slice a n c] 37)) := (Below.refl _ _).alloc (Nat.le_refl _) _
  have RA : Hid ((w.alloc (.cells #[.slice a n c] 37)).ownsRow base 37 1 y ry.length ry) := World.ownsRow.kept oy (World.grownBy_alloc w _ none) (by cases hx : y.ownBlock <;> simp)
  have RB : Hid ((w.alloc (.cells #[.slice a n c] 37)).ownsRow base 25 1 x rx.length rx) := World.ownsRow.kept ox (World.grownBy_alloc w _ none) (by cases hx : x.ownBlock <;> simp)
  have NE : Hid (∀ k, x.ownBlock = some k → y.ownBlock ≠ some k) := fun k h1 h2 => own_ty2 oy ox (by decide) h2 h1
  have CA : Hid ((w.alloc (.cells #[.slice a n c] 37)).cell? ⟨w.heap.size, 0, none⟩ = some (.slice a n c)) := (cell_of_row _ w.heap.size 0 _ _ _ (heap_alloc_new _ _)).trans rfl
  have ZA : Hid (base ≤ (w.alloc (.cells #[.slice a n c] 37)).heap.size) := (by simp; omega : _ ≤ _)
  have QA : Hid ((w.alloc (.cells #[.slice a n c] 37)).heap[q]? = some (.cells (bkC2 x y) 66 (0, 0))) := (be.block q zq).trans hq
  have HBE := K.Hid.mk' be
  clear hq ox oy be
  obtain ⟨W, hW⟩ : ∃ W, W = w.alloc (.cells #[.slice a n c] 37) := ⟨_, rfl⟩
  have zW : W.heap.size = w.heap.size + 1 := by rw [hW]; simp
  rw [← hW] at RA RB CA ZA QA HBE
  have HW := K.Hid.mk' hW
  clear hW
  go_enter Tryz.func25, Tryz.ntmps25
  go_wp2_with (first | (at_builtin; refine KH.wpList_appS rfl (.tmp 8) (.tmp 10) rfl base y ry.length ry rfl (by rw [← HW.out]; exact RA.out) ⟨w.heap.size, 0, none⟩ (.slice a n c) rfl (by rw [← HW.out]; exact CA.out) rfl (by omega) (by rw [← HW.out]; exact ZA.out) ?_) | fail)
  rw [← HW.out]
  intro u w1 rows' gr hblk
  have zA : q < W.heap.size := by omega
  have hq1 : w1.heap[q]? = some (.cells (bkC2 x y) 66 (0, 0)) := by rw [gr.block q zA (fun e => hne e.symm)]; exact QA.out
  have d0 := (cell_of_row w1 q 1 _ _ _ hq1).trans (show (bkC2 x y)[1]? = some y from rfl)
  have f0 := frozen_of_row w1 q 1 _ _ hq1
  have hne1 : u.ownBlock ≠ some q := by
    rcases hblk with e | e
    · rw [e]; exact hne
    · rw [e]; intro h; simp at h; omega
  have rB1 : w1.ownsRow base 25 1 x rx.length rx := World.ownsRow.kept RB.out gr (by
    cases hx : x.ownBlock with
    | none => exact .inl rfl
    | some g => exact .inr (fun e => NE.out g hx e.symm))
  have rows2 : w1.ownsRow base 37 1 u (ry ++ [Value.slice a n c]).length (ry ++ [Value.slice a n c]) := by rw [List.length_append]; exact rows'
  have W1 : Hid (Bk2 (w1.setCell ⟨q, 1, none⟩ u) q base x u rx (ry ++ [.slice a n c])) := ⟨by rw [heap_setCell_same w1 q 1 _ 66 _ hq1]; rfl, rows_set rB1 hneB, rows_set rows2 hne1⟩
  have FR : Hid ((w1.setCell ⟨q, 1, none⟩ u).os = w.os ∧ (w1.setCell ⟨q, 1, none⟩ u).tape = w.tape ∧ (w1.setCell ⟨q, 1, none⟩ u).output = w.output ∧ w.heap.size ≤ (w1.setCell ⟨q, 1, none⟩ u).heap.size ∧ ∀ k, k < w.heap.size → k ≠ q → y.ownBlock ≠ some k → (w1.setCell ⟨q, 1, none⟩ u).heap[k]? = w.heap[k]?) := ⟨gr.os.trans HBE.out.os, gr.tape.trans HBE.out.tape, gr.output.trans HBE.out.output, by rw [World.size_setCell]; have := gr.size; omega, fun k hk hkq hka => (Below.heap_setCell _ _ _ _ hkq).trans ((gr.block k (by omega) (fun e => hka e.symm)).trans (HBE.out.block k hk))⟩
  obtain ⟨ga, gn, gc, rfl⟩ := rows_one rows'
  clear RA RB CA ZA QA HBE rows' rows2 rB1 gr hblk hne1 hne NE HW
  go_wp2
  go_end0
  exact ⟨rfl, ⟨_, W1.out⟩, FR.out⟩
end Go.Proofs.YtdnocpngdepbgaaGreatDoor
