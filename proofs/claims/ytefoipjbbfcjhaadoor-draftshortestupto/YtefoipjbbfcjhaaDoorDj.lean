import Derived.Test.YtefoipjbbfcjhaaDoorDs
import Derived.Test.YtefoipjbbfcjhaaDoorDe
namespace Go.Proofs.YtefoipjbbfcjhaaDoor
open Go.RowKit
set_option linter.unusedVariables false
set_option linter.unusedSimpArgs false

theorem run_push {t e : TypeId} {size bytes : Nat} {z : Value} (E : EI t e size bytes z) (ty : TypeId) (w : World) (u : Value) (hu : u.cells.size = size) (base : Nat) (v : Value) (n : Nat) (xs : List Value) (hown : w.ownsRow base e size v n xs)
    (h1 : ∀ c ∈ u.cells.toList, c.oneCell' = true) (h63 : n + 1 ≤ maxLen) (hbytes : (n + 1) * bytes ≤ 140737488355328) (hbase : base ≤ w.heap.size) :
    (Instr.buildSlice t 1 #[(0, u)]).run Tryd.prog w = .ok (.slice (some ⟨w.heap.size, 0, none⟩) 1 1) (w.alloc (.cells u.cells e)) ∧
    ∃ v' w', (Builtin.append_ #[t, t] ty #[v, .slice (some ⟨w.heap.size, 0, none⟩) 1 1]).run Tryd.prog (w.alloc (.cells u.cells e)) = .ok v' w' ∧ w'.ownsRow base e size v' (n + 1) (xs ++ u.cells.toList) ∧ (w.alloc (.cells u.cells e)).grownBy w' v.ownBlock ∧ (v'.ownBlock = v.ownBlock ∨ ∃ g, v'.ownBlock = some g ∧ w.heap.size ≤ g) := by
  obtain ⟨i, hi, hz, hsz, hby⟩ := E.ex
  subst hsz hby
  have hpos := E.pos
  have hsm := E.small
  refine ⟨run_buildSlice w t e 1 _ u.cells i z E.ht hi hz (by omega) (by omega) ?_, ?_⟩
  · have := Go.Great.fill_whole (s := i.size) E.pos [u] ((Array.range (1 * i.size)).map (z.cells[· % z.cells.size]!)) (by intro v hv; simp at hv; subst hv; exact hu) (by simp)
    simpa using this
  have g := heap_alloc_new w (.cells u.cells e)
  have hb : Below w.heap.size w (w.alloc (.cells u.cells e)) := (Below.refl _ _).alloc (Nat.le_refl _) _
  have own2 : (w.alloc (.cells u.cells e)).ownsRow base e i.size v n xs := own_below hown hb
  obtain ⟨v', w', hr, own, gr, _, hblk⟩ := run_append_own_at (P := Tryd.prog) (w.alloc (.cells u.cells e)) base t ty e i z i.size i.bytes E.ht hi hz rfl rfl E.hzs E.pos v n xs own2 ⟨w.heap.size, 0, none⟩ 1 1 u.cells.toList (by simp [hu])
    (fun j y hj => by
      rw [Addr.add_mid, Nat.zero_add]
      exact (cell_of_row _ _ j _ _ _ g).trans (by simpa using hj)) h1 h63 hbytes (Nat.le_trans hbase (by simp))
  refine ⟨v', w', hr, own, gr, ?_⟩
  rcases hblk with e1 | e1
  · exact .inl e1
  · exact .inr ⟨_, e1, by simp⟩
/-- The cells of patches. -/
def pV (l : List Pat) : List Value := l.flatMap fun p => (patC p.at' p.cnt p.txt).toList
theorem pV_app (l m : List Pat) : pV (l ++ m) = pV l ++ pV m := by simp [pV]
theorem pV_len (l : List Pat) : (pV l).length = l.length * 7 := by
  induction l with
  | nil => rfl
  | cons p l ih =>
    have : pV (p :: l) = (patC p.at' p.cnt p.txt).toList ++ pV l := by simp [pV]
    rw [this, List.length_append, ih]
    simp [patC]
    omega
/-- Patches that are being put together, in block q. -/
structure PS (w : World) (N q : Nat) (lv : Value) (l : List Pat) (at' : Nat) (op : Bool) : Prop where
  c0 : w.cell? ⟨q, 0, none⟩ = some lv
  c1 : w.cell? ⟨q, 1, none⟩ = some (.int .i64 (at' : Int))
  c2 : w.cell? ⟨q, 2, none⟩ = some (.bool op)
  fz : ∀ i, w.frozen? ⟨q, i, none⟩ = false
  own : w.ownsRow N 34 7 lv l.length (pV l)
  sep : lv.ownBlock ≠ some q
  bq : N ≤ q
theorem PS.lq {w : World} {N q : Nat} {lv : Value} {l : List Pat} {at' : Nat} {op : Bool} (h : PS w N q lv l at' op) : q < w.heap.size := World.block_lt_of_cell? _ _ h.c0
theorem PS.bN {w : World} {N q : Nat} {lv : Value} {l : List Pat} {at' : Nat} {op : Bool} (h : PS w N q lv l at' op) : N ≤ w.heap.size := Nat.le_trans h.bq (Nat.le_of_lt h.lq)
theorem PS.drew {w : World} {N q : Nat} {lv : Value} {l : List Pat} {at' : Nat} {op : Bool} (h : PS w N q lv l at' op) : PS w.drew N q lv l at' op := ⟨h.c0, h.c1, h.c2, h.fz, h.own, h.sep, h.bq⟩
theorem own_other {w : World} {q base j e sz n : Nat} {v u : Value} {xs : List Value} (h : w.ownsRow base e sz v n xs) (hq : v.ownBlock ≠ some q) : (w.setCell ⟨q, j, none⟩ u).ownsRow base e sz v n xs := by
  refine ⟨h.1, ?_⟩
  rcases h.2 with hn | ⟨g, cap, cur, rfl, hbg, hg, rest⟩
  · exact .inl hn
  · refine .inr ⟨g, cap, cur, rfl, hbg, ?_, rest⟩
    rw [Below.heap_setCell _ _ _ _ (fun e => hq (by simp [Value.ownBlock]; exact e))]
    exact hg
theorem own_put {w : World} {base g n cap r e sz : Nat} {F : List Value} (h : w.ownsRow base e sz (.slice (some ⟨g, 0, none⟩) n cap) n F) (x : Value) (hr : r < F.length) : (w.setCell ⟨g, r, none⟩ x).ownsRow base e sz (.slice (some ⟨g, 0, none⟩) n cap) n (F.set r x) := by
  rcases h.2 with ⟨e, _⟩ | ⟨g', cap', cur, ev, hbg, hg, hnc, hcm, hcs, htake⟩
  · cases e
  · cases ev
    refine ⟨by rw [List.length_set]; exact h.1, .inr ⟨g, cap, _, rfl, hbg, heap_setCell_same w g r _ e _ hg, hnc, hcm, by simpa using hcs, ?_⟩⟩
    rw [Array.toList_setIfInBounds, List.take_set, htake]
theorem PS.set0 {w : World} {N q : Nat} {lv lv' : Value} {l l' : List Pat} {at' : Nat} {op : Bool} (h : PS w N q lv l at' op) (own : w.ownsRow N 34 7 lv' l'.length (pV l')) (sep : lv'.ownBlock ≠ some q) : PS (w.setCell ⟨q, 0, none⟩ lv') N q lv' l' at' op :=
  ⟨World.cell?_setCell_same _ _ _ h.c0, (World.cell?_setCell_other _ _ _ _ (by intro e; cases e)).trans h.c1, (World.cell?_setCell_other _ _ _ _ (by intro e; cases e)).trans h.c2, fun i => by rw [World.frozen?_setCell]; exact h.fz i, own_other own sep, sep, h.bq⟩
theorem PS.set1 {w : World} {N q : Nat} {lv : Value} {l : List Pat} {at' : Nat} {op : Bool} (h : PS w N q lv l at' op) (x : Nat) : PS (w.setCell ⟨q, 1, none⟩ (.int .i64 (x : Int))) N q lv l x op :=
  ⟨(World.cell?_setCell_other _ _ _ _ (by intro e; cases e)).trans h.c0, World.cell?_setCell_same _ _ _ h.c1, (World.cell?_setCell_other _ _ _ _ (by intro e; cases e)).trans h.c2, fun i => by rw [World.frozen?_setCell]; exact h.fz i, own_other h.own h.sep, h.sep, h.bq⟩
theorem PS.set2 {w : World} {N q : Nat} {lv : Value} {l : List Pat} {at' : Nat} {op : Bool} (h : PS w N q lv l at' op) (x : Bool) : PS (w.setCell ⟨q, 2, none⟩ (.bool x)) N q lv l at' x :=
  ⟨(World.cell?_setCell_other _ _ _ _ (by intro e; cases e)).trans h.c0, (World.cell?_setCell_other _ _ _ _ (by intro e; cases e)).trans h.c1, World.cell?_setCell_same _ _ _ h.c2, fun i => by rw [World.frozen?_setCell]; exact h.fz i, own_other h.own h.sep, h.sep, h.bq⟩
/-- A cell of the row. -/
theorem PS.row {w : World} {N q g n cap r : Nat} {l l' : List Pat} {at' : Nat} {op : Bool} (h : PS w N q (.slice (some ⟨g, 0, none⟩) n cap) l at' op) (x : Value) (hn : l.length = n) (hr : r < n * 7) (hl : pV l' = (pV l).set r x) (hl2 : l'.length = l.length) : PS (w.setCell ⟨g, r, none⟩ x) N q (.slice (some ⟨g, 0, none⟩) n cap) l' at' op := by
  have hgq : g ≠ q := fun e => h.sep (by simp [Value.ownBlock, e])
  refine ⟨(World.cell?_setCell_other _ _ _ _ (by intro e; cases e; exact hgq rfl)).trans h.c0, (World.cell?_setCell_other _ _ _ _ (by intro e; cases e; exact hgq rfl)).trans h.c1, (World.cell?_setCell_other _ _ _ _ (by intro e; cases e; exact hgq rfl)).trans h.c2, fun i => by rw [World.frozen?_setCell]; exact h.fz i, ?_, h.sep, h.bq⟩
  have ho := h.own
  rw [hn] at ho
  rw [hl2, hn, hl]
  exact own_put ho x (by rw [pV_len, hn]; exact hr)
theorem PS.keep {w w' : World} {N q : Nat} {lv : Value} {l : List Pat} {at' : Nat} {op : Bool} (h : PS w N q lv l at' op) (hb : w'.heap[q]? = w.heap[q]?) (lv' : Value) (l' : List Pat) (own : w'.ownsRow N 34 7 lv' l'.length (pV l')) (sep : lv'.ownBlock ≠ some q) (lv'' : Value) : PS (w'.setCell ⟨q, 0, none⟩ lv') N q lv' l' at' op :=
  ⟨World.cell?_setCell_same _ _ _ ((World.cell?_of_block (w := w) (a := ⟨q, 0, none⟩) hb).trans h.c0), (World.cell?_setCell_other _ _ _ _ (by intro e; cases e)).trans ((World.cell?_of_block (w := w) (a := ⟨q, 1, none⟩) hb).trans h.c1), (World.cell?_setCell_other _ _ _ _ (by intro e; cases e)).trans ((World.cell?_of_block (w := w) (a := ⟨q, 2, none⟩) hb).trans h.c2),
   fun i => by rw [World.frozen?_setCell]; exact (World.frozen?_of_block (w := w) (a := ⟨q, i, none⟩) hb).trans (h.fz i), own_other own sep, sep, h.bq⟩
theorem load_1 {w : World} {b o : Nat} {v : Value} (h : w.cell? ⟨b, o, none⟩ = some v) : (Instr.loadAt 3 (.pointer (some ⟨b, o, none⟩))).run Tryd.prog w = .ok v w := by go_simp
theorem load_23 {w : World} {b o : Nat} {v : Value} (h : w.cell? ⟨b, o, none⟩ = some v) : (Instr.loadAt 23 (.pointer (some ⟨b, o, none⟩))).run Tryd.prog w = .ok v w := by go_simp
theorem build_pat (x : Int) (w : World) : (Instr.build 34 #[(0, .int .u8 4), (3, .int .i64 x)]).run Tryd.prog w = .ok (.agg #[.int .u8 4, .slice none 0 0, .slice none 0 0, .int .i64 x, .int .i64 0, .string ⟨#[]⟩, .slice none 0 0]) w := by go_simp
theorem store_23 {w : World} {b o : Nat} {u : Value} {a : Option Addr} {l c : Nat} (h : w.cell? ⟨b, o, none⟩ = some u) (hf : w.frozen? ⟨b, o, none⟩ = false) : (Instr.storeAt 23 (.pointer (some ⟨b, o, none⟩)) (.slice a l c)).run Tryd.prog w = .ok () (w.setCell ⟨b, o, none⟩ (.slice a l c)) := by go_simp
end Go.Proofs.YtefoipjbbfcjhaaDoor
