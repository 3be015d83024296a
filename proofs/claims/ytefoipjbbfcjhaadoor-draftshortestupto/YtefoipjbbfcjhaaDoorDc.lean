import Derived.Test.YtefoipjbbfcjhaaDoorDb
import Derived.Maps.AppendAt
import Derived.Great.BuildSlice
import Derived.Great.FillDense
import Derived.OwnWalk
import Derived.Deep.OwnRows
import Derived.Laws.OwnMore
import Derived.Below
import Derived.Deep.MidRow
namespace Go.Proofs.YtefoipjbbfcjhaaDoor
open Go.RowKit
set_option linter.unusedVariables false
set_option linter.unusedSimpArgs false

theorem _root_.Go.RowKit.Hid.mk' {p : Prop} (h : p) : Hid p := h
/-- Here stands a slice literal. -/
theorem at_bs {P : Program} {ops : Array Oper} {R : List Oper} {a : Act} {w : World} {Q : Exit → Act → World → Prop} {d : Option Tmp} {t : TypeId} {n : Nat} {ps : Array (Nat × Operand)} {ty : TypeId} {pos : String} {af : _} {g : _}
    (h : wpList P ops Q (⟨d, .buildSlice t n ps, ty, pos, af, g⟩ :: R) a w) : wpList P ops Q (⟨d, .buildSlice t n ps, ty, pos, af, g⟩ :: R) a w := h
/-- What is known of a slice type and its elements. -/
structure EI (t e : TypeId) (size bytes : Nat) (z : Value) : Prop where
  ht : Tryd.prog.underlying t = some (.slice e)
  ex : ∃ i, Tryd.prog.info? e = some i ∧ i.zero = some z ∧ i.size = size ∧ i.bytes = bytes
  hzs : z.cells.size = size
  pos : 0 < size
  small : size ≤ 1000
theorem EI.of {t e : TypeId} {size bytes : Nat} {z : Value} (ht : Tryd.prog.underlying t = some (.slice e)) (hi : (Tryd.prog.info? e).map (fun i => (i.zero, i.size, i.bytes)) = some (some z, size, bytes)) (hzs : z.cells.size = size) (hp : 0 < size) (hs : size ≤ 1000) : EI t e size bytes z := by
  obtain ⟨i, hi, hzz⟩ := Option.map_eq_some_iff.1 hi
  simp only [Prod.mk.injEq] at hzz
  exact ⟨ht, ⟨i, hi, hzz.1, hzz.2.1, hzz.2.2⟩, hzs, hp, hs⟩
theorem own_below {w w' : World} {base e sz n : Nat} {v : Value} {xs : List Value} (h : w.ownsRow base e sz v n xs) (hb : Below w.heap.size w w') : w'.ownsRow base e sz v n xs :=
  World.ownsRow.kept h (row := none) ⟨hb.os, hb.tape, hb.output, hb.size, fun k hk _ => hb.block k hk⟩ (by cases hx : v.ownBlock <;> simp)
/-- One more onto a row of the call's own. -/
theorem wpList_push {ops : Array Oper} {rest R : List Oper} {o1 o2 : Oper} {a : Act} {w : World} {Q : Exit → Act → World → Prop} {t e : TypeId} {size bytes : Nat} {z : Value} (E : EI t e size bytes z)
    (x s : Operand) (d : Nat) (ho1 : o1.op = .buildSlice t 1 #[(0, x)]) (hd : o1.dst = some d) (hR : R = o2 :: rest) (hg1 : o1.guard = none) (hg2 : o2.guard = none)
    (ho2 : o2.op = .call { callee := .builtin .append, args := #[s, .tmp d], argTypes := #[t, t] }) (u : Value) (hx : a.eval x = u) (hu : u.cells.size = size)
    (base : Nat) (v : Value) (n : Nat) (xs : List Value) (hown : w.ownsRow base e size v n xs)
    (hs : (a.put (some d) (.slice (some ⟨w.heap.size, 0, none⟩) 1 1)).eval s = v) (hd2 : (a.put (some d) (.slice (some ⟨w.heap.size, 0, none⟩) 1 1)).eval (.tmp d) = .slice (some ⟨w.heap.size, 0, none⟩) 1 1)
    (h1 : ∀ c ∈ u.cells.toList, c.oneCell' = true) (h63 : n + 1 ≤ maxLen) (hbytes : (n + 1) * bytes ≤ 140737488355328) (hbase : base ≤ w.heap.size)
    (h : ∀ v' w', w'.ownsRow base e size v' (n + 1) (xs ++ u.cells.toList) → w.grownBy w' v.ownBlock → (v'.ownBlock = v.ownBlock ∨ ∃ g, v'.ownBlock = some g ∧ w.heap.size ≤ g) →
      wpList Tryd.prog ops Q rest ((a.put (some d) (.slice (some ⟨w.heap.size, 0, none⟩) 1 1)).put o2.dst v') w') : wpList Tryd.prog ops Q (o1 :: R) a w := by
  subst hR
  obtain ⟨i, hi, hz, hsz, hby⟩ := E.ex
  subst hsz hby
  have hpos := E.pos
  have hsm := E.small
  refine wpList_buildSlice hg1 t e 1 #[(0, x)] ho1 u.cells i z E.ht hi hz (by omega) (by omega) ?_ ?_
  · have := Go.Great.fill_whole (s := i.size) E.pos [u] ((Array.range (1 * i.size)).map (z.cells[· % z.cells.size]!)) (by intro v hv; simp at hv; subst hv; exact hu) (by simp)
    simp only [List.map_toArray, List.map_cons, List.map_nil, hx]
    simpa using this
  rw [hd]
  refine wpList_plain hg2 fun _ hK => ?_
  have g := heap_alloc_new w (.cells u.cells e)
  have hb : Below w.heap.size w (w.alloc (.cells u.cells e)) := (Below.refl _ _).alloc (Nat.le_refl _) _
  have own2 : (w.alloc (.cells u.cells e)).ownsRow base e i.size v n xs := own_below hown hb
  obtain ⟨v', w', hr, own, gr, _, hblk⟩ := run_append_own_at (P := Tryd.prog) (w.alloc (.cells u.cells e)) base t o2.type e i z i.size i.bytes E.ht hi hz rfl rfl E.hzs E.pos v n xs own2 ⟨w.heap.size, 0, none⟩ 1 1 u.cells.toList (by simp [hu])
    (fun j y hj => by
      rw [Addr.add_mid, Nat.zero_add]
      exact (cell_of_row _ _ j _ _ _ g).trans (by simpa using hj)) h1 h63 hbytes (Nat.le_trans hbase (by simp))
  unfold Oper.wp execOp
  simp only [ho2, resolve, invoke, builtin, Sem.run_bind, Sem.run_pure, Result.andThen_ok, List.map_toArray, List.map_cons, List.map_nil, hs, hd2, hr]
  refine hK _ _ (h v' w' own ⟨gr.os, gr.tape, gr.output, Nat.le_trans (by simp) gr.size, fun k hk hne => (gr.block k (by simp; omega) hne).trans (hb.block k hk)⟩ ?_)
  rcases hblk with e1 | e1
  · exact .inl e1
  · exact .inr ⟨_, e1, by simp⟩
theorem ei27 : EI 27 9 1 16 (.string ⟨#[]⟩) := .of (by kernel_rfl) (by kernel_rfl) rfl (by decide) (by decide)
theorem one_str (E : ByteArray) : ∀ c ∈ (Value.string E).cells.toList, c.oneCell' = true := by simp [Value.cells, Value.oneCell']
theorem one_sl (a : Option Addr) (l c : Nat) : ∀ u ∈ (Value.slice a l c).cells.toList, u.oneCell' = true := by simp [Value.cells, Value.oneCell']
/-- A patch's cells. -/
def patC (at' cnt : Nat) (s : ByteArray) : Array Value := #[.int .u8 4, .slice none 0 0, .slice none 0 0, .int .i64 (at' : Int), .int .i64 (cnt : Int), .string s, .slice none 0 0]
theorem ei23 : EI 23 34 7 112 (.agg #[.int .u8 0, .slice none 0 0, .slice none 0 0, .int .i64 0, .int .i64 0, .string ⟨#[]⟩, .slice none 0 0]) := .of (by kernel_rfl) (by kernel_rfl) rfl (by decide) (by decide)
theorem ei39 : EI 39 57 3 24 (.agg #[.int .i64 0, .int .i64 0, .int .i64 0]) := .of (by kernel_rfl) (by kernel_rfl) rfl (by decide) (by decide)
theorem ei42 : EI 42 47 1 24 (.slice none 0 0) := .of (by kernel_rfl) (by kernel_rfl) rfl (by decide) (by decide)
theorem info3 : (Tryd.prog.info? 3).map (fun i => (i.zero, i.size, i.bytes)) = some (some (.int .i64 0), 1, 8) := by kernel_rfl
theorem info61 : (Tryd.prog.info? 61).map (fun i => (i.zero, i.size, i.bytes)) = some (some (.slice none 0 0), 1, 24) := by kernel_rfl
theorem info60 : (Tryd.prog.info? 60).map (fun i => (i.zero, i.size, i.bytes)) = some (some (.int .u16 0), 1, 2) := by kernel_rfl
end Go.Proofs.YtefoipjbbfcjhaaDoor
