import Derived.Test.YthfbolmfkilkjaaGi
import Derived.Test.YthfbolmfkilkjaaHk
import Derived.Great.BuildSlice
namespace Go.Proofs.Ythfbolmfkilkjaa
open Go.RowKit
set_option linter.unusedVariables false
set_option linter.unusedSimpArgs false

def e77 : EdV := { ez with who := 77 }
theorem e77_ok : e77.ok := ⟨rfl, rfl, rfl⟩
theorem built77 : Try.prog.built 39 [(8, .int .i64 77)] = some e77.c := by kernel_rfl
theorem exec_b77 {a : Act} {o : Oper} (ho : o.op = .build 39 #[(8, .const (.int .i64 77))]) (w : World) : (execOp a.eval o).run Try.prog w = .ok (.value (.agg e77.c)) w := by
  have h := run_build (P := Try.prog) w 39 #[(8, .int .i64 77)] e77.c built77
  unfold execOp
  simp only [ho, List.map_toArray, List.map_cons, List.map_nil, Act.eval, Sem.run_bind, h, Result.andThen_ok, Sem.run_pure]
theorem run_appE2 (w : World) (base : Nat) (ty : TypeId) (v : Value) (L : List EdV) (a : Option Addr) (M : List EdV) (m c : Nat) (hm : M.length = m) (hown : OwnE w base v L) (hM : AllE M) (hb : El w a M) (hv : ∃ g cap, v = .slice (some ⟨g, 0, none⟩) L.length cap) (h : L.length + M.length ≤ 606627104962 + 1) (hbase : base ≤ w.heap.size) :
    ∃ v' w', (Builtin.append_ #[23, 23] ty #[v, .slice a m c]).run Try.prog w = .ok v' w' ∧ OwnE w' base v' (L ++ M) ∧ w.grownBy w' v.ownBlock ∧ ∃ g cap, v' = .slice (some ⟨g, 0, none⟩) (L ++ M).length cap := by
  subst hm
  cases a with
  | some ad =>
    obtain ⟨v', w', hr, h2, h3, h4⟩ := run_appE w base ty v L ad M c hown hM hb h hbase
    refine ⟨v', w', hr, h2, h3, ?_⟩
    rcases h2.open with ⟨e, _⟩ | ⟨g, cap, e, _⟩
    · obtain ⟨g, cap, e'⟩ := hv
      have := (h4.1 e).1
      rw [e'] at this
      cases this
    · exact ⟨g, cap, e⟩
  | none =>
    obtain rfl : M = [] := by
      rcases hb with rfl | ⟨b, off, e, _⟩
      · rfl
      · cases e
    obtain ⟨i, hi, hz, hs, hby⟩ := infoE
    obtain ⟨g, cap, rfl⟩ := hv
    refine ⟨_, w, ?_, by rw [List.append_nil]; exact hown, ⟨rfl, rfl, rfl, Nat.le_refl _, fun _ _ _ => rfl⟩, g, cap, by rw [List.append_nil]⟩
    obtain ⟨_, ⟨e, _⟩ | ⟨g', cap', cur, e, hbg, hg, hnc, rest⟩⟩ := hown.2
    · cases e
    · cases e
      simp [Builtin.append_, run_underlying Try.underlying23, sizeOf, typeInfo, hi, Builtin.lenOf, Builtin.firstCells, hnc, storeCells]
theorem oper_app {o : Oper} {a : Act} {w : World} {K : Act → World → Prop} {Q : Exit → Act → World → Prop} (s x : Operand) (ho : o.op = .call { callee := .builtin .append, args := #[s, x], argTypes := #[23, 23] }) (v y v' : Value) (w' : World) (hs : a.eval s = v) (hx : a.eval x = y)
    (hr : (Builtin.append_ #[23, 23] o.type #[v, y]).run Try.prog w = .ok v' w') (h : K (a.put o.dst v') w') : Oper.wp Try.prog o a w K Q := by
  unfold Oper.wp execOp
  simp only [ho, resolve, invoke, builtin, Sem.run_bind, Sem.run_pure, Result.andThen_ok, List.map_toArray, List.map_cons, List.map_nil, hs, hx, hr]
  exact h
theorem oper_bs1 {o : Oper} {a : Act} {w : World} {K : Act → World → Prop} {Q : Exit → Act → World → Prop} (x : Operand) (ho : o.op = .buildSlice 23 1 #[(0, x)]) (C : Array Value) (hx : a.eval x = .agg C) (hC : C.size = 111)
    (h : K (a.put o.dst (.slice (some ⟨w.heap.size, 0, none⟩) 1 1)) (w.alloc (.cells C 39))) : Oper.wp Try.prog o a w K Q := by
  obtain ⟨ie, hi, hz, hs, hby⟩ := infoE
  refine wp_buildSlice 23 39 1 #[(0, x)] ho C ie _ Try.underlying23 hi hz (by rw [hs]; decide) (by rw [hs]; decide) ?_ h
  rw [hs]
  have := Go.Great.fill_whole (s := 111) (by decide) [.agg C] ((Array.range (1 * 111)).map ((Value.agg ez.c).cells[· % (Value.agg ez.c).cells.size]!)) (by intro v hv; simp at hv; subst hv; exact hC) (by simp)
  simp only [List.map_toArray, List.map_cons, List.map_nil, hx]
  simpa [Value.cells] using this
theorem own0 (w : World) : OwnE (w.alloc (.cells #[] 39)) w.heap.size (.slice (some ⟨w.heap.size, 0, none⟩) 0 0) [] := ⟨fun _ h => by simp at h, rfl, .inr ⟨w.heap.size, 0, #[], rfl, Nat.le_refl _, heap_alloc_new _ _, by simp, by simp [maxLen], rfl, rfl⟩⟩
theorem el77 (w : World) : El (w.alloc (.cells e77.c 39)) (some ⟨w.heap.size, 0, none⟩) [e77] := .inr ⟨w.heap.size, 0, rfl, fun i x hx => by
  obtain ⟨rfl, rfl⟩ : i = 0 ∧ x = e77 := by
    match i, hx with
    | 0, hx => simp at hx; exact ⟨rfl, hx.symm⟩
  intro j v hv
  rw [show 0 + 111 * 0 + j = j by omega, cell_of_row _ _ _ _ _ _ (heap_alloc_new _ _)]
  simpa [EdV.c] using hv⟩
theorem el_grown {w w' : World} {g5 g9 : Nat} {cap : Nat} {L : List EdV} (h : El w (some ⟨g5, 0, none⟩) L) (gr : w.grownBy w' (Value.slice (some ⟨g9, 0, none⟩) 0 cap).ownBlock) (hl : g5 < w.heap.size) (hn : g5 ≠ g9) : El w' (some ⟨g5, 0, none⟩) L := by
  rcases h with h | ⟨b, off, e, hs⟩
  · exact .inl h
  · cases e
    refine .inr ⟨g5, 0, rfl, fun i x hx j v hv => ?_⟩
    have := hs i x hx j v hv
    rw [← this]
    exact World.cell?_of_block (gr.block g5 hl (by intro e; cases e; exact hn rfl))
theorem all77 : AllE [e77] := fun x hx => by simp at hx; subst hx; exact e77_ok
def ops4 : Array Oper := #[{ dst := some 9, op := Op.buildSlice 23 0 #[], type := 23, pos := "law.go:17", after := #[], guard := none }, { dst := some 10, op := Op.fieldAddr 25 (Operand.tmp 1) 5, type := 0, pos := "law.go:17", after := #[], guard := none }, { dst := some 11, op := Op.load 23 (Operand.tmp 10), type := 23, pos := "law.go:17", after := #[{ on := 1, ground := Ground.data }], guard := none }, { dst := some 12, op := Op.call { callee := Callee.builtin Builtin.append, args := #[Operand.tmp 9, Operand.tmp 11], argTypes := #[23, 23] }, type := 23, pos := "law.go:17", after := #[{ on := 0, ground := Ground.data }, { on := 2, ground := Ground.data }], guard := none }, { dst := some 13, op := Op.build 39 #[(8, Operand.const (Value.int IntKind.i64 77))], type := 39, pos := "law.go:17", after := #[], guard := none }, { dst := some 14, op := Op.buildSlice 23 1 #[(0, Operand.tmp 13)], type := 23, pos := "law.go:17", after := #[{ on := 4, ground := Ground.data }], guard := none }, { dst := some 15, op := Op.call { callee := Callee.builtin Builtin.append, args := #[Operand.tmp 12, Operand.tmp 14], argTypes := #[23, 23] }, type := 23, pos := "law.go:17", after := #[{ on := 3, ground := Ground.data }, { on := 5, ground := Ground.data }, { on := 3, ground := Ground.chain }], guard := none }, { dst := some 16, op := Op.fieldAddr 25 (Operand.tmp 1) 5, type := 0, pos := "law.go:17", after := #[], guard := none }, { dst := some 17, op := Op.load 23 (Operand.tmp 16), type := 23, pos := "law.go:17", after := #[{ on := 7, ground := Ground.data }], guard := none }, { dst := some 18, op := Op.call { callee := Callee.builtin Builtin.len, args := #[Operand.tmp 17], argTypes := #[23] }, type := 3, pos := "law.go:17", after := #[{ on := 8, ground := Ground.data }], guard := none }, { dst := some 19, op := Op.slice 23 (Operand.tmp 15) none (some (Operand.tmp 18)) none, type := 23, pos := "law.go:17", after := #[{ on := 6, ground := Ground.data }, { on := 9, ground := Ground.data }], guard := none }, { dst := some 20, op := Op.fieldAddr 25 (Operand.tmp 3) 5, type := 0, pos := "law.go:17", after := #[{ on := 0, ground := Ground.phase }, { on := 1, ground := Ground.phase }, { on := 2, ground := Ground.phase }, { on := 3, ground := Ground.phase }, { on := 4, ground := Ground.phase }, { on := 5, ground := Ground.phase }, { on := 6, ground := Ground.phase }, { on := 7, ground := Ground.phase }, { on := 8, ground := Ground.phase }, { on := 9, ground := Ground.phase }, { on := 10, ground := Ground.phase }], guard := none }, { dst := none, op := Op.store 23 (Operand.tmp 20) (Operand.tmp 19), type := 0, pos := "law.go:17", after := #[{ on := 11, ground := Ground.data }, { on := 10, ground := Ground.data }, { on := 6, ground := Ground.chain }, { on := 0, ground := Ground.phase }, { on := 1, ground := Ground.phase }, { on := 2, ground := Ground.phase }, { on := 3, ground := Ground.phase }, { on := 4, ground := Ground.phase }, { on := 5, ground := Ground.phase }, { on := 6, ground := Ground.phase }, { on := 7, ground := Ground.phase }, { on := 8, ground := Ground.phase }, { on := 9, ground := Ground.phase }, { on := 10, ground := Ground.phase }], guard := none }]

set_option maxHeartbeats 1000000 in
theorem lent3 (s c n ec : Nat) (ea : Option Addr) (E : List EdV) (w0 : World) (b0 b1 b2 b3 b4 d0 d1 d2 d3 d4 d5 : Value) (a : Act) (w : World) (Q : Exit → Act → World → Prop) (hsz : a.tmps.size = 22)
    (h1 : a.tmps.getD 1 undef = .pointer (some ⟨s, 0, none⟩)) (h2 : a.tmps.getD 2 undef = .pointer (some ⟨s + 1, 0, none⟩)) (h3 : a.tmps.getD 3 undef = .pointer (some ⟨c, 0, none⟩))
    (hE : AllE E) (hn : E.length = n) (hnb : n ≤ 606627104962) (hs : s = w0.heap.size) (hsc : s < c) (hbel : Below s w0 w) (hbox : w.heap[s]? = some (.cells #[b0, b1, b2, b3, b4, .slice ea n ec] 25 (0, 0))) (hel : El w0 ea E)
    (hcb : w.heap[c]? = some (.cells #[d0, d1, d2, d3, d4, d5] 25 (0, 0)))
    (h : ∀ (a' : Act) (w' : World) (g cap : Nat), a'.tmps.size = 22 → a'.defers = a.defers → a'.tmps.getD 2 undef = .pointer (some ⟨s + 1, 0, none⟩) → a'.tmps.getD 3 undef = .pointer (some ⟨c, 0, none⟩) → Below s w0 w' → w'.heap[c]? = some (.cells #[d0, d1, d2, d3, d4, .slice (some ⟨g, 0, none⟩) n cap] 25 (0, 0)) →
      (∀ k, k < w.heap.size → k ≠ c → w'.heap[k]? = w.heap[k]?) → OwnE w' w.heap.size (.slice (some ⟨g, 0, none⟩) (n + 1) cap) (E ++ [e77]) → Q .normal a' w') :
    (Code.region 3 ops4 true).wp Try.prog Q a w := by
  have hcw : c < w.heap.size := (Array.getElem?_eq_some_iff.1 hcb).1
  have hsw : s < w.heap.size := (Array.getElem?_eq_some_iff.1 hbox).1
  have hn0 : (0 : Int) ≤ (n : Int) := by omega
  have ELX : ∀ x, Below w.heap.size w x → El x ea E := fun x hx => hel.below hE (by rw [← hs]; exact hbel.trans (hx.mono (by omega)))
  have SX : ∀ x, Below w.heap.size w x → Below s w0 x ∧ x.heap[s]? = some (.cells #[b0, b1, b2, b3, b4, .slice ea n ec] 25 (0, 0)) := fun x hx => ⟨hbel.trans (hx.mono (by omega)), (hx.block s hsw).trans hbox⟩
  have HE : Hid (AllE E) := hE
  clear hE hs hbel hbox hel
  refine wp_region_noPanic ?_
  refine wp_region_held_drew (S := fun w' => Below s w0 w' ∧ w'.heap[s]? = some (.cells #[b0, b1, b2, b3, b4, .slice ea n ec] 25 (0, 0))) (by kernel_rfl) (SX _ (Below.refl _ _).drew) (fun hHeld => ?_)
  have bw : Below w.heap.size w w.drew := (Below.refl _ _).drew
  generalize w.drew = x0 at *
  refine wpAnyH_take (i := 1) (oi := { dst := some 10, op := Op.fieldAddr 25 (Operand.tmp 1) 5, type := 0, pos := "law.go:17", after := #[], guard := none }) (v := .pointer (some ⟨s, 5, none⟩)) rfl (by kernel_rfl) (by kernel_rfl) (by kernel_rfl) (fun _ _ _ h => h) (Or.inl ⟨by rfl, fun w1 hw => by go_simp⟩) hHeld ?_
  obtain ⟨a1, e1⟩ : ∃ act, act = a.put (some 10) (.pointer (some ⟨s, 5, none⟩)) := ⟨_, rfl⟩
  rw [← e1]
  have z1 : a1.tmps.size = 22 := by rw [e1, put_size]; exact hsz
  have df1 : Hid (a1.defers = a.defers) := by show _ = _; rw [e1]; exact rfl
  replace h1 : a1.tmps.getD 1 undef = .pointer (some ⟨s, 0, none⟩) := by rw [e1, put_ne _ _ _ _ (by decide)]; exact h1
  replace h2 : a1.tmps.getD 2 undef = .pointer (some ⟨s + 1, 0, none⟩) := by rw [e1, put_ne _ _ _ _ (by decide)]; exact h2
  replace h3 : a1.tmps.getD 3 undef = .pointer (some ⟨c, 0, none⟩) := by rw [e1, put_ne _ _ _ _ (by decide)]; exact h3
  have t10 : a1.tmps.getD 10 undef = .pointer (some ⟨s, 5, none⟩) := by rw [e1]; exact put_same _ _ _ (by omega)
  clear e1
  refine wpAnyH_take (i := 2) (oi := { dst := some 11, op := Op.load 23 (Operand.tmp 10), type := 23, pos := "law.go:17", after := #[{ on := 1, ground := Ground.data }], guard := none }) (v := .slice ea n ec) rfl (by kernel_rfl) (by kernel_rfl) (by kernel_rfl) (fun _ _ _ h => h) (Or.inl ⟨by rfl, fun w1 hw => by obtain ⟨q0, q1, q2, q3, q4, q5⟩ := cells6 hw.2; go_simp⟩) hHeld ?_
  obtain ⟨a2, e2⟩ : ∃ act, act = a1.put (some 11) (.slice ea n ec) := ⟨_, rfl⟩
  rw [← e2]
  have z2 : a2.tmps.size = 22 := by rw [e2, put_size]; exact z1
  have df2 : Hid (a2.defers = a.defers) := by show _ = _; rw [e2]; exact df1.out
  replace h1 : a2.tmps.getD 1 undef = .pointer (some ⟨s, 0, none⟩) := by rw [e2, put_ne _ _ _ _ (by decide)]; exact h1
  replace h2 : a2.tmps.getD 2 undef = .pointer (some ⟨s + 1, 0, none⟩) := by rw [e2, put_ne _ _ _ _ (by decide)]; exact h2
  replace h3 : a2.tmps.getD 3 undef = .pointer (some ⟨c, 0, none⟩) := by rw [e2, put_ne _ _ _ _ (by decide)]; exact h3
  replace t10 : a2.tmps.getD 10 undef = .pointer (some ⟨s, 5, none⟩) := by rw [e2, put_ne _ _ _ _ (by decide)]; exact t10
  have t11 : a2.tmps.getD 11 undef = .slice ea n ec := by rw [e2]; exact put_same _ _ _ (by omega)
  clear e2 z1
  refine wpAnyH_take (i := 7) (oi := { dst := some 16, op := Op.fieldAddr 25 (Operand.tmp 1) 5, type := 0, pos := "law.go:17", after := #[], guard := none }) (v := .pointer (some ⟨s, 5, none⟩)) rfl (by kernel_rfl) (by kernel_rfl) (by kernel_rfl) (fun _ _ _ h => h) (Or.inl ⟨by rfl, fun w1 hw => by go_simp⟩) hHeld ?_
  obtain ⟨a3, e3⟩ : ∃ act, act = a2.put (some 16) (.pointer (some ⟨s, 5, none⟩)) := ⟨_, rfl⟩
  rw [← e3]
  have z3 : a3.tmps.size = 22 := by rw [e3, put_size]; exact z2
  have df3 : Hid (a3.defers = a.defers) := by show _ = _; rw [e3]; exact df2.out
  replace h1 : a3.tmps.getD 1 undef = .pointer (some ⟨s, 0, none⟩) := by rw [e3, put_ne _ _ _ _ (by decide)]; exact h1
  replace h2 : a3.tmps.getD 2 undef = .pointer (some ⟨s + 1, 0, none⟩) := by rw [e3, put_ne _ _ _ _ (by decide)]; exact h2
  replace h3 : a3.tmps.getD 3 undef = .pointer (some ⟨c, 0, none⟩) := by rw [e3, put_ne _ _ _ _ (by decide)]; exact h3
  replace t10 : a3.tmps.getD 10 undef = .pointer (some ⟨s, 5, none⟩) := by rw [e3, put_ne _ _ _ _ (by decide)]; exact t10
  replace t11 : a3.tmps.getD 11 undef = .slice ea n ec := by rw [e3, put_ne _ _ _ _ (by decide)]; exact t11
  have t16 : a3.tmps.getD 16 undef = .pointer (some ⟨s, 5, none⟩) := by rw [e3]; exact put_same _ _ _ (by omega)
  clear e3 z2
  refine wpAnyH_take (i := 8) (oi := { dst := some 17, op := Op.load 23 (Operand.tmp 16), type := 23, pos := "law.go:17", after := #[{ on := 7, ground := Ground.data }], guard := none }) (v := .slice ea n ec) rfl (by kernel_rfl) (by kernel_rfl) (by kernel_rfl) (fun _ _ _ h => h) (Or.inl ⟨by rfl, fun w1 hw => by obtain ⟨q0, q1, q2, q3, q4, q5⟩ := cells6 hw.2; go_simp⟩) hHeld ?_
  obtain ⟨a4, e4⟩ : ∃ act, act = a3.put (some 17) (.slice ea n ec) := ⟨_, rfl⟩
  rw [← e4]
  have z4 : a4.tmps.size = 22 := by rw [e4, put_size]; exact z3
  have df4 : Hid (a4.defers = a.defers) := by show _ = _; rw [e4]; exact df3.out
  replace h1 : a4.tmps.getD 1 undef = .pointer (some ⟨s, 0, none⟩) := by rw [e4, put_ne _ _ _ _ (by decide)]; exact h1
  replace h2 : a4.tmps.getD 2 undef = .pointer (some ⟨s + 1, 0, none⟩) := by rw [e4, put_ne _ _ _ _ (by decide)]; exact h2
  replace h3 : a4.tmps.getD 3 undef = .pointer (some ⟨c, 0, none⟩) := by rw [e4, put_ne _ _ _ _ (by decide)]; exact h3
  replace t10 : a4.tmps.getD 10 undef = .pointer (some ⟨s, 5, none⟩) := by rw [e4, put_ne _ _ _ _ (by decide)]; exact t10
  replace t11 : a4.tmps.getD 11 undef = .slice ea n ec := by rw [e4, put_ne _ _ _ _ (by decide)]; exact t11
  replace t16 : a4.tmps.getD 16 undef = .pointer (some ⟨s, 5, none⟩) := by rw [e4, put_ne _ _ _ _ (by decide)]; exact t16
  have t17 : a4.tmps.getD 17 undef = .slice ea n ec := by rw [e4]; exact put_same _ _ _ (by omega)
  clear e4 z3
  refine wpAnyH_take (i := 9) (oi := { dst := some 18, op := Op.call { callee := Callee.builtin Builtin.len, args := #[Operand.tmp 17], argTypes := #[23] }, type := 3, pos := "law.go:17", after := #[{ on := 8, ground := Ground.data }], guard := none }) (v := .int .i64 (n : Int)) rfl (by kernel_rfl) (by kernel_rfl) (by kernel_rfl) (fun _ _ _ h => h) (Or.inl ⟨by rfl, fun w1 hw => by go_simp⟩) hHeld ?_
  obtain ⟨a5, e5⟩ : ∃ act, act = a4.put (some 18) (.int .i64 (n : Int)) := ⟨_, rfl⟩
  rw [← e5]
  have z5 : a5.tmps.size = 22 := by rw [e5, put_size]; exact z4
  have df5 : Hid (a5.defers = a.defers) := by show _ = _; rw [e5]; exact df4.out
  replace h1 : a5.tmps.getD 1 undef = .pointer (some ⟨s, 0, none⟩) := by rw [e5, put_ne _ _ _ _ (by decide)]; exact h1
  replace h2 : a5.tmps.getD 2 undef = .pointer (some ⟨s + 1, 0, none⟩) := by rw [e5, put_ne _ _ _ _ (by decide)]; exact h2
  replace h3 : a5.tmps.getD 3 undef = .pointer (some ⟨c, 0, none⟩) := by rw [e5, put_ne _ _ _ _ (by decide)]; exact h3
  replace t10 : a5.tmps.getD 10 undef = .pointer (some ⟨s, 5, none⟩) := by rw [e5, put_ne _ _ _ _ (by decide)]; exact t10
  replace t11 : a5.tmps.getD 11 undef = .slice ea n ec := by rw [e5, put_ne _ _ _ _ (by decide)]; exact t11
  replace t16 : a5.tmps.getD 16 undef = .pointer (some ⟨s, 5, none⟩) := by rw [e5, put_ne _ _ _ _ (by decide)]; exact t16
  replace t17 : a5.tmps.getD 17 undef = .slice ea n ec := by rw [e5, put_ne _ _ _ _ (by decide)]; exact t17
  have t18 : a5.tmps.getD 18 undef = .int .i64 (n : Int) := by rw [e5]; exact put_same _ _ _ (by omega)
  clear e5 z4
  refine wpAnyH_take (i := 4) (oi := { dst := some 13, op := Op.build 39 #[(8, Operand.const (Value.int IntKind.i64 77))], type := 39, pos := "law.go:17", after := #[], guard := none }) (v := .agg e77.c) rfl (by kernel_rfl) (by kernel_rfl) (by kernel_rfl) (fun _ _ _ h => h) (Or.inl ⟨by rfl, fun w1 hw => by exact exec_b77 rfl _⟩) hHeld ?_
  obtain ⟨a6, e6⟩ : ∃ act, act = a5.put (some 13) (.agg e77.c) := ⟨_, rfl⟩
  rw [← e6]
  have z6 : a6.tmps.size = 22 := by rw [e6, put_size]; exact z5
  have df6 : Hid (a6.defers = a.defers) := by show _ = _; rw [e6]; exact df5.out
  replace h1 : a6.tmps.getD 1 undef = .pointer (some ⟨s, 0, none⟩) := by rw [e6, put_ne _ _ _ _ (by decide)]; exact h1
  replace h2 : a6.tmps.getD 2 undef = .pointer (some ⟨s + 1, 0, none⟩) := by rw [e6, put_ne _ _ _ _ (by decide)]; exact h2
  replace h3 : a6.tmps.getD 3 undef = .pointer (some ⟨c, 0, none⟩) := by rw [e6, put_ne _ _ _ _ (by decide)]; exact h3
  replace t10 : a6.tmps.getD 10 undef = .pointer (some ⟨s, 5, none⟩) := by rw [e6, put_ne _ _ _ _ (by decide)]; exact t10
  replace t11 : a6.tmps.getD 11 undef = .slice ea n ec := by rw [e6, put_ne _ _ _ _ (by decide)]; exact t11
  replace t16 : a6.tmps.getD 16 undef = .pointer (some ⟨s, 5, none⟩) := by rw [e6, put_ne _ _ _ _ (by decide)]; exact t16
  replace t17 : a6.tmps.getD 17 undef = .slice ea n ec := by rw [e6, put_ne _ _ _ _ (by decide)]; exact t17
  replace t18 : a6.tmps.getD 18 undef = .int .i64 (n : Int) := by rw [e6, put_ne _ _ _ _ (by decide)]; exact t18
  have t13 : a6.tmps.getD 13 undef = .agg e77.c := by rw [e6]; exact put_same _ _ _ (by omega)
  clear e6 z5
  refine wpAnyH_ready (rs := [0, 5]) (by kernel_rfl) (by simp) ?_
  refine AllReadyH.cons (o := { dst := some 9, op := Op.buildSlice 23 0 #[], type := 23, pos := "law.go:17", after := #[], guard := none }) rfl (fun K hK => ?_) (AllReadyH.cons (o := { dst := some 14, op := Op.buildSlice 23 1 #[(0, Operand.tmp 13)], type := 23, pos := "law.go:17", after := #[{ on := 4, ground := Ground.data }], guard := none }) rfl (fun K hK => ?_) AllReadyH.nil)
  · rw [if_pos (by rfl)]
    go_simp
    have byw0 : Below x0.heap.size x0 (x0.alloc (.cells #[] 39)) := (Below.refl _ _).alloc (Nat.le_refl _) _
    have bw0 : Below w.heap.size w (x0.alloc (.cells #[] 39)) := bw.trans (byw0.mono bw.size)
    have own9 := own0 x0
    have hb9 : x0.heap.size < (x0.alloc (.cells #[] 39)).heap.size := by simp
    obtain ⟨g9, hg9⟩ : ∃ g9, g9 = x0.heap.size := ⟨_, rfl⟩
    rw [← hg9] at own9 ⊢
    have l9 : g9 < (x0.alloc (.cells #[] 39)).heap.size := by rw [hg9]; exact hb9
    have hg9w : w.heap.size ≤ g9 := by rw [hg9]; exact bw.size
    clear hg9 hb9 byw0
    generalize (x0.alloc (.cells #[] 39)) = x1 at *
    refine hK.out _ _ (SX _ bw0) (fun hHeld => ?_)
    clear hK K
    change wpAnyH _ _ _ _ _ _ _ (a6.put (some 9) (.slice (some ⟨g9, 0, none⟩) 0 0)) _
    obtain ⟨a7, e7⟩ : ∃ act, act = a6.put (some 9) (.slice (some ⟨g9, 0, none⟩) 0 0) := ⟨_, rfl⟩
    rw [← e7]
    have z7 : a7.tmps.size = 22 := by rw [e7, put_size]; exact z6
    have df7 : Hid (a7.defers = a.defers) := by show _ = _; rw [e7]; exact df6.out
    replace h1 : a7.tmps.getD 1 undef = .pointer (some ⟨s, 0, none⟩) := by rw [e7, put_ne _ _ _ _ (by decide)]; exact h1
    replace h2 : a7.tmps.getD 2 undef = .pointer (some ⟨s + 1, 0, none⟩) := by rw [e7, put_ne _ _ _ _ (by decide)]; exact h2
    replace h3 : a7.tmps.getD 3 undef = .pointer (some ⟨c, 0, none⟩) := by rw [e7, put_ne _ _ _ _ (by decide)]; exact h3
    replace t10 : a7.tmps.getD 10 undef = .pointer (some ⟨s, 5, none⟩) := by rw [e7, put_ne _ _ _ _ (by decide)]; exact t10
    replace t11 : a7.tmps.getD 11 undef = .slice ea n ec := by rw [e7, put_ne _ _ _ _ (by decide)]; exact t11
    replace t16 : a7.tmps.getD 16 undef = .pointer (some ⟨s, 5, none⟩) := by rw [e7, put_ne _ _ _ _ (by decide)]; exact t16
    replace t17 : a7.tmps.getD 17 undef = .slice ea n ec := by rw [e7, put_ne _ _ _ _ (by decide)]; exact t17
    replace t18 : a7.tmps.getD 18 undef = .int .i64 (n : Int) := by rw [e7, put_ne _ _ _ _ (by decide)]; exact t18
    replace t13 : a7.tmps.getD 13 undef = .agg e77.c := by rw [e7, put_ne _ _ _ _ (by decide)]; exact t13
    have t9 : a7.tmps.getD 9 undef = .slice (some ⟨g9, 0, none⟩) 0 0 := by rw [e7]; exact put_same _ _ _ (by omega)
    clear e7 z6
    refine wpAnyH_ready (rs := [3, 5]) (by kernel_rfl) (by simp) ?_
    refine AllReadyH.cons (o := { dst := some 12, op := Op.call { callee := Callee.builtin Builtin.append, args := #[Operand.tmp 9, Operand.tmp 11], argTypes := #[23, 23] }, type := 23, pos := "law.go:17", after := #[{ on := 0, ground := Ground.data }, { on := 2, ground := Ground.data }], guard := none }) rfl (fun K hK => ?_) (AllReadyH.cons (o := { dst := some 14, op := Op.buildSlice 23 1 #[(0, Operand.tmp 13)], type := 23, pos := "law.go:17", after := #[{ on := 4, ground := Ground.data }], guard := none }) rfl (fun K hK => ?_) AllReadyH.nil)
    · rw [if_pos (by rfl)]
      obtain ⟨v3, x3, hr3, own3, gr3, g3, cap3, hv3⟩ := run_appE2 x1 g9 23 (.slice (some ⟨g9, 0, none⟩) 0 0) [] ea E n ec hn own9 HE.out (ELX _ bw0) ⟨g9, 0, rfl⟩ (by simp; omega) (by omega)
      rw [List.nil_append] at own3 hv3
      rw [hn] at hv3
      subst hv3
      refine oper_app (.tmp 9) (.tmp 11) rfl _ _ _ _ t9 t11 hr3 ?_
      have bw3 : Below w.heap.size w x3 := bw0.grown gr3 bw0.size (fun k hk => by cases hk; exact hg9w)
      clear hr3 gr3 own9
      refine hK.out _ _ (SX _ bw3) (fun hHeld => ?_)
      clear hK K
      obtain ⟨a8, e8⟩ : ∃ act, act = a7.put (some 12) (.slice (some ⟨g3, 0, none⟩) n cap3) := ⟨_, rfl⟩
      rw [← e8]
      have z8 : a8.tmps.size = 22 := by rw [e8, put_size]; exact z7
      have df8 : Hid (a8.defers = a.defers) := by show _ = _; rw [e8]; exact df7.out
      replace h1 : a8.tmps.getD 1 undef = .pointer (some ⟨s, 0, none⟩) := by rw [e8, put_ne _ _ _ _ (by decide)]; exact h1
      replace h2 : a8.tmps.getD 2 undef = .pointer (some ⟨s + 1, 0, none⟩) := by rw [e8, put_ne _ _ _ _ (by decide)]; exact h2
      replace h3 : a8.tmps.getD 3 undef = .pointer (some ⟨c, 0, none⟩) := by rw [e8, put_ne _ _ _ _ (by decide)]; exact h3
      replace t10 : a8.tmps.getD 10 undef = .pointer (some ⟨s, 5, none⟩) := by rw [e8, put_ne _ _ _ _ (by decide)]; exact t10
      replace t11 : a8.tmps.getD 11 undef = .slice ea n ec := by rw [e8, put_ne _ _ _ _ (by decide)]; exact t11
      replace t16 : a8.tmps.getD 16 undef = .pointer (some ⟨s, 5, none⟩) := by rw [e8, put_ne _ _ _ _ (by decide)]; exact t16
      replace t17 : a8.tmps.getD 17 undef = .slice ea n ec := by rw [e8, put_ne _ _ _ _ (by decide)]; exact t17
      replace t18 : a8.tmps.getD 18 undef = .int .i64 (n : Int) := by rw [e8, put_ne _ _ _ _ (by decide)]; exact t18
      replace t13 : a8.tmps.getD 13 undef = .agg e77.c := by rw [e8, put_ne _ _ _ _ (by decide)]; exact t13
      replace t9 : a8.tmps.getD 9 undef = .slice (some ⟨g9, 0, none⟩) 0 0 := by rw [e8, put_ne _ _ _ _ (by decide)]; exact t9
      have t12 : a8.tmps.getD 12 undef = .slice (some ⟨g3, 0, none⟩) n cap3 := by rw [e8]; exact put_same _ _ _ (by omega)
      clear e8 z7
      refine wpAnyH_ready (rs := [5]) (by kernel_rfl) (by simp) ?_
      refine AllReadyH.cons (o := { dst := some 14, op := Op.buildSlice 23 1 #[(0, Operand.tmp 13)], type := 23, pos := "law.go:17", after := #[{ on := 4, ground := Ground.data }], guard := none }) rfl (fun K hK => ?_) AllReadyH.nil
      rw [if_pos (by rfl)]
      refine oper_bs1 (.tmp 13) rfl e77.c t13 (EdV.size e77_ok) ?_
      have byw5 : Below x3.heap.size x3 (x3.alloc (.cells e77.c 39)) := (Below.refl _ _).alloc (Nat.le_refl _) _
      have bw5 : Below w.heap.size w (x3.alloc (.cells e77.c 39)) := bw3.trans (byw5.mono bw3.size)
      have el5 := el77 x3
      have hb5 : x3.heap.size < (x3.alloc (.cells e77.c 39)).heap.size := by simp
      replace own3 := own3.below byw5
      obtain ⟨g5, hg5⟩ : ∃ g5, g5 = x3.heap.size := ⟨_, rfl⟩
      rw [← hg5] at el5 ⊢
      have l5 : g5 < (x3.alloc (.cells e77.c 39)).heap.size := by rw [hg5]; exact hb5
      clear hg5 hb5 byw5
      generalize (x3.alloc (.cells e77.c 39)) = x5 at *
      refine hK.out _ _ (SX _ bw5) (fun hHeld => ?_)
      clear hK K
      obtain ⟨a9, e9⟩ : ∃ act, act = a8.put (some 14) (.slice (some ⟨g5, 0, none⟩) 1 1) := ⟨_, rfl⟩
      rw [← e9]
      have z9 : a9.tmps.size = 22 := by rw [e9, put_size]; exact z8
      have df9 : Hid (a9.defers = a.defers) := by show _ = _; rw [e9]; exact df8.out
      replace h1 : a9.tmps.getD 1 undef = .pointer (some ⟨s, 0, none⟩) := by rw [e9, put_ne _ _ _ _ (by decide)]; exact h1
      replace h2 : a9.tmps.getD 2 undef = .pointer (some ⟨s + 1, 0, none⟩) := by rw [e9, put_ne _ _ _ _ (by decide)]; exact h2
      replace h3 : a9.tmps.getD 3 undef = .pointer (some ⟨c, 0, none⟩) := by rw [e9, put_ne _ _ _ _ (by decide)]; exact h3
      replace t10 : a9.tmps.getD 10 undef = .pointer (some ⟨s, 5, none⟩) := by rw [e9, put_ne _ _ _ _ (by decide)]; exact t10
      replace t11 : a9.tmps.getD 11 undef = .slice ea n ec := by rw [e9, put_ne _ _ _ _ (by decide)]; exact t11
      replace t16 : a9.tmps.getD 16 undef = .pointer (some ⟨s, 5, none⟩) := by rw [e9, put_ne _ _ _ _ (by decide)]; exact t16
      replace t17 : a9.tmps.getD 17 undef = .slice ea n ec := by rw [e9, put_ne _ _ _ _ (by decide)]; exact t17
      replace t18 : a9.tmps.getD 18 undef = .int .i64 (n : Int) := by rw [e9, put_ne _ _ _ _ (by decide)]; exact t18
      replace t13 : a9.tmps.getD 13 undef = .agg e77.c := by rw [e9, put_ne _ _ _ _ (by decide)]; exact t13
      replace t9 : a9.tmps.getD 9 undef = .slice (some ⟨g9, 0, none⟩) 0 0 := by rw [e9, put_ne _ _ _ _ (by decide)]; exact t9
      replace t12 : a9.tmps.getD 12 undef = .slice (some ⟨g3, 0, none⟩) n cap3 := by rw [e9, put_ne _ _ _ _ (by decide)]; exact t12
      have t14 : a9.tmps.getD 14 undef = .slice (some ⟨g5, 0, none⟩) 1 1 := by rw [e9]; exact put_same _ _ _ (by omega)
      clear e9 z8
      refine wpAnyH_ready (rs := [6]) (by kernel_rfl) (by simp) ?_
      refine AllReadyH.cons (o := { dst := some 15, op := Op.call { callee := Callee.builtin Builtin.append, args := #[Operand.tmp 12, Operand.tmp 14], argTypes := #[23, 23] }, type := 23, pos := "law.go:17", after := #[{ on := 3, ground := Ground.data }, { on := 5, ground := Ground.data }, { on := 3, ground := Ground.chain }], guard := none }) rfl (fun K hK => ?_) AllReadyH.nil
      rw [if_pos (by rfl)]
      have g3b := World.ownsRow.lt own3.2 g3 rfl
      obtain ⟨v6, x6, hr6, own6, gr6, g6, cap6, hv6⟩ := run_appE2 x5 g9 23 (.slice (some ⟨g3, 0, none⟩) n cap3) E (some ⟨g5, 0, none⟩) [e77] 1 1 rfl own3 all77 el5 ⟨g3, cap3, by rw [hn]⟩ (by simp; omega) (by omega)
      have hlen6 : (E ++ [e77]).length = n + 1 := by rw [List.length_append, hn]; rfl
      rw [hlen6] at hv6
      subst hv6
      refine oper_app (.tmp 12) (.tmp 14) rfl _ _ _ _ t12 t14 hr6 ?_
      have bw6 : Below w.heap.size w x6 := bw5.grown gr6 bw5.size (fun k hk => by cases hk; show w.heap.size ≤ g3; omega)
      clear hr6 gr6 own3 el5
      refine hK.out _ _ (SX _ bw6) (fun hHeld => ?_)
      clear hK K
      change wpAnyH _ _ _ _ _ _ _ (a9.put (some 15) (.slice (some ⟨g6, 0, none⟩) (n + 1) cap6)) _
      obtain ⟨a10, e10⟩ : ∃ act, act = a9.put (some 15) (.slice (some ⟨g6, 0, none⟩) (n + 1) cap6) := ⟨_, rfl⟩
      rw [← e10]
      have z10 : a10.tmps.size = 22 := by rw [e10, put_size]; exact z9
      have df10 : Hid (a10.defers = a.defers) := by show _ = _; rw [e10]; exact df9.out
      replace h1 : a10.tmps.getD 1 undef = .pointer (some ⟨s, 0, none⟩) := by rw [e10, put_ne _ _ _ _ (by decide)]; exact h1
      replace h2 : a10.tmps.getD 2 undef = .pointer (some ⟨s + 1, 0, none⟩) := by rw [e10, put_ne _ _ _ _ (by decide)]; exact h2
      replace h3 : a10.tmps.getD 3 undef = .pointer (some ⟨c, 0, none⟩) := by rw [e10, put_ne _ _ _ _ (by decide)]; exact h3
      replace t10 : a10.tmps.getD 10 undef = .pointer (some ⟨s, 5, none⟩) := by rw [e10, put_ne _ _ _ _ (by decide)]; exact t10
      replace t11 : a10.tmps.getD 11 undef = .slice ea n ec := by rw [e10, put_ne _ _ _ _ (by decide)]; exact t11
      replace t16 : a10.tmps.getD 16 undef = .pointer (some ⟨s, 5, none⟩) := by rw [e10, put_ne _ _ _ _ (by decide)]; exact t16
      replace t17 : a10.tmps.getD 17 undef = .slice ea n ec := by rw [e10, put_ne _ _ _ _ (by decide)]; exact t17
      replace t18 : a10.tmps.getD 18 undef = .int .i64 (n : Int) := by rw [e10, put_ne _ _ _ _ (by decide)]; exact t18
      replace t13 : a10.tmps.getD 13 undef = .agg e77.c := by rw [e10, put_ne _ _ _ _ (by decide)]; exact t13
      replace t9 : a10.tmps.getD 9 undef = .slice (some ⟨g9, 0, none⟩) 0 0 := by rw [e10, put_ne _ _ _ _ (by decide)]; exact t9
      replace t12 : a10.tmps.getD 12 undef = .slice (some ⟨g3, 0, none⟩) n cap3 := by rw [e10, put_ne _ _ _ _ (by decide)]; exact t12
      replace t14 : a10.tmps.getD 14 undef = .slice (some ⟨g5, 0, none⟩) 1 1 := by rw [e10, put_ne _ _ _ _ (by decide)]; exact t14
      have t15 : a10.tmps.getD 15 undef = .slice (some ⟨g6, 0, none⟩) (n + 1) cap6 := by rw [e10]; exact put_same _ _ _ (by omega)
      clear e10 z9
      have hcap : n + 1 ≤ cap6 := by
        obtain ⟨_, ⟨e, _⟩ | ⟨g', cap', cur, e, _, _, hnc, _⟩⟩ := own6.2
        · cases e
        · simp only [Value.slice.injEq] at e
          rw [hlen6] at hnc
          omega
      have hcI : (n : Int) ≤ (cap6 : Int) := by omega
      refine wpAnyH_take (i := 10) (oi := { dst := some 19, op := Op.slice 23 (Operand.tmp 15) none (some (Operand.tmp 18)) none, type := 23, pos := "law.go:17", after := #[{ on := 6, ground := Ground.data }, { on := 9, ground := Ground.data }], guard := none }) (v := .slice (some ⟨g6, 0, none⟩) n cap6) rfl (by kernel_rfl) (by kernel_rfl) (by kernel_rfl) (fun _ _ _ h => h) (Or.inl ⟨by rfl, fun w1 hw => by go_simp⟩) hHeld ?_
      obtain ⟨a11, e11⟩ : ∃ act, act = a10.put (some 19) (.slice (some ⟨g6, 0, none⟩) n cap6) := ⟨_, rfl⟩
      rw [← e11]
      have z11 : a11.tmps.size = 22 := by rw [e11, put_size]; exact z10
      have df11 : Hid (a11.defers = a.defers) := by show _ = _; rw [e11]; exact df10.out
      replace h1 : a11.tmps.getD 1 undef = .pointer (some ⟨s, 0, none⟩) := by rw [e11, put_ne _ _ _ _ (by decide)]; exact h1
      replace h2 : a11.tmps.getD 2 undef = .pointer (some ⟨s + 1, 0, none⟩) := by rw [e11, put_ne _ _ _ _ (by decide)]; exact h2
      replace h3 : a11.tmps.getD 3 undef = .pointer (some ⟨c, 0, none⟩) := by rw [e11, put_ne _ _ _ _ (by decide)]; exact h3
      replace t10 : a11.tmps.getD 10 undef = .pointer (some ⟨s, 5, none⟩) := by rw [e11, put_ne _ _ _ _ (by decide)]; exact t10
      replace t11 : a11.tmps.getD 11 undef = .slice ea n ec := by rw [e11, put_ne _ _ _ _ (by decide)]; exact t11
      replace t16 : a11.tmps.getD 16 undef = .pointer (some ⟨s, 5, none⟩) := by rw [e11, put_ne _ _ _ _ (by decide)]; exact t16
      replace t17 : a11.tmps.getD 17 undef = .slice ea n ec := by rw [e11, put_ne _ _ _ _ (by decide)]; exact t17
      replace t18 : a11.tmps.getD 18 undef = .int .i64 (n : Int) := by rw [e11, put_ne _ _ _ _ (by decide)]; exact t18
      replace t13 : a11.tmps.getD 13 undef = .agg e77.c := by rw [e11, put_ne _ _ _ _ (by decide)]; exact t13
      replace t9 : a11.tmps.getD 9 undef = .slice (some ⟨g9, 0, none⟩) 0 0 := by rw [e11, put_ne _ _ _ _ (by decide)]; exact t9
      replace t12 : a11.tmps.getD 12 undef = .slice (some ⟨g3, 0, none⟩) n cap3 := by rw [e11, put_ne _ _ _ _ (by decide)]; exact t12
      replace t14 : a11.tmps.getD 14 undef = .slice (some ⟨g5, 0, none⟩) 1 1 := by rw [e11, put_ne _ _ _ _ (by decide)]; exact t14
      replace t15 : a11.tmps.getD 15 undef = .slice (some ⟨g6, 0, none⟩) (n + 1) cap6 := by rw [e11, put_ne _ _ _ _ (by decide)]; exact t15
      have t19 : a11.tmps.getD 19 undef = .slice (some ⟨g6, 0, none⟩) n cap6 := by rw [e11]; exact put_same _ _ _ (by omega)
      clear e11 z10
      refine wpAnyH_take (i := 11) (oi := { dst := some 20, op := Op.fieldAddr 25 (Operand.tmp 3) 5, type := 0, pos := "law.go:17", after := #[{ on := 0, ground := Ground.phase }, { on := 1, ground := Ground.phase }, { on := 2, ground := Ground.phase }, { on := 3, ground := Ground.phase }, { on := 4, ground := Ground.phase }, { on := 5, ground := Ground.phase }, { on := 6, ground := Ground.phase }, { on := 7, ground := Ground.phase }, { on := 8, ground := Ground.phase }, { on := 9, ground := Ground.phase }, { on := 10, ground := Ground.phase }], guard := none }) (v := .pointer (some ⟨c, 5, none⟩)) rfl (by kernel_rfl) (by kernel_rfl) (by kernel_rfl) (fun _ _ _ h => h) (Or.inl ⟨by rfl, fun w1 hw => by go_simp⟩) hHeld ?_
      obtain ⟨a12, e12⟩ : ∃ act, act = a11.put (some 20) (.pointer (some ⟨c, 5, none⟩)) := ⟨_, rfl⟩
      rw [← e12]
      have z12 : a12.tmps.size = 22 := by rw [e12, put_size]; exact z11
      have df12 : Hid (a12.defers = a.defers) := by show _ = _; rw [e12]; exact df11.out
      replace h1 : a12.tmps.getD 1 undef = .pointer (some ⟨s, 0, none⟩) := by rw [e12, put_ne _ _ _ _ (by decide)]; exact h1
      replace h2 : a12.tmps.getD 2 undef = .pointer (some ⟨s + 1, 0, none⟩) := by rw [e12, put_ne _ _ _ _ (by decide)]; exact h2
      replace h3 : a12.tmps.getD 3 undef = .pointer (some ⟨c, 0, none⟩) := by rw [e12, put_ne _ _ _ _ (by decide)]; exact h3
      replace t10 : a12.tmps.getD 10 undef = .pointer (some ⟨s, 5, none⟩) := by rw [e12, put_ne _ _ _ _ (by decide)]; exact t10
      replace t11 : a12.tmps.getD 11 undef = .slice ea n ec := by rw [e12, put_ne _ _ _ _ (by decide)]; exact t11
      replace t16 : a12.tmps.getD 16 undef = .pointer (some ⟨s, 5, none⟩) := by rw [e12, put_ne _ _ _ _ (by decide)]; exact t16
      replace t17 : a12.tmps.getD 17 undef = .slice ea n ec := by rw [e12, put_ne _ _ _ _ (by decide)]; exact t17
      replace t18 : a12.tmps.getD 18 undef = .int .i64 (n : Int) := by rw [e12, put_ne _ _ _ _ (by decide)]; exact t18
      replace t13 : a12.tmps.getD 13 undef = .agg e77.c := by rw [e12, put_ne _ _ _ _ (by decide)]; exact t13
      replace t9 : a12.tmps.getD 9 undef = .slice (some ⟨g9, 0, none⟩) 0 0 := by rw [e12, put_ne _ _ _ _ (by decide)]; exact t9
      replace t12 : a12.tmps.getD 12 undef = .slice (some ⟨g3, 0, none⟩) n cap3 := by rw [e12, put_ne _ _ _ _ (by decide)]; exact t12
      replace t14 : a12.tmps.getD 14 undef = .slice (some ⟨g5, 0, none⟩) 1 1 := by rw [e12, put_ne _ _ _ _ (by decide)]; exact t14
      replace t15 : a12.tmps.getD 15 undef = .slice (some ⟨g6, 0, none⟩) (n + 1) cap6 := by rw [e12, put_ne _ _ _ _ (by decide)]; exact t15
      replace t19 : a12.tmps.getD 19 undef = .slice (some ⟨g6, 0, none⟩) n cap6 := by rw [e12, put_ne _ _ _ _ (by decide)]; exact t19
      have t20 : a12.tmps.getD 20 undef = .pointer (some ⟨c, 5, none⟩) := by rw [e12]; exact put_same _ _ _ (by omega)
      clear e12 z11
      have hc6 := (bw6.block c hcw).trans hcb
      obtain ⟨p0, p1, p2, p3, p4, p5⟩ := cells6 hc6
      have f5 := frozen_of_row x6 c 5 _ _ hc6
      refine wpAnyH_ready (rs := [12]) (by kernel_rfl) (by simp) ?_
      refine AllReadyH.cons (o := { dst := none, op := Op.store 23 (Operand.tmp 20) (Operand.tmp 19), type := 0, pos := "law.go:17", after := #[{ on := 11, ground := Ground.data }, { on := 10, ground := Ground.data }, { on := 6, ground := Ground.chain }, { on := 0, ground := Ground.phase }, { on := 1, ground := Ground.phase }, { on := 2, ground := Ground.phase }, { on := 3, ground := Ground.phase }, { on := 4, ground := Ground.phase }, { on := 5, ground := Ground.phase }, { on := 6, ground := Ground.phase }, { on := 7, ground := Ground.phase }, { on := 8, ground := Ground.phase }, { on := 9, ground := Ground.phase }, { on := 10, ground := Ground.phase }], guard := none }) rfl (fun K hK => ?_) AllReadyH.nil
      rw [if_pos (by rfl)]
      go_simp
      have S12 : Below s w0 (x6.setCell ⟨c, 5, none⟩ (.slice (some ⟨g6, 0, none⟩) n cap6)) ∧ (x6.setCell ⟨c, 5, none⟩ (.slice (some ⟨g6, 0, none⟩) n cap6)).heap[s]? = some (.cells #[b0, b1, b2, b3, b4, .slice ea n ec] 25 (0, 0)) := ⟨(SX _ bw6).1.setCell (p := ⟨c, 5, none⟩) (by show s ≤ c; omega) _, (Below.heap_setCell _ _ _ _ (by show s ≠ c; omega)).trans (SX _ bw6).2⟩
      refine hK.out _ _ S12 (fun hHeld => ?_)
      refine wpAnyH_done (by kernel_rfl) (NoPanic.normal (h _ _ g6 cap6 z12 df12.out h2 h3 S12.1 (heap_setCell_same _ c 5 _ 25 _ hc6) (fun k hk hkc => (Below.heap_setCell _ _ _ _ hkc).trans (bw6.block k hk)) ?_)) _
      have g6w := (World.ownsRow.lt own6.2 g6 rfl).1
      exact (own6.keep fun g hg => Below.heap_setCell _ _ _ _ (by cases hg; show g6 ≠ c; omega)).weak hg9w
    · rw [if_pos (by rfl)]
      refine oper_bs1 (.tmp 13) rfl e77.c t13 (EdV.size e77_ok) ?_
      have byw5 : Below x1.heap.size x1 (x1.alloc (.cells e77.c 39)) := (Below.refl _ _).alloc (Nat.le_refl _) _
      have bw5 : Below w.heap.size w (x1.alloc (.cells e77.c 39)) := bw0.trans (byw5.mono bw0.size)
      have el5 := el77 x1
      have hb5 : x1.heap.size < (x1.alloc (.cells e77.c 39)).heap.size := by simp
      replace own9 := own9.below byw5
      obtain ⟨g5, hg5⟩ : ∃ g5, g5 = x1.heap.size := ⟨_, rfl⟩
      rw [← hg5] at el5 ⊢
      have l5 : g5 < (x1.alloc (.cells e77.c 39)).heap.size := by rw [hg5]; exact hb5
      have n59 : g5 ≠ g9 := by rw [hg5]; omega
      replace l9 : g9 < (x1.alloc (.cells e77.c 39)).heap.size := by omega
      clear hg5 hb5 byw5
      generalize (x1.alloc (.cells e77.c 39)) = x5 at *
      refine hK.out _ _ (SX _ bw5) (fun hHeld => ?_)
      clear hK K
      obtain ⟨a8, e8⟩ : ∃ act, act = a7.put (some 14) (.slice (some ⟨g5, 0, none⟩) 1 1) := ⟨_, rfl⟩
      rw [← e8]
      have z8 : a8.tmps.size = 22 := by rw [e8, put_size]; exact z7
      have df8 : Hid (a8.defers = a.defers) := by show _ = _; rw [e8]; exact df7.out
      replace h1 : a8.tmps.getD 1 undef = .pointer (some ⟨s, 0, none⟩) := by rw [e8, put_ne _ _ _ _ (by decide)]; exact h1
      replace h2 : a8.tmps.getD 2 undef = .pointer (some ⟨s + 1, 0, none⟩) := by rw [e8, put_ne _ _ _ _ (by decide)]; exact h2
      replace h3 : a8.tmps.getD 3 undef = .pointer (some ⟨c, 0, none⟩) := by rw [e8, put_ne _ _ _ _ (by decide)]; exact h3
      replace t10 : a8.tmps.getD 10 undef = .pointer (some ⟨s, 5, none⟩) := by rw [e8, put_ne _ _ _ _ (by decide)]; exact t10
      replace t11 : a8.tmps.getD 11 undef = .slice ea n ec := by rw [e8, put_ne _ _ _ _ (by decide)]; exact t11
      replace t16 : a8.tmps.getD 16 undef = .pointer (some ⟨s, 5, none⟩) := by rw [e8, put_ne _ _ _ _ (by decide)]; exact t16
      replace t17 : a8.tmps.getD 17 undef = .slice ea n ec := by rw [e8, put_ne _ _ _ _ (by decide)]; exact t17
      replace t18 : a8.tmps.getD 18 undef = .int .i64 (n : Int) := by rw [e8, put_ne _ _ _ _ (by decide)]; exact t18
      replace t13 : a8.tmps.getD 13 undef = .agg e77.c := by rw [e8, put_ne _ _ _ _ (by decide)]; exact t13
      replace t9 : a8.tmps.getD 9 undef = .slice (some ⟨g9, 0, none⟩) 0 0 := by rw [e8, put_ne _ _ _ _ (by decide)]; exact t9
      have t14 : a8.tmps.getD 14 undef = .slice (some ⟨g5, 0, none⟩) 1 1 := by rw [e8]; exact put_same _ _ _ (by omega)
      clear e8 z7
      refine wpAnyH_ready (rs := [3]) (by kernel_rfl) (by simp) ?_
      refine AllReadyH.cons (o := { dst := some 12, op := Op.call { callee := Callee.builtin Builtin.append, args := #[Operand.tmp 9, Operand.tmp 11], argTypes := #[23, 23] }, type := 23, pos := "law.go:17", after := #[{ on := 0, ground := Ground.data }, { on := 2, ground := Ground.data }], guard := none }) rfl (fun K hK => ?_) AllReadyH.nil
      rw [if_pos (by rfl)]
      obtain ⟨v3, x3, hr3, own3, gr3, g3, cap3, hv3⟩ := run_appE2 x5 g9 23 (.slice (some ⟨g9, 0, none⟩) 0 0) [] ea E n ec hn own9 HE.out (ELX _ bw5) ⟨g9, 0, rfl⟩ (by simp; omega) (by omega)
      rw [List.nil_append] at own3 hv3
      rw [hn] at hv3
      subst hv3
      refine oper_app (.tmp 9) (.tmp 11) rfl _ _ _ _ t9 t11 hr3 ?_
      have bw3 : Below w.heap.size w x3 := bw5.grown gr3 bw5.size (fun k hk => by cases hk; exact hg9w)
      replace el5 : El x3 (some ⟨g5, 0, none⟩) [e77] := el_grown el5 gr3 l5 n59
      clear hr3 gr3 own9
      refine hK.out _ _ (SX _ bw3) (fun hHeld => ?_)
      clear hK K
      obtain ⟨a9, e9⟩ : ∃ act, act = a8.put (some 12) (.slice (some ⟨g3, 0, none⟩) n cap3) := ⟨_, rfl⟩
      rw [← e9]
      have z9 : a9.tmps.size = 22 := by rw [e9, put_size]; exact z8
      have df9 : Hid (a9.defers = a.defers) := by show _ = _; rw [e9]; exact df8.out
      replace h1 : a9.tmps.getD 1 undef = .pointer (some ⟨s, 0, none⟩) := by rw [e9, put_ne _ _ _ _ (by decide)]; exact h1
      replace h2 : a9.tmps.getD 2 undef = .pointer (some ⟨s + 1, 0, none⟩) := by rw [e9, put_ne _ _ _ _ (by decide)]; exact h2
      replace h3 : a9.tmps.getD 3 undef = .pointer (some ⟨c, 0, none⟩) := by rw [e9, put_ne _ _ _ _ (by decide)]; exact h3
      replace t10 : a9.tmps.getD 10 undef = .pointer (some ⟨s, 5, none⟩) := by rw [e9, put_ne _ _ _ _ (by decide)]; exact t10
      replace t11 : a9.tmps.getD 11 undef = .slice ea n ec := by rw [e9, put_ne _ _ _ _ (by decide)]; exact t11
      replace t16 : a9.tmps.getD 16 undef = .pointer (some ⟨s, 5, none⟩) := by rw [e9, put_ne _ _ _ _ (by decide)]; exact t16
      replace t17 : a9.tmps.getD 17 undef = .slice ea n ec := by rw [e9, put_ne _ _ _ _ (by decide)]; exact t17
      replace t18 : a9.tmps.getD 18 undef = .int .i64 (n : Int) := by rw [e9, put_ne _ _ _ _ (by decide)]; exact t18
      replace t13 : a9.tmps.getD 13 undef = .agg e77.c := by rw [e9, put_ne _ _ _ _ (by decide)]; exact t13
      replace t9 : a9.tmps.getD 9 undef = .slice (some ⟨g9, 0, none⟩) 0 0 := by rw [e9, put_ne _ _ _ _ (by decide)]; exact t9
      replace t14 : a9.tmps.getD 14 undef = .slice (some ⟨g5, 0, none⟩) 1 1 := by rw [e9, put_ne _ _ _ _ (by decide)]; exact t14
      have t12 : a9.tmps.getD 12 undef = .slice (some ⟨g3, 0, none⟩) n cap3 := by rw [e9]; exact put_same _ _ _ (by omega)
      clear e9 z8
      refine wpAnyH_ready (rs := [6]) (by kernel_rfl) (by simp) ?_
      refine AllReadyH.cons (o := { dst := some 15, op := Op.call { callee := Callee.builtin Builtin.append, args := #[Operand.tmp 12, Operand.tmp 14], argTypes := #[23, 23] }, type := 23, pos := "law.go:17", after := #[{ on := 3, ground := Ground.data }, { on := 5, ground := Ground.data }, { on := 3, ground := Ground.chain }], guard := none }) rfl (fun K hK => ?_) AllReadyH.nil
      rw [if_pos (by rfl)]
      have g3b := World.ownsRow.lt own3.2 g3 rfl
      obtain ⟨v6, x6, hr6, own6, gr6, g6, cap6, hv6⟩ := run_appE2 x3 g9 23 (.slice (some ⟨g3, 0, none⟩) n cap3) E (some ⟨g5, 0, none⟩) [e77] 1 1 rfl own3 all77 el5 ⟨g3, cap3, by rw [hn]⟩ (by simp; omega) (by omega)
      have hlen6 : (E ++ [e77]).length = n + 1 := by rw [List.length_append, hn]; rfl
      rw [hlen6] at hv6
      subst hv6
      refine oper_app (.tmp 12) (.tmp 14) rfl _ _ _ _ t12 t14 hr6 ?_
      have bw6 : Below w.heap.size w x6 := bw3.grown gr6 bw3.size (fun k hk => by cases hk; show w.heap.size ≤ g3; omega)
      clear hr6 gr6 own3 el5
      refine hK.out _ _ (SX _ bw6) (fun hHeld => ?_)
      clear hK K
      change wpAnyH _ _ _ _ _ _ _ (a9.put (some 15) (.slice (some ⟨g6, 0, none⟩) (n + 1) cap6)) _
      obtain ⟨a10, e10⟩ : ∃ act, act = a9.put (some 15) (.slice (some ⟨g6, 0, none⟩) (n + 1) cap6) := ⟨_, rfl⟩
      rw [← e10]
      have z10 : a10.tmps.size = 22 := by rw [e10, put_size]; exact z9
      have df10 : Hid (a10.defers = a.defers) := by show _ = _; rw [e10]; exact df9.out
      replace h1 : a10.tmps.getD 1 undef = .pointer (some ⟨s, 0, none⟩) := by rw [e10, put_ne _ _ _ _ (by decide)]; exact h1
      replace h2 : a10.tmps.getD 2 undef = .pointer (some ⟨s + 1, 0, none⟩) := by rw [e10, put_ne _ _ _ _ (by decide)]; exact h2
      replace h3 : a10.tmps.getD 3 undef = .pointer (some ⟨c, 0, none⟩) := by rw [e10, put_ne _ _ _ _ (by decide)]; exact h3
      replace t10 : a10.tmps.getD 10 undef = .pointer (some ⟨s, 5, none⟩) := by rw [e10, put_ne _ _ _ _ (by decide)]; exact t10
      replace t11 : a10.tmps.getD 11 undef = .slice ea n ec := by rw [e10, put_ne _ _ _ _ (by decide)]; exact t11
      replace t16 : a10.tmps.getD 16 undef = .pointer (some ⟨s, 5, none⟩) := by rw [e10, put_ne _ _ _ _ (by decide)]; exact t16
      replace t17 : a10.tmps.getD 17 undef = .slice ea n ec := by rw [e10, put_ne _ _ _ _ (by decide)]; exact t17
      replace t18 : a10.tmps.getD 18 undef = .int .i64 (n : Int) := by rw [e10, put_ne _ _ _ _ (by decide)]; exact t18
      replace t13 : a10.tmps.getD 13 undef = .agg e77.c := by rw [e10, put_ne _ _ _ _ (by decide)]; exact t13
      replace t9 : a10.tmps.getD 9 undef = .slice (some ⟨g9, 0, none⟩) 0 0 := by rw [e10, put_ne _ _ _ _ (by decide)]; exact t9
      replace t14 : a10.tmps.getD 14 undef = .slice (some ⟨g5, 0, none⟩) 1 1 := by rw [e10, put_ne _ _ _ _ (by decide)]; exact t14
      replace t12 : a10.tmps.getD 12 undef = .slice (some ⟨g3, 0, none⟩) n cap3 := by rw [e10, put_ne _ _ _ _ (by decide)]; exact t12
      have t15 : a10.tmps.getD 15 undef = .slice (some ⟨g6, 0, none⟩) (n + 1) cap6 := by rw [e10]; exact put_same _ _ _ (by omega)
      clear e10 z9
      have hcap : n + 1 ≤ cap6 := by
        obtain ⟨_, ⟨e, _⟩ | ⟨g', cap', cur, e, _, _, hnc, _⟩⟩ := own6.2
        · cases e
        · simp only [Value.slice.injEq] at e
          rw [hlen6] at hnc
          omega
      have hcI : (n : Int) ≤ (cap6 : Int) := by omega
      refine wpAnyH_take (i := 10) (oi := { dst := some 19, op := Op.slice 23 (Operand.tmp 15) none (some (Operand.tmp 18)) none, type := 23, pos := "law.go:17", after := #[{ on := 6, ground := Ground.data }, { on := 9, ground := Ground.data }], guard := none }) (v := .slice (some ⟨g6, 0, none⟩) n cap6) rfl (by kernel_rfl) (by kernel_rfl) (by kernel_rfl) (fun _ _ _ h => h) (Or.inl ⟨by rfl, fun w1 hw => by go_simp⟩) hHeld ?_
      obtain ⟨a11, e11⟩ : ∃ act, act = a10.put (some 19) (.slice (some ⟨g6, 0, none⟩) n cap6) := ⟨_, rfl⟩
      rw [← e11]
      have z11 : a11.tmps.size = 22 := by rw [e11, put_size]; exact z10
      have df11 : Hid (a11.defers = a.defers) := by show _ = _; rw [e11]; exact df10.out
      replace h1 : a11.tmps.getD 1 undef = .pointer (some ⟨s, 0, none⟩) := by rw [e11, put_ne _ _ _ _ (by decide)]; exact h1
      replace h2 : a11.tmps.getD 2 undef = .pointer (some ⟨s + 1, 0, none⟩) := by rw [e11, put_ne _ _ _ _ (by decide)]; exact h2
      replace h3 : a11.tmps.getD 3 undef = .pointer (some ⟨c, 0, none⟩) := by rw [e11, put_ne _ _ _ _ (by decide)]; exact h3
      replace t10 : a11.tmps.getD 10 undef = .pointer (some ⟨s, 5, none⟩) := by rw [e11, put_ne _ _ _ _ (by decide)]; exact t10
      replace t11 : a11.tmps.getD 11 undef = .slice ea n ec := by rw [e11, put_ne _ _ _ _ (by decide)]; exact t11
      replace t16 : a11.tmps.getD 16 undef = .pointer (some ⟨s, 5, none⟩) := by rw [e11, put_ne _ _ _ _ (by decide)]; exact t16
      replace t17 : a11.tmps.getD 17 undef = .slice ea n ec := by rw [e11, put_ne _ _ _ _ (by decide)]; exact t17
      replace t18 : a11.tmps.getD 18 undef = .int .i64 (n : Int) := by rw [e11, put_ne _ _ _ _ (by decide)]; exact t18
      replace t13 : a11.tmps.getD 13 undef = .agg e77.c := by rw [e11, put_ne _ _ _ _ (by decide)]; exact t13
      replace t9 : a11.tmps.getD 9 undef = .slice (some ⟨g9, 0, none⟩) 0 0 := by rw [e11, put_ne _ _ _ _ (by decide)]; exact t9
      replace t14 : a11.tmps.getD 14 undef = .slice (some ⟨g5, 0, none⟩) 1 1 := by rw [e11, put_ne _ _ _ _ (by decide)]; exact t14
      replace t12 : a11.tmps.getD 12 undef = .slice (some ⟨g3, 0, none⟩) n cap3 := by rw [e11, put_ne _ _ _ _ (by decide)]; exact t12
      replace t15 : a11.tmps.getD 15 undef = .slice (some ⟨g6, 0, none⟩) (n + 1) cap6 := by rw [e11, put_ne _ _ _ _ (by decide)]; exact t15
      have t19 : a11.tmps.getD 19 undef = .slice (some ⟨g6, 0, none⟩) n cap6 := by rw [e11]; exact put_same _ _ _ (by omega)
      clear e11 z10
      refine wpAnyH_take (i := 11) (oi := { dst := some 20, op := Op.fieldAddr 25 (Operand.tmp 3) 5, type := 0, pos := "law.go:17", after := #[{ on := 0, ground := Ground.phase }, { on := 1, ground := Ground.phase }, { on := 2, ground := Ground.phase }, { on := 3, ground := Ground.phase }, { on := 4, ground := Ground.phase }, { on := 5, ground := Ground.phase }, { on := 6, ground := Ground.phase }, { on := 7, ground := Ground.phase }, { on := 8, ground := Ground.phase }, { on := 9, ground := Ground.phase }, { on := 10, ground := Ground.phase }], guard := none }) (v := .pointer (some ⟨c, 5, none⟩)) rfl (by kernel_rfl) (by kernel_rfl) (by kernel_rfl) (fun _ _ _ h => h) (Or.inl ⟨by rfl, fun w1 hw => by go_simp⟩) hHeld ?_
      obtain ⟨a12, e12⟩ : ∃ act, act = a11.put (some 20) (.pointer (some ⟨c, 5, none⟩)) := ⟨_, rfl⟩
      rw [← e12]
      have z12 : a12.tmps.size = 22 := by rw [e12, put_size]; exact z11
      have df12 : Hid (a12.defers = a.defers) := by show _ = _; rw [e12]; exact df11.out
      replace h1 : a12.tmps.getD 1 undef = .pointer (some ⟨s, 0, none⟩) := by rw [e12, put_ne _ _ _ _ (by decide)]; exact h1
      replace h2 : a12.tmps.getD 2 undef = .pointer (some ⟨s + 1, 0, none⟩) := by rw [e12, put_ne _ _ _ _ (by decide)]; exact h2
      replace h3 : a12.tmps.getD 3 undef = .pointer (some ⟨c, 0, none⟩) := by rw [e12, put_ne _ _ _ _ (by decide)]; exact h3
      replace t10 : a12.tmps.getD 10 undef = .pointer (some ⟨s, 5, none⟩) := by rw [e12, put_ne _ _ _ _ (by decide)]; exact t10
      replace t11 : a12.tmps.getD 11 undef = .slice ea n ec := by rw [e12, put_ne _ _ _ _ (by decide)]; exact t11
      replace t16 : a12.tmps.getD 16 undef = .pointer (some ⟨s, 5, none⟩) := by rw [e12, put_ne _ _ _ _ (by decide)]; exact t16
      replace t17 : a12.tmps.getD 17 undef = .slice ea n ec := by rw [e12, put_ne _ _ _ _ (by decide)]; exact t17
      replace t18 : a12.tmps.getD 18 undef = .int .i64 (n : Int) := by rw [e12, put_ne _ _ _ _ (by decide)]; exact t18
      replace t13 : a12.tmps.getD 13 undef = .agg e77.c := by rw [e12, put_ne _ _ _ _ (by decide)]; exact t13
      replace t9 : a12.tmps.getD 9 undef = .slice (some ⟨g9, 0, none⟩) 0 0 := by rw [e12, put_ne _ _ _ _ (by decide)]; exact t9
      replace t14 : a12.tmps.getD 14 undef = .slice (some ⟨g5, 0, none⟩) 1 1 := by rw [e12, put_ne _ _ _ _ (by decide)]; exact t14
      replace t12 : a12.tmps.getD 12 undef = .slice (some ⟨g3, 0, none⟩) n cap3 := by rw [e12, put_ne _ _ _ _ (by decide)]; exact t12
      replace t15 : a12.tmps.getD 15 undef = .slice (some ⟨g6, 0, none⟩) (n + 1) cap6 := by rw [e12, put_ne _ _ _ _ (by decide)]; exact t15
      replace t19 : a12.tmps.getD 19 undef = .slice (some ⟨g6, 0, none⟩) n cap6 := by rw [e12, put_ne _ _ _ _ (by decide)]; exact t19
      have t20 : a12.tmps.getD 20 undef = .pointer (some ⟨c, 5, none⟩) := by rw [e12]; exact put_same _ _ _ (by omega)
      clear e12 z11
      have hc6 := (bw6.block c hcw).trans hcb
      obtain ⟨p0, p1, p2, p3, p4, p5⟩ := cells6 hc6
      have f5 := frozen_of_row x6 c 5 _ _ hc6
      refine wpAnyH_ready (rs := [12]) (by kernel_rfl) (by simp) ?_
      refine AllReadyH.cons (o := { dst := none, op := Op.store 23 (Operand.tmp 20) (Operand.tmp 19), type := 0, pos := "law.go:17", after := #[{ on := 11, ground := Ground.data }, { on := 10, ground := Ground.data }, { on := 6, ground := Ground.chain }, { on := 0, ground := Ground.phase }, { on := 1, ground := Ground.phase }, { on := 2, ground := Ground.phase }, { on := 3, ground := Ground.phase }, { on := 4, ground := Ground.phase }, { on := 5, ground := Ground.phase }, { on := 6, ground := Ground.phase }, { on := 7, ground := Ground.phase }, { on := 8, ground := Ground.phase }, { on := 9, ground := Ground.phase }, { on := 10, ground := Ground.phase }], guard := none }) rfl (fun K hK => ?_) AllReadyH.nil
      rw [if_pos (by rfl)]
      go_simp
      have S12 : Below s w0 (x6.setCell ⟨c, 5, none⟩ (.slice (some ⟨g6, 0, none⟩) n cap6)) ∧ (x6.setCell ⟨c, 5, none⟩ (.slice (some ⟨g6, 0, none⟩) n cap6)).heap[s]? = some (.cells #[b0, b1, b2, b3, b4, .slice ea n ec] 25 (0, 0)) := ⟨(SX _ bw6).1.setCell (p := ⟨c, 5, none⟩) (by show s ≤ c; omega) _, (Below.heap_setCell _ _ _ _ (by show s ≠ c; omega)).trans (SX _ bw6).2⟩
      refine hK.out _ _ S12 (fun hHeld => ?_)
      refine wpAnyH_done (by kernel_rfl) (NoPanic.normal (h _ _ g6 cap6 z12 df12.out h2 h3 S12.1 (heap_setCell_same _ c 5 _ 25 _ hc6) (fun k hk hkc => (Below.heap_setCell _ _ _ _ hkc).trans (bw6.block k hk)) ?_)) _
      have g6w := (World.ownsRow.lt own6.2 g6 rfl).1
      exact (own6.keep fun g hg => Below.heap_setCell _ _ _ _ (by cases hg; show g6 ≠ c; omega)).weak hg9w
  · rw [if_pos (by rfl)]
    refine oper_bs1 (.tmp 13) rfl e77.c t13 (EdV.size e77_ok) ?_
    have byw5 : Below x0.heap.size x0 (x0.alloc (.cells e77.c 39)) := (Below.refl _ _).alloc (Nat.le_refl _) _
    have bw5 : Below w.heap.size w (x0.alloc (.cells e77.c 39)) := bw.trans (byw5.mono bw.size)
    have el5 := el77 x0
    have hb5 : x0.heap.size < (x0.alloc (.cells e77.c 39)).heap.size := by simp
    obtain ⟨g5, hg5⟩ : ∃ g5, g5 = x0.heap.size := ⟨_, rfl⟩
    rw [← hg5] at el5 ⊢
    have l5 : g5 < (x0.alloc (.cells e77.c 39)).heap.size := by rw [hg5]; exact hb5
    clear hg5 hb5 byw5
    generalize (x0.alloc (.cells e77.c 39)) = x5 at *
    refine hK.out _ _ (SX _ bw5) (fun hHeld => ?_)
    clear hK K
    obtain ⟨a7, e7⟩ : ∃ act, act = a6.put (some 14) (.slice (some ⟨g5, 0, none⟩) 1 1) := ⟨_, rfl⟩
    rw [← e7]
    have z7 : a7.tmps.size = 22 := by rw [e7, put_size]; exact z6
    have df7 : Hid (a7.defers = a.defers) := by show _ = _; rw [e7]; exact df6.out
    replace h1 : a7.tmps.getD 1 undef = .pointer (some ⟨s, 0, none⟩) := by rw [e7, put_ne _ _ _ _ (by decide)]; exact h1
    replace h2 : a7.tmps.getD 2 undef = .pointer (some ⟨s + 1, 0, none⟩) := by rw [e7, put_ne _ _ _ _ (by decide)]; exact h2
    replace h3 : a7.tmps.getD 3 undef = .pointer (some ⟨c, 0, none⟩) := by rw [e7, put_ne _ _ _ _ (by decide)]; exact h3
    replace t10 : a7.tmps.getD 10 undef = .pointer (some ⟨s, 5, none⟩) := by rw [e7, put_ne _ _ _ _ (by decide)]; exact t10
    replace t11 : a7.tmps.getD 11 undef = .slice ea n ec := by rw [e7, put_ne _ _ _ _ (by decide)]; exact t11
    replace t16 : a7.tmps.getD 16 undef = .pointer (some ⟨s, 5, none⟩) := by rw [e7, put_ne _ _ _ _ (by decide)]; exact t16
    replace t17 : a7.tmps.getD 17 undef = .slice ea n ec := by rw [e7, put_ne _ _ _ _ (by decide)]; exact t17
    replace t18 : a7.tmps.getD 18 undef = .int .i64 (n : Int) := by rw [e7, put_ne _ _ _ _ (by decide)]; exact t18
    replace t13 : a7.tmps.getD 13 undef = .agg e77.c := by rw [e7, put_ne _ _ _ _ (by decide)]; exact t13
    have t14 : a7.tmps.getD 14 undef = .slice (some ⟨g5, 0, none⟩) 1 1 := by rw [e7]; exact put_same _ _ _ (by omega)
    clear e7 z6
    refine wpAnyH_ready (rs := [0]) (by kernel_rfl) (by simp) ?_
    refine AllReadyH.cons (o := { dst := some 9, op := Op.buildSlice 23 0 #[], type := 23, pos := "law.go:17", after := #[], guard := none }) rfl (fun K hK => ?_) AllReadyH.nil
    rw [if_pos (by rfl)]
    go_simp
    have byw0 : Below x5.heap.size x5 (x5.alloc (.cells #[] 39)) := (Below.refl _ _).alloc (Nat.le_refl _) _
    have bw0 : Below w.heap.size w (x5.alloc (.cells #[] 39)) := bw5.trans (byw0.mono bw5.size)
    have own9 := own0 x5
    have hb9 : x5.heap.size < (x5.alloc (.cells #[] 39)).heap.size := by simp
    replace el5 := el5.below all77 byw0
    obtain ⟨g9, hg9⟩ : ∃ g9, g9 = x5.heap.size := ⟨_, rfl⟩
    rw [← hg9] at own9 ⊢
    have l9 : g9 < (x5.alloc (.cells #[] 39)).heap.size := by rw [hg9]; exact hb9
    have hg9w : w.heap.size ≤ g9 := by rw [hg9]; exact bw5.size
    have n59 : g5 ≠ g9 := by rw [hg9]; omega
    replace l5 : g5 < (x5.alloc (.cells #[] 39)).heap.size := by omega
    clear hg9 hb9 byw0
    generalize (x5.alloc (.cells #[] 39)) = x1 at *
    refine hK.out _ _ (SX _ bw0) (fun hHeld => ?_)
    clear hK K
    change wpAnyH _ _ _ _ _ _ _ (a7.put (some 9) (.slice (some ⟨g9, 0, none⟩) 0 0)) _
    obtain ⟨a8, e8⟩ : ∃ act, act = a7.put (some 9) (.slice (some ⟨g9, 0, none⟩) 0 0) := ⟨_, rfl⟩
    rw [← e8]
    have z8 : a8.tmps.size = 22 := by rw [e8, put_size]; exact z7
    have df8 : Hid (a8.defers = a.defers) := by show _ = _; rw [e8]; exact df7.out
    replace h1 : a8.tmps.getD 1 undef = .pointer (some ⟨s, 0, none⟩) := by rw [e8, put_ne _ _ _ _ (by decide)]; exact h1
    replace h2 : a8.tmps.getD 2 undef = .pointer (some ⟨s + 1, 0, none⟩) := by rw [e8, put_ne _ _ _ _ (by decide)]; exact h2
    replace h3 : a8.tmps.getD 3 undef = .pointer (some ⟨c, 0, none⟩) := by rw [e8, put_ne _ _ _ _ (by decide)]; exact h3
    replace t10 : a8.tmps.getD 10 undef = .pointer (some ⟨s, 5, none⟩) := by rw [e8, put_ne _ _ _ _ (by decide)]; exact t10
    replace t11 : a8.tmps.getD 11 undef = .slice ea n ec := by rw [e8, put_ne _ _ _ _ (by decide)]; exact t11
    replace t16 : a8.tmps.getD 16 undef = .pointer (some ⟨s, 5, none⟩) := by rw [e8, put_ne _ _ _ _ (by decide)]; exact t16
    replace t17 : a8.tmps.getD 17 undef = .slice ea n ec := by rw [e8, put_ne _ _ _ _ (by decide)]; exact t17
    replace t18 : a8.tmps.getD 18 undef = .int .i64 (n : Int) := by rw [e8, put_ne _ _ _ _ (by decide)]; exact t18
    replace t13 : a8.tmps.getD 13 undef = .agg e77.c := by rw [e8, put_ne _ _ _ _ (by decide)]; exact t13
    replace t14 : a8.tmps.getD 14 undef = .slice (some ⟨g5, 0, none⟩) 1 1 := by rw [e8, put_ne _ _ _ _ (by decide)]; exact t14
    have t9 : a8.tmps.getD 9 undef = .slice (some ⟨g9, 0, none⟩) 0 0 := by rw [e8]; exact put_same _ _ _ (by omega)
    clear e8 z7
    refine wpAnyH_ready (rs := [3]) (by kernel_rfl) (by simp) ?_
    refine AllReadyH.cons (o := { dst := some 12, op := Op.call { callee := Callee.builtin Builtin.append, args := #[Operand.tmp 9, Operand.tmp 11], argTypes := #[23, 23] }, type := 23, pos := "law.go:17", after := #[{ on := 0, ground := Ground.data }, { on := 2, ground := Ground.data }], guard := none }) rfl (fun K hK => ?_) AllReadyH.nil
    rw [if_pos (by rfl)]
    obtain ⟨v3, x3, hr3, own3, gr3, g3, cap3, hv3⟩ := run_appE2 x1 g9 23 (.slice (some ⟨g9, 0, none⟩) 0 0) [] ea E n ec hn own9 HE.out (ELX _ bw0) ⟨g9, 0, rfl⟩ (by simp; omega) (by omega)
    rw [List.nil_append] at own3 hv3
    rw [hn] at hv3
    subst hv3
    refine oper_app (.tmp 9) (.tmp 11) rfl _ _ _ _ t9 t11 hr3 ?_
    have bw3 : Below w.heap.size w x3 := bw0.grown gr3 bw0.size (fun k hk => by cases hk; exact hg9w)
    replace el5 : El x3 (some ⟨g5, 0, none⟩) [e77] := el_grown el5 gr3 l5 n59
    clear hr3 gr3 own9
    refine hK.out _ _ (SX _ bw3) (fun hHeld => ?_)
    clear hK K
    obtain ⟨a9, e9⟩ : ∃ act, act = a8.put (some 12) (.slice (some ⟨g3, 0, none⟩) n cap3) := ⟨_, rfl⟩
    rw [← e9]
    have z9 : a9.tmps.size = 22 := by rw [e9, put_size]; exact z8
    have df9 : Hid (a9.defers = a.defers) := by show _ = _; rw [e9]; exact df8.out
    replace h1 : a9.tmps.getD 1 undef = .pointer (some ⟨s, 0, none⟩) := by rw [e9, put_ne _ _ _ _ (by decide)]; exact h1
    replace h2 : a9.tmps.getD 2 undef = .pointer (some ⟨s + 1, 0, none⟩) := by rw [e9, put_ne _ _ _ _ (by decide)]; exact h2
    replace h3 : a9.tmps.getD 3 undef = .pointer (some ⟨c, 0, none⟩) := by rw [e9, put_ne _ _ _ _ (by decide)]; exact h3
    replace t10 : a9.tmps.getD 10 undef = .pointer (some ⟨s, 5, none⟩) := by rw [e9, put_ne _ _ _ _ (by decide)]; exact t10
    replace t11 : a9.tmps.getD 11 undef = .slice ea n ec := by rw [e9, put_ne _ _ _ _ (by decide)]; exact t11
    replace t16 : a9.tmps.getD 16 undef = .pointer (some ⟨s, 5, none⟩) := by rw [e9, put_ne _ _ _ _ (by decide)]; exact t16
    replace t17 : a9.tmps.getD 17 undef = .slice ea n ec := by rw [e9, put_ne _ _ _ _ (by decide)]; exact t17
    replace t18 : a9.tmps.getD 18 undef = .int .i64 (n : Int) := by rw [e9, put_ne _ _ _ _ (by decide)]; exact t18
    replace t13 : a9.tmps.getD 13 undef = .agg e77.c := by rw [e9, put_ne _ _ _ _ (by decide)]; exact t13
    replace t14 : a9.tmps.getD 14 undef = .slice (some ⟨g5, 0, none⟩) 1 1 := by rw [e9, put_ne _ _ _ _ (by decide)]; exact t14
    replace t9 : a9.tmps.getD 9 undef = .slice (some ⟨g9, 0, none⟩) 0 0 := by rw [e9, put_ne _ _ _ _ (by decide)]; exact t9
    have t12 : a9.tmps.getD 12 undef = .slice (some ⟨g3, 0, none⟩) n cap3 := by rw [e9]; exact put_same _ _ _ (by omega)
    clear e9 z8
    refine wpAnyH_ready (rs := [6]) (by kernel_rfl) (by simp) ?_
    refine AllReadyH.cons (o := { dst := some 15, op := Op.call { callee := Callee.builtin Builtin.append, args := #[Operand.tmp 12, Operand.tmp 14], argTypes := #[23, 23] }, type := 23, pos := "law.go:17", after := #[{ on := 3, ground := Ground.data }, { on := 5, ground := Ground.data }, { on := 3, ground := Ground.chain }], guard := none }) rfl (fun K hK => ?_) AllReadyH.nil
    rw [if_pos (by rfl)]
    have g3b := World.ownsRow.lt own3.2 g3 rfl
    obtain ⟨v6, x6, hr6, own6, gr6, g6, cap6, hv6⟩ := run_appE2 x3 g9 23 (.slice (some ⟨g3, 0, none⟩) n cap3) E (some ⟨g5, 0, none⟩) [e77] 1 1 rfl own3 all77 el5 ⟨g3, cap3, by rw [hn]⟩ (by simp; omega) (by omega)
    have hlen6 : (E ++ [e77]).length = n + 1 := by rw [List.length_append, hn]; rfl
    rw [hlen6] at hv6
    subst hv6
    refine oper_app (.tmp 12) (.tmp 14) rfl _ _ _ _ t12 t14 hr6 ?_
    have bw6 : Below w.heap.size w x6 := bw3.grown gr6 bw3.size (fun k hk => by cases hk; show w.heap.size ≤ g3; omega)
    clear hr6 gr6 own3 el5
    refine hK.out _ _ (SX _ bw6) (fun hHeld => ?_)
    clear hK K
    change wpAnyH _ _ _ _ _ _ _ (a9.put (some 15) (.slice (some ⟨g6, 0, none⟩) (n + 1) cap6)) _
    obtain ⟨a10, e10⟩ : ∃ act, act = a9.put (some 15) (.slice (some ⟨g6, 0, none⟩) (n + 1) cap6) := ⟨_, rfl⟩
    rw [← e10]
    have z10 : a10.tmps.size = 22 := by rw [e10, put_size]; exact z9
    have df10 : Hid (a10.defers = a.defers) := by show _ = _; rw [e10]; exact df9.out
    replace h1 : a10.tmps.getD 1 undef = .pointer (some ⟨s, 0, none⟩) := by rw [e10, put_ne _ _ _ _ (by decide)]; exact h1
    replace h2 : a10.tmps.getD 2 undef = .pointer (some ⟨s + 1, 0, none⟩) := by rw [e10, put_ne _ _ _ _ (by decide)]; exact h2
    replace h3 : a10.tmps.getD 3 undef = .pointer (some ⟨c, 0, none⟩) := by rw [e10, put_ne _ _ _ _ (by decide)]; exact h3
    replace t10 : a10.tmps.getD 10 undef = .pointer (some ⟨s, 5, none⟩) := by rw [e10, put_ne _ _ _ _ (by decide)]; exact t10
    replace t11 : a10.tmps.getD 11 undef = .slice ea n ec := by rw [e10, put_ne _ _ _ _ (by decide)]; exact t11
    replace t16 : a10.tmps.getD 16 undef = .pointer (some ⟨s, 5, none⟩) := by rw [e10, put_ne _ _ _ _ (by decide)]; exact t16
    replace t17 : a10.tmps.getD 17 undef = .slice ea n ec := by rw [e10, put_ne _ _ _ _ (by decide)]; exact t17
    replace t18 : a10.tmps.getD 18 undef = .int .i64 (n : Int) := by rw [e10, put_ne _ _ _ _ (by decide)]; exact t18
    replace t13 : a10.tmps.getD 13 undef = .agg e77.c := by rw [e10, put_ne _ _ _ _ (by decide)]; exact t13
    replace t14 : a10.tmps.getD 14 undef = .slice (some ⟨g5, 0, none⟩) 1 1 := by rw [e10, put_ne _ _ _ _ (by decide)]; exact t14
    replace t9 : a10.tmps.getD 9 undef = .slice (some ⟨g9, 0, none⟩) 0 0 := by rw [e10, put_ne _ _ _ _ (by decide)]; exact t9
    replace t12 : a10.tmps.getD 12 undef = .slice (some ⟨g3, 0, none⟩) n cap3 := by rw [e10, put_ne _ _ _ _ (by decide)]; exact t12
    have t15 : a10.tmps.getD 15 undef = .slice (some ⟨g6, 0, none⟩) (n + 1) cap6 := by rw [e10]; exact put_same _ _ _ (by omega)
    clear e10 z9
    have hcap : n + 1 ≤ cap6 := by
      obtain ⟨_, ⟨e, _⟩ | ⟨g', cap', cur, e, _, _, hnc, _⟩⟩ := own6.2
      · cases e
      · simp only [Value.slice.injEq] at e
        rw [hlen6] at hnc
        omega
    have hcI : (n : Int) ≤ (cap6 : Int) := by omega
    refine wpAnyH_take (i := 10) (oi := { dst := some 19, op := Op.slice 23 (Operand.tmp 15) none (some (Operand.tmp 18)) none, type := 23, pos := "law.go:17", after := #[{ on := 6, ground := Ground.data }, { on := 9, ground := Ground.data }], guard := none }) (v := .slice (some ⟨g6, 0, none⟩) n cap6) rfl (by kernel_rfl) (by kernel_rfl) (by kernel_rfl) (fun _ _ _ h => h) (Or.inl ⟨by rfl, fun w1 hw => by go_simp⟩) hHeld ?_
    obtain ⟨a11, e11⟩ : ∃ act, act = a10.put (some 19) (.slice (some ⟨g6, 0, none⟩) n cap6) := ⟨_, rfl⟩
    rw [← e11]
    have z11 : a11.tmps.size = 22 := by rw [e11, put_size]; exact z10
    have df11 : Hid (a11.defers = a.defers) := by show _ = _; rw [e11]; exact df10.out
    replace h1 : a11.tmps.getD 1 undef = .pointer (some ⟨s, 0, none⟩) := by rw [e11, put_ne _ _ _ _ (by decide)]; exact h1
    replace h2 : a11.tmps.getD 2 undef = .pointer (some ⟨s + 1, 0, none⟩) := by rw [e11, put_ne _ _ _ _ (by decide)]; exact h2
    replace h3 : a11.tmps.getD 3 undef = .pointer (some ⟨c, 0, none⟩) := by rw [e11, put_ne _ _ _ _ (by decide)]; exact h3
    replace t10 : a11.tmps.getD 10 undef = .pointer (some ⟨s, 5, none⟩) := by rw [e11, put_ne _ _ _ _ (by decide)]; exact t10
    replace t11 : a11.tmps.getD 11 undef = .slice ea n ec := by rw [e11, put_ne _ _ _ _ (by decide)]; exact t11
    replace t16 : a11.tmps.getD 16 undef = .pointer (some ⟨s, 5, none⟩) := by rw [e11, put_ne _ _ _ _ (by decide)]; exact t16
    replace t17 : a11.tmps.getD 17 undef = .slice ea n ec := by rw [e11, put_ne _ _ _ _ (by decide)]; exact t17
    replace t18 : a11.tmps.getD 18 undef = .int .i64 (n : Int) := by rw [e11, put_ne _ _ _ _ (by decide)]; exact t18
    replace t13 : a11.tmps.getD 13 undef = .agg e77.c := by rw [e11, put_ne _ _ _ _ (by decide)]; exact t13
    replace t14 : a11.tmps.getD 14 undef = .slice (some ⟨g5, 0, none⟩) 1 1 := by rw [e11, put_ne _ _ _ _ (by decide)]; exact t14
    replace t9 : a11.tmps.getD 9 undef = .slice (some ⟨g9, 0, none⟩) 0 0 := by rw [e11, put_ne _ _ _ _ (by decide)]; exact t9
    replace t12 : a11.tmps.getD 12 undef = .slice (some ⟨g3, 0, none⟩) n cap3 := by rw [e11, put_ne _ _ _ _ (by decide)]; exact t12
    replace t15 : a11.tmps.getD 15 undef = .slice (some ⟨g6, 0, none⟩) (n + 1) cap6 := by rw [e11, put_ne _ _ _ _ (by decide)]; exact t15
    have t19 : a11.tmps.getD 19 undef = .slice (some ⟨g6, 0, none⟩) n cap6 := by rw [e11]; exact put_same _ _ _ (by omega)
    clear e11 z10
    refine wpAnyH_take (i := 11) (oi := { dst := some 20, op := Op.fieldAddr 25 (Operand.tmp 3) 5, type := 0, pos := "law.go:17", after := #[{ on := 0, ground := Ground.phase }, { on := 1, ground := Ground.phase }, { on := 2, ground := Ground.phase }, { on := 3, ground := Ground.phase }, { on := 4, ground := Ground.phase }, { on := 5, ground := Ground.phase }, { on := 6, ground := Ground.phase }, { on := 7, ground := Ground.phase }, { on := 8, ground := Ground.phase }, { on := 9, ground := Ground.phase }, { on := 10, ground := Ground.phase }], guard := none }) (v := .pointer (some ⟨c, 5, none⟩)) rfl (by kernel_rfl) (by kernel_rfl) (by kernel_rfl) (fun _ _ _ h => h) (Or.inl ⟨by rfl, fun w1 hw => by go_simp⟩) hHeld ?_
    obtain ⟨a12, e12⟩ : ∃ act, act = a11.put (some 20) (.pointer (some ⟨c, 5, none⟩)) := ⟨_, rfl⟩
    rw [← e12]
    have z12 : a12.tmps.size = 22 := by rw [e12, put_size]; exact z11
    have df12 : Hid (a12.defers = a.defers) := by show _ = _; rw [e12]; exact df11.out
    replace h1 : a12.tmps.getD 1 undef = .pointer (some ⟨s, 0, none⟩) := by rw [e12, put_ne _ _ _ _ (by decide)]; exact h1
    replace h2 : a12.tmps.getD 2 undef = .pointer (some ⟨s + 1, 0, none⟩) := by rw [e12, put_ne _ _ _ _ (by decide)]; exact h2
    replace h3 : a12.tmps.getD 3 undef = .pointer (some ⟨c, 0, none⟩) := by rw [e12, put_ne _ _ _ _ (by decide)]; exact h3
    replace t10 : a12.tmps.getD 10 undef = .pointer (some ⟨s, 5, none⟩) := by rw [e12, put_ne _ _ _ _ (by decide)]; exact t10
    replace t11 : a12.tmps.getD 11 undef = .slice ea n ec := by rw [e12, put_ne _ _ _ _ (by decide)]; exact t11
    replace t16 : a12.tmps.getD 16 undef = .pointer (some ⟨s, 5, none⟩) := by rw [e12, put_ne _ _ _ _ (by decide)]; exact t16
    replace t17 : a12.tmps.getD 17 undef = .slice ea n ec := by rw [e12, put_ne _ _ _ _ (by decide)]; exact t17
    replace t18 : a12.tmps.getD 18 undef = .int .i64 (n : Int) := by rw [e12, put_ne _ _ _ _ (by decide)]; exact t18
    replace t13 : a12.tmps.getD 13 undef = .agg e77.c := by rw [e12, put_ne _ _ _ _ (by decide)]; exact t13
    replace t14 : a12.tmps.getD 14 undef = .slice (some ⟨g5, 0, none⟩) 1 1 := by rw [e12, put_ne _ _ _ _ (by decide)]; exact t14
    replace t9 : a12.tmps.getD 9 undef = .slice (some ⟨g9, 0, none⟩) 0 0 := by rw [e12, put_ne _ _ _ _ (by decide)]; exact t9
    replace t12 : a12.tmps.getD 12 undef = .slice (some ⟨g3, 0, none⟩) n cap3 := by rw [e12, put_ne _ _ _ _ (by decide)]; exact t12
    replace t15 : a12.tmps.getD 15 undef = .slice (some ⟨g6, 0, none⟩) (n + 1) cap6 := by rw [e12, put_ne _ _ _ _ (by decide)]; exact t15
    replace t19 : a12.tmps.getD 19 undef = .slice (some ⟨g6, 0, none⟩) n cap6 := by rw [e12, put_ne _ _ _ _ (by decide)]; exact t19
    have t20 : a12.tmps.getD 20 undef = .pointer (some ⟨c, 5, none⟩) := by rw [e12]; exact put_same _ _ _ (by omega)
    clear e12 z11
    have hc6 := (bw6.block c hcw).trans hcb
    obtain ⟨p0, p1, p2, p3, p4, p5⟩ := cells6 hc6
    have f5 := frozen_of_row x6 c 5 _ _ hc6
    refine wpAnyH_ready (rs := [12]) (by kernel_rfl) (by simp) ?_
    refine AllReadyH.cons (o := { dst := none, op := Op.store 23 (Operand.tmp 20) (Operand.tmp 19), type := 0, pos := "law.go:17", after := #[{ on := 11, ground := Ground.data }, { on := 10, ground := Ground.data }, { on := 6, ground := Ground.chain }, { on := 0, ground := Ground.phase }, { on := 1, ground := Ground.phase }, { on := 2, ground := Ground.phase }, { on := 3, ground := Ground.phase }, { on := 4, ground := Ground.phase }, { on := 5, ground := Ground.phase }, { on := 6, ground := Ground.phase }, { on := 7, ground := Ground.phase }, { on := 8, ground := Ground.phase }, { on := 9, ground := Ground.phase }, { on := 10, ground := Ground.phase }], guard := none }) rfl (fun K hK => ?_) AllReadyH.nil
    rw [if_pos (by rfl)]
    go_simp
    have S12 : Below s w0 (x6.setCell ⟨c, 5, none⟩ (.slice (some ⟨g6, 0, none⟩) n cap6)) ∧ (x6.setCell ⟨c, 5, none⟩ (.slice (some ⟨g6, 0, none⟩) n cap6)).heap[s]? = some (.cells #[b0, b1, b2, b3, b4, .slice ea n ec] 25 (0, 0)) := ⟨(SX _ bw6).1.setCell (p := ⟨c, 5, none⟩) (by show s ≤ c; omega) _, (Below.heap_setCell _ _ _ _ (by show s ≠ c; omega)).trans (SX _ bw6).2⟩
    refine hK.out _ _ S12 (fun hHeld => ?_)
    refine wpAnyH_done (by kernel_rfl) (NoPanic.normal (h _ _ g6 cap6 z12 df12.out h2 h3 S12.1 (heap_setCell_same _ c 5 _ 25 _ hc6) (fun k hk hkc => (Below.heap_setCell _ _ _ _ hkc).trans (bw6.block k hk)) ?_)) _
    have g6w := (World.ownsRow.lt own6.2 g6 rfl).1
    exact (own6.keep fun g hg => Below.heap_setCell _ _ _ _ (by cases hg; show g6 ≠ c; omega)).weak hg9w
end Go.Proofs.Ythfbolmfkilkjaa
