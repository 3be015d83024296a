import Derived.Test.YtoofljkgdjjllaaMb
import Derived.Deep.RegionHeld3
import Derived.Deep.MidRow
import Derived.Laws.Tables
namespace Go.Proofs.Ytoofljkgdjjllaa
open Go.RowKit
set_option linter.unusedVariables false
set_option linter.unusedSimpArgs false

section
variable {P : Program} {w w2 : World} {a : Act} {o : Oper}
theorem exec_move {x : Operand} {v : Value} (ho : o.op = .move x) (hp : a.eval x = v) : (execOp a.eval o).run P w = .ok (.value v) w := by
  unfold execOp; simp only [ho, hp, Sem.run_pure]
theorem exec_assign {x : Operand} {v : Value} (ho : o.op = .assign x) (hp : a.eval x = v) : (execOp a.eval o).run P w = .ok (.value v) w := by
  unfold execOp; simp only [ho, hp, Sem.run_pure]
theorem exec_nilCheck {x : Operand} {p : Addr} (ho : o.op = .nilCheck x) (hp : a.eval x = .pointer (some p)) : (execOp a.eval o).run P w = .ok (.value (.pointer (some p))) w := by
  unfold execOp; simp only [ho, hp, Sem.run_pure]
theorem exec_fieldAt {s i : Nat} {x : Operand} {u v : Value} (ho : o.op = .fieldAddr s x i) (hp : a.eval x = u) (hl : (Instr.fieldAt s u i).run P w = .ok v w) : (execOp a.eval o).run P w = .ok (.value v) w := by
  unfold execOp; simp only [ho, hp, Sem.run_bind, hl, Result.andThen_ok, Sem.run_pure]
theorem exec_load {t : TypeId} {x : Operand} {u v : Value} (ho : o.op = .load t x) (hp : a.eval x = u) (hl : (Instr.loadAt t u).run P w = .ok v w) : (execOp a.eval o).run P w = .ok (.value v) w := by
  unfold execOp; simp only [ho, hp, Sem.run_bind, hl, Result.andThen_ok, Sem.run_pure]
theorem exec_lookup {t : TypeId} {m x : Operand} {c : Bool} {mv xv v : Value} (ho : o.op = .lookup t m x c) (hm : a.eval m = mv) (hx : a.eval x = xv) (hl : (Instr.lookup t mv xv c).run P w = .ok v w) : (execOp a.eval o).run P w = .ok (.value v) w := by
  unfold execOp; simp only [ho, hm, hx, Sem.run_bind, hl, Result.andThen_ok, Sem.run_pure]
theorem exec_extract {x : Operand} {i : Nat} {vs : Array Value} {v : Value} (ho : o.op = .extract x i) (hx : a.eval x = .tuple vs) (hv : vs[i]? = some v) : (execOp a.eval o).run P w = .ok (.value v) w := by
  unfold execOp; simp only [ho, hx, Instr.extract, hv, Sem.run_bind, Result.andThen_ok, Sem.run_pure]
theorem exec_build0 {t : TypeId} {v : Value} (ho : o.op = .build t #[]) (hl : (Instr.build t #[]).run P w = .ok v w) : (execOp a.eval o).run P w = .ok (.value v) w := by
  unfold execOp; simp only [ho, List.map_toArray, List.map_nil, Sem.run_bind, hl, Result.andThen_ok, Sem.run_pure]
theorem exec_binOp {b : BinOp} {t t2 : TypeId} {x y : Operand} {xv yv v : Value} (ho : o.op = .binOp b t x y t2) (hx : a.eval x = xv) (hy : a.eval y = yv) (hg : (eqGuard b t x y xv yv).run P w = .ok () w) (hl : (binOp b t xv yv).run P w = .ok v w) : (execOp a.eval o).run P w = .ok (.value v) w := by
  unfold execOp; simp only [ho, hx, hy, Sem.run_bind, hg, hl, Result.andThen_ok, Sem.run_pure]
theorem exec_len {x : Operand} {ts : Array TypeId} {xv v : Value} (ho : o.op = .call { callee := .builtin .len, args := #[x], argTypes := ts }) (hx : a.eval x = xv) (hl : (Builtin.len_ ts o.type #[xv]).run P w = .ok v w) : (execOp a.eval o).run P w = .ok (.value v) w := by
  unfold execOp
  simp only [ho, resolve, invoke, builtin, List.map_toArray, List.map_cons, List.map_nil, hx, Sem.run_bind, Sem.run_pure, hl, Result.andThen_ok]
theorem exec_delete {x y : Operand} {ts : Array TypeId} {xv yv : Value} (ho : o.op = .call { callee := .builtin .delete, args := #[x, y], argTypes := ts }) (hx : a.eval x = xv) (hy : a.eval y = yv) (hl : (Builtin.delete_ ts o.type #[xv, yv]).run P w = .ok (.tuple #[]) w2) : (execOp a.eval o).run P w = .ok (.value (.tuple #[])) w2 := by
  unfold execOp
  simp only [ho, resolve, invoke, builtin, List.map_toArray, List.map_cons, List.map_nil, hx, hy, Sem.run_bind, Sem.run_pure, hl, Result.andThen_ok]
theorem exec_alloc {t : TypeId} {v : Value} (ho : o.op = .alloc t) (hl : (Instr.alloc t true (.tuple #[])).run P w = .ok v w2) : (execOp a.eval o).run P w = .ok (.value v) w2 := by
  unfold execOp; simp only [ho, Sem.run_bind, hl, Result.andThen_ok, Sem.run_pure]
theorem exec_makeMap {t : TypeId} {v : Value} (ho : o.op = .makeMap t none) (hl : (Instr.makeMap t none).run P w = .ok v w2) : (execOp a.eval o).run P w = .ok (.value v) w2 := by
  unfold execOp; simp only [ho, Option.map_none, Sem.run_bind, hl, Result.andThen_ok, Sem.run_pure]
theorem exec_store {t : TypeId} {x y : Operand} {xv yv : Value} (ho : o.op = .store t x y) (hx : a.eval x = xv) (hy : a.eval y = yv) (hl : (Instr.storeAt t xv yv).run P w = .ok () w2) : (execOp a.eval o).run P w = .ok .skip w2 := by
  unfold execOp; simp only [ho, hx, hy, Sem.run_bind, hl, Result.andThen_ok, Sem.run_pure]
theorem exec_mapUpdate {t : TypeId} {m x y : Operand} {mv xv yv : Value} (ho : o.op = .mapUpdate t m x y) (hm : a.eval m = mv) (hx : a.eval x = xv) (hy : a.eval y = yv) (hl : (Instr.mapUpdate t mv xv yv).run P w = .ok () w2) : (execOp a.eval o).run P w = .ok .skip w2 := by
  unfold execOp; simp only [ho, hm, hx, hy, Sem.run_bind, hl, Result.andThen_ok, Sem.run_pure]
variable {ops : Array Oper} {K : Act → World → Prop} {Q : Exit → Act → World → Prop} {E : Prop}
theorem step_run {v : Value} (hgd : o.guard = none) (he : (execOp a.eval o).run P w = .ok (.value v) w2) (h : K (a.put o.dst v) w2) : if Region.wanted o (yielded ops a.tmps) = true then Oper.wp P o a w K Q else E := by
  have hw : Region.wanted o (yielded ops a.tmps) = true := by simp [Region.wanted, hgd]
  rw [if_pos hw, Oper.wp, he]
  exact h
theorem step_none {v : Value} (hgd : o.guard = none) (hd : o.dst = none) (he : (execOp a.eval o).run P w = .ok (.value v) w2) (h : K a w2) : if Region.wanted o (yielded ops a.tmps) = true then Oper.wp P o a w K Q else E := by
  refine step_run hgd he ?_
  rw [hd]
  exact h
theorem step_skip (hgd : o.guard = none) (hd : o.dst = none) (he : (execOp a.eval o).run P w = .ok .skip w2) (h : K a w2) : if Region.wanted o (yielded ops a.tmps) = true then Oper.wp P o a w K Q else E := by
  have hw : Region.wanted o (yielded ops a.tmps) = true := by simp [Region.wanted, hgd]
  rw [if_pos hw, Oper.wp, he]
  show K (a.put o.dst undef) w2
  rw [hd]
  exact h
end
theorem put_same (a : Act) (d : Nat) (v : Value) (h : d < a.tmps.size) : (a.put (some d) v).tmps.getD d undef = v := by
  simp [Act.put, Array.getD_eq_getD_getElem?, h]
theorem put_ne (a : Act) (d e : Nat) (v : Value) (h : d ≠ e) : (a.put (some d) v).tmps.getD e undef = a.tmps.getD e undef := by
  simp [Act.put, Array.getD_eq_getD_getElem?, Array.getElem?_setIfInBounds, h]
theorem put_size (a : Act) (d : Option Nat) (v : Value) : (a.put d v).tmps.size = a.tmps.size := by
  cases d <;> simp [Act.put]
/-- A node of a tree. -/
structure NodeV where
  u : IdK
  key : ByteArray
  pr : Bool
def NodeV.c (n : NodeV) : List Value := n.u.c ++ [.string n.key, .bool n.pr]
def NodeV.v (n : NodeV) : Value := .agg n.c.toArray
def zNode : NodeV := ⟨zId, ⟨#[]⟩, false⟩
theorem NodeV.len {n : NodeV} (h : n.u.ok) : n.c.length = 35 := by simp [NodeV.c, IdK.len h]
theorem NodeV.one (n : NodeV) : ∀ v ∈ n.c, v.oneCell' = true := by
  intro v hv
  simp only [NodeV.c, List.mem_append, List.mem_cons, List.not_mem_nil, or_false] at hv
  rcases hv with h | rfl | rfl
  · exact IdK.one _ v h
  · rfl
  · rfl
theorem zeroNode (w : World) : (zeroValue 94).run Try.prog w = .ok zNode.v w := by kernel_rfl
theorem range_box (w : World) (cs : List Value) (t : TypeId) : (w.alloc (.cells cs.toArray t)).rangeAt w.heap.size 0 cs := fun j v hv => by
  rw [Nat.zero_add, cell_of_row _ _ j _ _ _ (heap_alloc_new _ _)]
  simpa using hv
theorem szId : (Try.prog.info? 37).map (·.size) = some 33 := by kernel_rfl
theorem szNode : (Try.prog.info? 94).map (·.size) = some 35 := by kernel_rfl
/-- The nodes' entries. -/
def entN (N : List (IdK × NodeV)) : List (IdK × Value) := M.onV NodeV.v N
abbrev lookN (N : List (IdK × NodeV)) (k : IdK) : Option NodeV := M.look N k
theorem look_entN (N : List (IdK × NodeV)) (k : IdK) : M.look (entN N) k = (lookN N k).map (·.v) := M.look_on _ _ _
end Go.Proofs.Ytoofljkgdjjllaa
