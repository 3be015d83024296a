import Derived.Test.YtoofljkgdjjllaaTb
import Derived.Deep.Cut
namespace Go.Proofs.Ytoofljkgdjjllaa
open Go.RowKit
set_option linter.unusedVariables false
set_option linter.unusedSimpArgs false

/-- Worlds that differ, of old blocks, in those of O alone. -/
structure Tch (O : Nat → Prop) (w w' : World) : Prop where
  os : w'.os = w.os
  tape : w'.tape = w.tape
  output : w'.output = w.output
  size : w.heap.size ≤ w'.heap.size
  block : ∀ k, k < w.heap.size → ¬ O k → w'.heap[k]? = w.heap[k]?
theorem Tch.refl (O : Nat → Prop) (w : World) : Tch O w w := ⟨rfl, rfl, rfl, Nat.le_refl _, fun _ _ _ => rfl⟩
theorem Tch.trans {O : Nat → Prop} {a b c : World} (h : Tch O a b) (k : Tch O b c) : Tch O a c :=
  ⟨k.os.trans h.os, k.tape.trans h.tape, k.output.trans h.output, Nat.le_trans h.size k.size, fun i hi ho => (k.block i (Nat.lt_of_lt_of_le hi h.size) ho).trans (h.block i hi ho)⟩
theorem Tch.trans' {O O' : Nat → Prop} {a b c : World} (h : Tch O a b) (k : Tch O' b c) (ho : ∀ i, i < a.heap.size → O' i → O i) : Tch O a c :=
  ⟨k.os.trans h.os, k.tape.trans h.tape, k.output.trans h.output, Nat.le_trans h.size k.size, fun i hi hn => (k.block i (Nat.lt_of_lt_of_le hi h.size) (fun q => hn (ho i hi q))).trans (h.block i hi hn)⟩
theorem Tch.of_below {B : Nat} {O : Nat → Prop} {w w' : World} (h : Below B w w') (ho : ∀ k, k < w.heap.size → B ≤ k → O k) : Tch O w w' :=
  ⟨h.os, h.tape, h.output, h.size, fun k hk hn => h.block k (Nat.lt_of_not_le (fun q => hn (ho k hk q)))⟩
theorem Tch.below {O : Nat → Prop} {w w' : World} (h : Tch O w w') {B : Nat} (hB : B ≤ w.heap.size) (ho : ∀ k, O k → B ≤ k) : Below B w w' :=
  ⟨h.os, h.tape, h.output, h.size, fun k hk => h.block k (by omega) (fun q => by have := ho k q; omega)⟩
theorem Tch.mono {O O' : Nat → Prop} {w w' : World} (h : Tch O w w') (ho : ∀ k, k < w.heap.size → O k → O' k) : Tch O' w w' :=
  ⟨h.os, h.tape, h.output, h.size, fun k hk hn => h.block k hk (fun q => hn (ho k hk q))⟩
theorem Tch.drew {O : Nat → Prop} {a w : World} (h : Tch O a w) : Tch O a w.drew := ⟨h.os, h.tape, h.output, h.size, h.block⟩
theorem Tch.alloc {O : Nat → Prop} {a w : World} (h : Tch O a w) (o : Obj) : Tch O a (w.alloc o) :=
  h.trans ⟨rfl, rfl, rfl, by simp, fun k hk _ => Below.heap_alloc _ _ _ hk⟩
theorem Tch.setM {O : Nat → Prop} {a w : World} (h : Tch O a w) {b : Nat} (hb : a.heap.size ≤ b ∨ O b) (o : Obj) : Tch O a (M.setM w b o) :=
  ⟨h.os, h.tape, h.output, by rw [M.setM_size]; exact h.size, fun k hk hn => by
    rw [M.setM_other o (fun e => by subst e; rcases hb with q | q; · omega
                                    · exact hn q)]
    exact h.block k hk hn⟩
/-- An Id's cells in a block of their own. -/
def IdAt (w : World) (b : Nat) (k : IdK) : Prop := w.heap[b]? = some (.cells k.c.toArray 37 (0, 0))
theorem cells_range {w : World} {b : Nat} {cs : List Value} {t : TypeId} {z : Nat × Nat} (h : w.heap[b]? = some (.cells cs.toArray t z)) : w.rangeAt b 0 cs := fun j v hv => by
  rw [Nat.zero_add, cell_of_row _ _ j _ _ _ h]
  simpa using hv
theorem load_id {w : World} {b : Nat} {k : IdK} (hk : k.ok) (h : IdAt w b k) : (Instr.loadAt 37 (.pointer (some ⟨b, 0, none⟩))).run Try.prog w = .ok k.v w :=
  run_loadAt_mid (P := Try.prog) w b 0 37 k.c _ (cells_range h) Try.underlying37 rfl (by rw [IdK.len hk]; exact szId)
/-- A node's cells in a block of their own. -/
def NodeAt (w : World) (b : Nat) (n : NodeV) : Prop := w.heap[b]? = some (.cells n.c.toArray 94 (0, 0))
theorem load_node {w : World} {b : Nat} {n : NodeV} (hn : n.u.ok) (h : NodeAt w b n) : (Instr.loadAt 94 (.pointer (some ⟨b, 0, none⟩))).run Try.prog w = .ok n.v w :=
  run_loadAt_mid (P := Try.prog) w b 0 94 n.c _ (cells_range h) Try.underlying94 rfl (by rw [NodeV.len hn]; exact szNode)
theorem load_under {w : World} {b : Nat} {n : NodeV} (hn : n.u.ok) (h : NodeAt w b n) : (Instr.loadAt 37 (.pointer (some ⟨b, 0, none⟩))).run Try.prog w = .ok n.u.v w := by
  refine run_loadAt_mid (P := Try.prog) w b 0 37 n.u.c _ (fun j v hv => ?_) Try.underlying37 rfl (by rw [IdK.len hn]; exact szId)
  refine cells_range h j v ?_
  rw [NodeV.c, List.getElem?_append_left (List.getElem?_eq_some_iff.1 hv).1]
  exact hv
theorem cell_pr {w : World} {b : Nat} {n : NodeV} (hn : n.u.ok) (h : NodeAt w b n) : w.cell? ⟨b, 34, none⟩ = some (.bool n.pr) := by
  rw [cell_of_row _ _ 34 _ _ _ h]
  have := IdK.len hn
  simp [NodeV.c, List.getElem?_append, this]
/-- What one finds. -/
theorem look_node (bn : Nat) (N : List (IdK × NodeV)) (w : World) (k : IdK) (hk : k.ok) (h : M.MapAt w bn IdK.v IdK.ok (entN N)) :
    (Instr.lookup 79 (.map (some bn)) k.v true).run Try.prog w = .ok (.tuple #[((lookN N k).getD zNode).v, .bool (lookN N k).isSome]) w := by
  rw [M.run_look idKey Try.underlying79 h k hk (zeroNode w) true, M.has_look, look_entN, if_pos rfl]
  cases lookN N k <;> rfl
theorem find_ok {N : List (IdK × NodeV)} (hN : ∀ p ∈ N, p.2.u.ok) (k : IdK) : ((lookN N k).getD zNode).u.ok := by
  cases h : lookN N k with
  | none => exact zId_ok
  | some n => exact hN (k, n) (M.look_mem h)
/-- A node made and laid down: alloc and store. -/
theorem node_new (w : World) (n : NodeV) (hn : n.u.ok) : ∃ w1 w2, (Instr.alloc 94 true (.tuple #[])).run Try.prog w = .ok (.pointer (some ⟨w.heap.size, 0, none⟩)) w1 ∧ (Instr.storeAt 94 (.pointer (some ⟨w.heap.size, 0, none⟩)) n.v).run Try.prog w1 = .ok () w2 ∧
    Below w.heap.size w w1 ∧ Below w.heap.size w w2 ∧ NodeAt w2 w.heap.size n ∧ w2.heap.size = w.heap.size + 1 := by
  have e1 : (Instr.alloc 94 true (.tuple #[])).run Try.prog w = .ok (.pointer (some ⟨w.heap.size, 0, none⟩)) (w.alloc (.cells zNode.c.toArray 94)) := by
    simp only [Instr.alloc, newVar, newRow, newObj, Sem.run_bind, zeroNode, Result.andThen_ok, NodeV.v, Value.cells]
    rfl
  have e2 := run_storeVar_row (P := Try.prog) (w.alloc (.cells zNode.c.toArray 94)) w.heap.size 94 94 zNode.c.toArray n.c.toArray (heap_alloc_new _ _) (by rw [List.size_toArray, NodeV.len hn]; exact szNode)
    (by rw [List.size_toArray, List.size_toArray, NodeV.len hn, NodeV.len zId_ok]) (by rw [List.all_toArray, List.all_eq_true]; exact n.one)
  rw [World.setRow_alloc_new] at e2
  refine ⟨_, w.alloc (.cells n.c.toArray 94), e1, ?_, (Below.refl _ _).alloc (Nat.le_refl _) _, ?_, ?_, ?_⟩
  · simp only [Instr.storeAt, Instr.sureAddr, Sem.run_bind, Sem.run_pure, Result.andThen_ok, NodeV.v, e2]
  · exact (Below.refl _ _).alloc (Nat.le_refl _) _
  · exact heap_alloc_new _ _
  · simp
theorem load_nodes {w : World} {b o : Nat} {v : Value} (h : w.cell? ⟨b, o, none⟩ = some v) : (Instr.loadAt 79 (.pointer (some ⟨b, o, none⟩))).run Try.prog w = .ok v w := by go_simp
theorem load_rows {w : World} {b o : Nat} {v : Value} (h : w.cell? ⟨b, o, none⟩ = some v) : (Instr.loadAt 80 (.pointer (some ⟨b, o, none⟩))).run Try.prog w = .ok v w := by go_simp
set_option maxRecDepth 100000 in
set_option maxHeartbeats 1000000 in
theorem has_any (t bn : Nat) (k : IdK) (N : List (IdK × NodeV)) (w : World) (hk : k.ok) (hc : w.cell? ⟨t, 0, none⟩ = some (.map (some bn))) (hm : M.MapAt w bn IdK.v IdK.ok (entN N)) (hN : ∀ p ∈ N, p.2.u.ok) :
    Calls Try.prog 44 #[.pointer (some ⟨t, 0, none⟩), k.v] w fun e w' => e = .returned (.bool (lookN N k).isSome) ∧ Below w.heap.size w w' := by
  have lt := block_lt_of_cell hc
  unfold IdK.v
  go_enter Try.func44, Try.ntmps44
  go_wp2
  rename_i Q1 K1 aK
  have hx : IdAt (w.alloc (.cells k.c.toArray 37)) w.heap.size k := heap_alloc_new _ _
  have bx : Below w.heap.size w (w.alloc (.cells k.c.toArray 37)) := (Below.refl _ _).alloc (Nat.le_refl _) _
  have zx : (w.alloc (.cells k.c.toArray 37)).heap.size = w.heap.size + 1 := by simp
  generalize w.alloc (.cells k.c.toArray 37) = W at *
  have hn : ((lookN N k).getD zNode).u.ok := find_ok hN k
  obtain ⟨w1, w2, e1, e2, b1, b2, _, _⟩ := node_new W.drew _ hn
  replace b1 : Below W.heap.size W w1 := (Below.refl _ _).drew.trans b1
  replace b2 : Below W.heap.size W w2 := (Below.refl _ _).drew.trans b2
  refine has1 t w.heap.size W.heap.size (.map (some bn)) k.v ((lookN N k).getD zNode).v (lookN N k).isSome w1 w2 (fun wx => Below W.heap.size W wx) _ W _ rfl rfl rfl ?_ ?_ ?_ ?_ e1 ?_ e2 ?_ ?_
  · exact (Below.refl _ _).drew
  · intro wx hw
    exact load_nodes ((hw.cell (by show t < _; omega)).trans ((bx.cell lt).trans hc))
  · intro wx hw
    exact load_id hk ((hw.block _ (by omega)).trans hx)
  · intro wx hw
    exact look_node bn N wx k hk (hm.below ((hw.block _ (by have := hm.lt; omega)).trans (bx.block _ hm.lt)))
  · exact b1
  · exact b2
  · intro a' ha
    subst ha
    refine aK _ _ ?_
    clear aK
    have b3 : Below w.heap.size w w2 := bx.trans (Below.mono b2 (by omega))
    simp only [Act.put, List.setIfInBounds_toArray, List.set_cons_zero, List.set_cons_succ]
    go_wp2
    go_ret
    exact ⟨rfl, b3⟩
theorem wpList_val {P : Program} {ops : Array Oper} {rest : List Oper} {o : Oper} {a : Act} {w : World} {Q : Exit → Act → World → Prop} {v : Value} (hw : Region.wanted o (yielded ops a.tmps) = true) (hr : (execOp a.eval o).run P w = .ok (.value v) w) (h : wpList P ops Q rest (a.put o.dst v) w) : wpList P ops Q (o :: rest) a w :=
  wpList_step fun K hK => by
    rw [if_pos hw]
    unfold Oper.wp
    rw [hr]
    exact hK _ _ h
theorem build_id (w : World) : (Instr.build 37 #[]).run Try.prog w = .ok zId.v w := by kernel_rfl
theorem guard_id (x y : Operand) (a b : IdK) (w : World) (op : BinOp) : (eqGuard op 37 x y a.v b.v).run Try.prog w = .ok () w := by
  have h : Try.prog.eqGuardType Try.prog.depth 37 = false := by kernel_rfl
  have hp : ∀ w : World, (program).run Try.prog w = .ok Try.prog w := fun w => rfl
  unfold eqGuard IdK.v
  cases op <;> simp [h, hp, Result.andThen]
theorem eql_id (a b : IdK) (ha : a.ok) (hb : b.ok) (w : World) : (binOp .eql 37 a.v b.v).run Try.prog w = .ok (.bool (decide (a = b))) w := by
  have h : (Op.equalIn Op.maxDepth 37 a.v b.v).run Try.prog w = .ok (decide (a = b)) w := eqId 9997 a b ha hb w
  unfold IdK.v at h ⊢
  simp [binOp, Op.equal, h, Result.andThen]
theorem neq_id (a b : IdK) (ha : a.ok) (hb : b.ok) (w : World) : (binOp .neq 37 a.v b.v).run Try.prog w = .ok (.bool (!decide (a = b))) w := by
  have h : (Op.equalIn Op.maxDepth 37 a.v b.v).run Try.prog w = .ok (decide (a = b)) w := eqId 9997 a b ha hb w
  unfold IdK.v at h ⊢
  simp [binOp, Op.equal, h, Result.andThen]
set_option maxRecDepth 100000 in
set_option maxHeartbeats 1000000 in
theorem bears_any (t bn : Nat) (k : IdK) (N : List (IdK × NodeV)) (w : World) (hk : k.ok) (hc : w.cell? ⟨t, 0, none⟩ = some (.map (some bn))) (hm : M.MapAt w bn IdK.v IdK.ok (entN N)) (hN : ∀ p ∈ N, p.2.u.ok) :
    Calls Try.prog 45 #[.pointer (some ⟨t, 0, none⟩), k.v] w fun e w' => e = .returned (.bool (decide (k = zId) || (lookN N k).isSome)) ∧ Below w.heap.size w w' := by
  have lt := block_lt_of_cell hc
  unfold IdK.v
  go_enter Try.func45, Try.ntmps45
  go_upto_region 1 with fail
  have hx : IdAt (w.alloc (.cells k.c.toArray 37)) w.heap.size k := heap_alloc_new _ _
  have bx : Below w.heap.size w (w.alloc (.cells k.c.toArray 37)) := (Below.refl _ _).alloc (Nat.le_refl _) _
  have zx : (w.alloc (.cells k.c.toArray 37)).heap.size = w.heap.size + 1 := by simp
  generalize w.alloc (.cells k.c.toArray 37) = W at *
  have hx' : ∀ wx, Below W.heap.size W wx → IdAt wx w.heap.size k := fun wx h => (h.block _ (by omega)).trans hx
  cases hb : decide (k = zId) with
  | true =>
    have hq : ∀ w : World, (binOp .eql 37 k.v zId.v).run Try.prog w = .ok (.bool true) w := fun w => by rw [eql_id k zId hk zId_ok, hb]
    go_wp2_with (first
      | (refine wpList_val rfl (exec_load rfl rfl (load_id hk hx)) ?_)
      | (refine wpList_val rfl (exec_build0 rfl (build_id _)) ?_)
      | (refine wpList_val rfl (exec_binOp rfl rfl rfl (guard_id _ _ k zId _ _) (hq _)) ?_)
      | fail)
    go_ret
    exact ⟨by simp, bx⟩
  | false =>
    have hq : ∀ w : World, (binOp .eql 37 k.v zId.v).run Try.prog w = .ok (.bool false) w := fun w => by rw [eql_id k zId hk zId_ok, hb]
    have hh := has_any t bn k N W hk ((bx.cell lt).trans hc) (hm.below (bx.block _ hm.lt)) hN
    go_wp2_with (first
      | (refine wpList_val rfl (exec_load rfl rfl (load_id hk hx)) ?_)
      | (refine wpList_val rfl (exec_build0 rfl (build_id _)) ?_)
      | (refine wpList_val rfl (exec_binOp rfl rfl rfl (guard_id _ _ k zId _ _) (hq _)) ?_)
      | (go_at_call 44; refine hh.mono ?_; rintro e w' ⟨rfl, b'⟩)
      | fail)
    go_ret
    exact ⟨by simp [of_decide_eq_false hb], bx.trans (b'.mono (by omega))⟩
end Go.Proofs.Ytoofljkgdjjllaa
