import Derived.Test.YtldlljobofnmmabDoorRgg
namespace Go.Proofs.YtldlljobofnmmabDoor
open Go.RowKit
set_option linter.unusedVariables false
set_option linter.unusedSimpArgs false

/-- A Regs' maps, and a place in a box. -/
structure RS (rb mb kb pb : Nat) (p : PlK) (W : World) : Prop where
  c0 : W.cell? ⟨rb, 0, none⟩ = some (.map (some mb))
  c1 : W.cell? ⟨rb, 1, none⟩ = some (.map (some kb))
  pl : W.rangeAt pb 0 p.c
section
variable {rb mb kb pb : Nat} {p : PlK} {W : World}
theorem RS.l0 (h : RS rb mb kb pb p W) : (Instr.loadAt 66 (.pointer (some ⟨rb, 0 + 0, none⟩))).run Tryd.prog W = .ok (.map (some mb)) W := by
  have := h.c0
  go_simp
theorem RS.l1 (h : RS rb mb kb pb p W) : (Instr.loadAt 67 (.pointer (some ⟨rb, 0 + 1, none⟩))).run Tryd.prog W = .ok (.map (some kb)) W := by
  have := h.c1
  go_simp
theorem RS.lp (h : RS rb mb kb pb p W) (hp : p.ok) : (Instr.loadAt 34 (.pointer (some ⟨pb, 0, none⟩))).run Tryd.prog W = .ok p.v W := ld_pl hp h.pl
theorem RS.lo (h : RS rb mb kb pb p W) (hp : p.ok) : (Instr.loadAt 32 (.pointer (some ⟨pb, 0 + 0, none⟩))).run Tryd.prog W = .ok p.o.v W := pl_o hp h.pl
theorem RS.lk (h : RS rb mb kb pb p W) (hp : p.ok) : (Instr.loadAt 9 (.pointer (some ⟨pb, 0 + 33, none⟩))).run Tryd.prog W = .ok (.string p.k) W := pl_k hp h.pl
theorem RS.la (h : RS rb mb kb pb p W) (hp : p.ok) : (Instr.loadAt 32 (.pointer (some ⟨pb, 0 + 34, none⟩))).run Tryd.prog W = .ok p.a.v W := pl_a hp h.pl
end
theorem RS.drew {rb mb kb pb : Nat} {p : PlK} {W : World} (h : RS rb mb kb pb p W) : RS rb mb kb pb p W.drew := ⟨h.c0, h.c1, h.pl⟩
theorem RS.keep {rb mb kb pb : Nat} {p : PlK} {W W' : World} (h : RS rb mb kb pb p W) (h1 : W'.heap[rb]? = W.heap[rb]?) (h2 : W'.heap[pb]? = W.heap[pb]?) : RS rb mb kb pb p W' := ⟨(World.cell?_of_block (a := ⟨rb, 0, none⟩) h1).trans h.c0, (World.cell?_of_block (a := ⟨rb, 1, none⟩) h1).trans h.c1, rangeAt_keep h.pl h2⟩
theorem mk_map (t : TypeId) (w : World) : (Instr.makeMap t none).run Tryd.prog w = .ok (.map (some w.heap.size)) (w.alloc (.map #[] 0)) := by
  simp only [Instr.makeMap, newObj, Sem.run_bind, Sem.run_pure, Result.andThen_ok]
  rfl
theorem build_id (w : World) : (Instr.build 32 #[]).run Tryd.prog w = .ok zId.v w := by kernel_rfl
theorem build_un (w : World) : (Instr.build 98 #[]).run Tryd.prog w = .ok (.agg #[]) w := by kernel_rfl
theorem guard_idR (x y : Operand) (a b : IdK) (w : World) (op : BinOp) : (eqGuard op 32 x y a.v b.v).run Tryd.prog w = .ok () w := by
  unfold eqGuard
  cases op <;> simp [IdK.v]
theorem eql_idR (a b : IdK) (ha : a.ok) (hb : b.ok) (w : World) : (binOp .eql 32 a.v b.v).run Tryd.prog w = .ok (.bool (decide (a = b))) w := by
  have h := eqId 9997 a b ha hb w
  have : (Op.equal 32 a.v b.v).run Tryd.prog w = .ok (decide (a = b)) w := h
  unfold IdK.v at *
  simp only [binOp]
  simp [this]
theorem neq_idR (a b : IdK) (ha : a.ok) (hb : b.ok) (w : World) : (binOp .neq 32 a.v b.v).run Tryd.prog w = .ok (.bool (decide (a ≠ b))) w := by
  have h := eqId 9997 a b ha hb w
  have : (Op.equal 32 a.v b.v).run Tryd.prog w = .ok (decide (a = b)) w := h
  unfold IdK.v at *
  simp only [binOp]
  simp [this]
section
variable {w : World} {a : Act} {o : Oper}
theorem ex_neqI {x y : Operand} {p q : IdK} {r : Bool} (ho : o.op = .binOp .neq 32 x y 32) (hx : a.eval x = p.v) (hy : a.eval y = q.v) (hp : p.ok) (hq : q.ok) (hr : decide (p ≠ q) = r) : (execOp a.eval o).run Tryd.prog w = .ok (.value (.bool r)) w := by
  subst hr
  exact exec_binOp ho hx hy (guard_idR _ _ _ _ _ _) (neq_idR p q hp hq w)
theorem ex_eqlI {x y : Operand} {p q : IdK} {r : Bool} (ho : o.op = .binOp .eql 32 x y 32) (hx : a.eval x = p.v) (hy : a.eval y = q.v) (hp : p.ok) (hq : q.ok) (hr : decide (p = q) = r) : (execOp a.eval o).run Tryd.prog w = .ok (.value (.bool r)) w := by
  subst hr
  exact exec_binOp ho hx hy (guard_idR _ _ _ _ _ _) (eql_idR p q hp hq w)
theorem guard_im (x y : Operand) (p q : Option Nat) (w : World) (op : BinOp) : (eqGuard op 97 x y (.map p) (.map q)).run Tryd.prog w = .ok () w := by
  unfold eqGuard
  cases op <;> simp
theorem eqm0 (w : World) : (binOp .eql 97 (.map none) (.map none)).run Tryd.prog w = .ok (.bool true) w := by kernel_rfl
theorem eqm1 (b : Nat) (w : World) : (binOp .eql 97 (.map (some b)) (.map none)).run Tryd.prog w = .ok (.bool false) w := by kernel_rfl
theorem ex_eqm {x y : Operand} {m : Option Nat} {r : Bool} (ho : o.op = .binOp .eql 97 x y 97) (hx : a.eval x = .map m) (hy : a.eval y = .map none) (hr : m.isNone = r) : (execOp a.eval o).run Tryd.prog w = .ok (.value (.bool r)) w := by
  subst hr
  cases m with
  | none => exact exec_binOp ho hx hy (guard_im _ _ _ _ _ _) (eqm0 w)
  | some b => exact exec_binOp ho hx hy (guard_im _ _ _ _ _ _) (eqm1 b w)
theorem ex_eq0 {x y : Operand} {n : Nat} {r : Bool} (ho : o.op = .binOp .eql 3 x y 3) (hx : a.eval x = .int .i64 (n : Int)) (hy : a.eval y = .int .i64 0) (hr : decide (n = 0) = r) : (execOp a.eval o).run Tryd.prog w = .ok (.value (.bool r)) w := by
  refine exec_binOp ho hx hy ?_ ?_
  · kernel_rfl
  · subst hr
    go_simp
    first | rfl | (congr 2; rw [Bool.eq_iff_iff]; simp)
theorem exec_bbk {x y : Operand} {u v : Value} (ho : o.op = .build 81 #[(0, x), (1, y)]) (hx : a.eval x = u) (hy : a.eval y = v) (hl : (Instr.build 81 #[(0, u), (1, v)]).run Tryd.prog w = .ok (.agg #[u, v]) w) : (execOp a.eval o).run Tryd.prog w = .ok (.value (.agg #[u, v])) w := exec_build ho (by simp [hx, hy]) hl
theorem exec_boxE {P : Program} {w w2 : World} {a : Act} {o : Oper} {t : TypeId} {x : Operand} {v u : Value} (ho : o.op = .box t x) (hx : a.eval x = v) (hl : (Instr.box t v).run P w = .ok u w2) : (execOp a.eval o).run P w = .ok (.value u) w2 := by
  unfold execOp; simp only [ho, hx, Sem.run_bind, hl, Sem.run_pure, Result.andThen_ok]
end
theorem build_bk (p : Option Addr) (F : Nat) (c : Array Value) (w : World) : (Instr.build 81 #[(0, .pointer p), (1, .func (.func F) #[] c)]).run Tryd.prog w = .ok (.agg #[.pointer p, .func (.func F) #[] c]) w := by kernel_rfl
theorem run_box {P : Program} (t : TypeId) (v : Value) (w : World) : (Instr.box t v).run P w = .ok (.pointer (some ⟨w.heap.size, 0, none⟩)) (w.alloc (.cells v.cells t)) := by
  simp only [Instr.box, newVar, newRow, newObj, Sem.run_bind, Sem.run_pure, Result.andThen_ok]
  rfl
end Go.Proofs.YtldlljobofnmmabDoor
