import Derived.Test.YtifendlpeebofaaDoorP0
import Derived.Test.YtifendlpeebofaaDoorP4
namespace Go.Proofs.YtifendlpeebofaaDoor
open Go.RowKit
set_option linter.unusedVariables false
set_option linter.unusedSimpArgs false

theorem fg_23_0 (b o : Nat) (w : World) : (Instr.fieldAt 23 (.pointer (some ⟨b, o, none⟩)) 0).run Tryd.prog w = .ok (.pointer (some ⟨b, o + 0, none⟩)) w := by go_simp
theorem fg_23_1 (b o : Nat) (w : World) : (Instr.fieldAt 23 (.pointer (some ⟨b, o, none⟩)) 1).run Tryd.prog w = .ok (.pointer (some ⟨b, o + 1, none⟩)) w := by go_simp
theorem fg_23_2 (b o : Nat) (w : World) : (Instr.fieldAt 23 (.pointer (some ⟨b, o, none⟩)) 2).run Tryd.prog w = .ok (.pointer (some ⟨b, o + 2, none⟩)) w := by go_simp
theorem fg_23_3 (b o : Nat) (w : World) : (Instr.fieldAt 23 (.pointer (some ⟨b, o, none⟩)) 3).run Tryd.prog w = .ok (.pointer (some ⟨b, o + 3, none⟩)) w := by go_simp
theorem fg_23_4 (b o : Nat) (w : World) : (Instr.fieldAt 23 (.pointer (some ⟨b, o, none⟩)) 4).run Tryd.prog w = .ok (.pointer (some ⟨b, o + 4, none⟩)) w := by go_simp
/-- The Id that has a number alone. -/
def idN (n : Int) : IdK := ⟨zId.h, n⟩
theorem build_idN (n : Int) (w : World) : (Instr.build 34 #[(1, .int .i64 n)]).run Tryd.prog w = .ok (idN n).v w := by kernel_rfl
def boldV : VaV := ⟨1, 1, 0, ⟨#[]⟩⟩
theorem build_bold (w : World) : (Instr.build 38 #[(0, .int .u8 1), (1, .int .i64 1)]).run Tryd.prog w = .ok boldV.v w := by kernel_rfl
theorem len_sp (a : Option Addr) (m c : Nat) (w : World) : (Builtin.len_ #[39] 3 #[.slice a m c]).run Tryd.prog w = .ok (.int .i64 (m : Int)) w := by go_simp
section
variable {w : World} {a : Act} {o : Oper} {x y : Operand}
theorem exec_build1 {P : Program} {t : TypeId} {v0 v : Value} (ho : o.op = .build t #[(1, x)]) (h0 : a.eval x = v0) (hl : (Instr.build t #[(1, v0)]).run P w = .ok v w) : (execOp a.eval o).run P w = .ok (.value v) w := by
  unfold execOp; simp only [ho, List.map_toArray, List.map_cons, List.map_nil, h0, Sem.run_bind, hl, Result.andThen_ok, Sem.run_pure]
theorem exec_build2 {P : Program} {t : TypeId} {v0 v1 v : Value} (ho : o.op = .build t #[(0, x), (1, y)]) (h0 : a.eval x = v0) (h1 : a.eval y = v1) (hl : (Instr.build t #[(0, v0), (1, v1)]).run P w = .ok v w) : (execOp a.eval o).run P w = .ok (.value v) w := by
  unfold execOp; simp only [ho, List.map_toArray, List.map_cons, List.map_nil, h0, h1, Sem.run_bind, hl, Result.andThen_ok, Sem.run_pure]
theorem exec_c7 {P : Program} {F : Nat} {ts : Array TypeId} {x1 x2 x3 x4 x5 x6 x7 : Operand} {v1 v2 v3 v4 v5 v6 v7 : Value} (ho : o.op = .call { callee := .value (.func F), args := #[x1, x2, x3, x4, x5, x6, x7], argTypes := ts }) (h1 : a.eval x1 = v1) (h2 : a.eval x2 = v2) (h3 : a.eval x3 = v3) (h4 : a.eval x4 = v4) (h5 : a.eval x5 = v5) (h6 : a.eval x6 = v6) (h7 : a.eval x7 = v7) (hf : (callFunc F #[v1, v2, v3, v4, v5, v6, v7]).run P w = .ok (.enter F #[v1, v2, v3, v4, v5, v6, v7]) w := by go_simp) : (execOp a.eval o).run P w = .ok (.enter F #[v1, v2, v3, v4, v5, v6, v7]) w := by
  have e0 : a.eval (.func F) = .func (.func F) #[] #[] := rfl
  unfold execOp; simp [ho, resolve, invoke, h1, h2, h3, h4, h5, h6, h7, e0, Deferred.ofValue, Result.andThen, hf]
theorem ex_rem {n r : Int} {m : Nat} (h0 : 0 < m) (hr : Int.tmod n (m : Int) = r) (ho : o.op = .binOp .rem 3 x y 3) (hx : a.eval x = .int .i64 n) (hy : a.eval y = .int .i64 (m : Int)) : (execOp a.eval o).run Tryd.prog w = .ok (.value (.int .i64 r)) w := by
  have l1 : -(m : Int) < Int.tmod n (m : Int) := by have := Int.lt_tmod_of_pos n (show (0 : Int) < (m : Int) by omega); omega
  have l2 : Int.tmod n (m : Int) < (m : Int) := Int.tmod_lt_of_pos n (by omega)
  subst hr
  refine exec_binOp ho hx hy ?_ ?_
  · kernel_rfl
  · have hne : ¬ (m = 0) := by omega
    go_simp
end
theorem ex_subE {w : World} {a : Act} {o : Oper} {x y : Operand} {p : Int} {k1 : Nat} (h : p - 1 = (k1 : Int)) (hb : (k1 : Int) ≤ 9223372036854775807) (ho : o.op = .binOp .sub 3 x y 3) (hx : a.eval x = .int .i64 p) (hy : a.eval y = .int .i64 1) : (execOp a.eval o).run Tryd.prog w = .ok (.value (.int .i64 (k1 : Int))) w := by
  rw [← h]
  exact ex_sub ho hx hy (by omega)
def lai4_o0 : Oper := { dst := some 23, op := Op.build 34 #[], type := 34, pos := "law.go:88", after := #[], guard := none }
def lai4_o1 : Oper := { dst := some 9, op := Op.alloc 34, type := 0, pos := "law.go:88", after := #[], guard := none }
def lai4_o2 : Oper := { dst := none, op := Op.store 34 (Operand.tmp 9) (Operand.tmp 23), type := 0, pos := "law.go:88", after := #[{ on := 1, ground := Ground.data }, { on := 0, ground := Ground.data }, { on := 0, ground := Ground.phase }, { on := 1, ground := Ground.phase }], guard := none }
def lai4_ops : Array Oper := #[lai4_o0, lai4_o1, lai4_o2]
set_option maxRecDepth 100000 in
set_option maxHeartbeats 4000000 in
theorem lai4 {lb : Nat} {w1 w2 : World} (a : Act) (w : World) (Q : Exit → Act → World → Prop) (zz : a.tmps.size = 79)
    (EA : (Instr.alloc 34 true (.tuple #[])).run Tryd.prog w = .ok (.pointer (some ⟨lb, 0, none⟩)) w1) (ES : (Instr.storeAt 34 (.pointer (some ⟨lb, 0, none⟩)) zId.v).run Tryd.prog w1 = .ok () w2)
    (h : ∀ (a' : Act) (w' : World), w' = w2 → a' = ((a).put (some 23) (zId.v)).put (some 9) (.pointer (some ⟨lb, 0, none⟩)) → Q .normal a' w') :
    (Code.region 4 lai4_ops false).wp Tryd.prog Q a w := by
  refine z0 rfl ?_
  refine zv rfl (exec_build0 rfl (build_id _)) ?_
  refine zv (v := .pointer (some ⟨lb, 0, none⟩)) rfl (exec_alloc rfl EA) ?_
  refine zs rfl (exec_store rfl (zg zz rfl) (zg zz rfl) ES) ?_
  exact ze rfl (h _ _ (rfl) rfl)
def lai8_o0 : Oper := { dst := some 29, op := Op.move (Operand.tmp 10), type := 3, pos := "law.go:90", after := #[], guard := none }
def lai8_o1 : Oper := { dst := some 30, op := Op.build 34 #[(1, Operand.tmp 29)], type := 34, pos := "law.go:90", after := #[{ on := 0, ground := Ground.data }], guard := none }
def lai8_o2 : Oper := { dst := some 11, op := Op.alloc 34, type := 0, pos := "law.go:90", after := #[], guard := none }
def lai8_o3 : Oper := { dst := none, op := Op.store 34 (Operand.tmp 11) (Operand.tmp 30), type := 0, pos := "law.go:90", after := #[{ on := 2, ground := Ground.data }, { on := 1, ground := Ground.data }, { on := 0, ground := Ground.phase }, { on := 1, ground := Ground.phase }, { on := 2, ground := Ground.phase }], guard := none }
def lai8_ops : Array Oper := #[lai8_o0, lai8_o1, lai8_o2, lai8_o3]
set_option maxRecDepth 100000 in
set_option maxHeartbeats 4000000 in
theorem lai8 {ib : Nat} {i : Int} {w1 w2 : World} (a : Act) (w : World) (Q : Exit → Act → World → Prop) (zz : a.tmps.size = 79)
    (t10 : a.tmps.getD 10 undef = .int .i64 i)
    (EA : (Instr.alloc 34 true (.tuple #[])).run Tryd.prog w = .ok (.pointer (some ⟨ib, 0, none⟩)) w1) (ES : (Instr.storeAt 34 (.pointer (some ⟨ib, 0, none⟩)) (idN i).v).run Tryd.prog w1 = .ok () w2)
    (h : ∀ (a' : Act) (w' : World), w' = w2 → a' = (((a).put (some 29) (.int .i64 i)).put (some 30) ((idN i).v)).put (some 11) (.pointer (some ⟨ib, 0, none⟩)) → Q .normal a' w') :
    (Code.region 8 lai8_ops false).wp Tryd.prog Q a w := by
  refine z0 rfl ?_
  refine zv rfl (exec_move rfl (zi t10 rfl)) ?_
  refine zv rfl (exec_build1 rfl (zg zz rfl) (build_idN _ _)) ?_
  refine zv (v := .pointer (some ⟨ib, 0, none⟩)) rfl (exec_alloc rfl EA) ?_
  refine zs rfl (exec_store rfl (zg zz rfl) (zg zz rfl) ES) ?_
  exact ze rfl (h _ _ (rfl) rfl)
def lai9_o0 : Oper := { dst := some 31, op := Op.move (Operand.tmp 7), type := 25, pos := "law.go:91", after := #[], guard := none }
def lai9_o1 : Oper := { dst := some 32, op := Op.load 34 (Operand.tmp 11), type := 34, pos := "law.go:91", after := #[], guard := none }
def lai9_o2 : Oper := { dst := some 33, op := Op.load 34 (Operand.tmp 9), type := 34, pos := "law.go:91", after := #[], guard := none }
def lai9_o3 : Oper := { dst := some 34, op := Op.call { callee := Callee.value (Operand.func 8), args := #[Operand.tmp 31, Operand.tmp 32, Operand.tmp 33], argTypes := #[25, 34, 34] }, type := 29, pos := "law.go:91", after := #[{ on := 0, ground := Ground.data }, { on := 1, ground := Ground.data }, { on := 2, ground := Ground.data }], guard := none }
def lai9_o4 : Oper := { dst := some 35, op := Op.binOp BinOp.neq 29 (Operand.tmp 34) (Operand.const (Value.int IntKind.i64 0)) 29, type := 4, pos := "law.go:91", after := #[{ on := 3, ground := Ground.data }], guard := none }
def lai9_ops : Array Oper := #[lai9_o0, lai9_o1, lai9_o2, lai9_o3, lai9_o4]
set_option maxRecDepth 100000 in
set_option maxHeartbeats 4000000 in
theorem lai9 {sb lb ib : Nat} {k q : IdK} {z : Int} {r : Bool} (Fin : World → Prop) (a : Act) (w : World) (Q : Exit → Act → World → Prop) (zz : a.tmps.size = 79)
    (t7 : a.tmps.getD 7 undef = .pointer (some ⟨sb, 0, none⟩))
    (t9 : a.tmps.getD 9 undef = .pointer (some ⟨lb, 0, none⟩))
    (t11 : a.tmps.getD 11 undef = .pointer (some ⟨ib, 0, none⟩))
    (hz : decide (z ≠ 0) = r) (L0 : ∀ W, W = w → (Instr.loadAt 34 (.pointer (some ⟨lb, 0, none⟩))).run Tryd.prog W = .ok (q.v) W) (L1 : ∀ W, W = w → (Instr.loadAt 34 (.pointer (some ⟨ib, 0, none⟩))).run Tryd.prog W = .ok (k.v) W) (CI : Calls Tryd.prog 8 #[.pointer (some ⟨sb, 0, none⟩), k.v, q.v] w fun e w' => e = .returned (.int .i64 z) ∧ Fin w')
    (h : ∀ (a' : Act) (w' : World), Fin w' → a' = (((((a).put (some 31) (.pointer (some ⟨sb, 0, none⟩))).put (some 32) (k.v)).put (some 33) (q.v)).put (some 34) (.int .i64 z)).put (some 35) (.bool r) → Q .normal a' w') :
    (Code.region 9 lai9_ops false).wp Tryd.prog Q a w := by
  refine z0 rfl ?_
  refine zv rfl (exec_move rfl (zi t7 rfl)) ?_
  refine zv rfl (exec_load rfl (zi t11 rfl) (L1 _ rfl)) ?_
  refine zv rfl (exec_load rfl (zi t9 rfl) (L0 _ rfl)) ?_
  refine zc rfl (exec_c3 rfl (zg zz rfl) (zg zz rfl) (zg zz rfl)) (CI) (fun e x3 hx => ?_)
  obtain ⟨rfl, HF⟩ := hx
  refine ⟨_, rfl, ?_⟩
  refine zv (v := .bool r) rfl (ex_neqE rfl (zg zz rfl) rfl hz) ?_
  exact ze rfl (h _ _ (HF) rfl)
def lai11_o0 : Oper := { dst := some 36, op := Op.load 34 (Operand.tmp 11), type := 34, pos := "law.go:94", after := #[], guard := none }
def lai11_o1 : Oper := { dst := none, op := Op.store 34 (Operand.tmp 9) (Operand.tmp 36), type := 0, pos := "law.go:94", after := #[{ on := 0, ground := Ground.data }, { on := 0, ground := Ground.phase }], guard := none }
def lai11_ops : Array Oper := #[lai11_o0, lai11_o1]
set_option maxRecDepth 100000 in
set_option maxHeartbeats 4000000 in
theorem lai11 {lb ib : Nat} {k : IdK} {w1 : World} (a : Act) (w : World) (Q : Exit → Act → World → Prop) (zz : a.tmps.size = 79)
    (t9 : a.tmps.getD 9 undef = .pointer (some ⟨lb, 0, none⟩))
    (t11 : a.tmps.getD 11 undef = .pointer (some ⟨ib, 0, none⟩))
    (L1 : ∀ W, W = w → (Instr.loadAt 34 (.pointer (some ⟨ib, 0, none⟩))).run Tryd.prog W = .ok (k.v) W) (ES : (Instr.storeAt 34 (.pointer (some ⟨lb, 0, none⟩)) k.v).run Tryd.prog w = .ok () w1)
    (h : ∀ (a' : Act) (w' : World), w' = w1 → a' = (a).put (some 36) (k.v) → Q .normal a' w') :
    (Code.region 11 lai11_ops false).wp Tryd.prog Q a w := by
  refine z0 rfl ?_
  refine zv rfl (exec_load rfl (zi t11 rfl) (L1 _ rfl)) ?_
  refine zs rfl (exec_store rfl (zi t9 rfl) (zg zz rfl) ES) ?_
  exact ze rfl (h _ _ (rfl) rfl)
def grw1_o0 : Oper := { dst := some 18, op := Op.fieldAddr 23 (Operand.tmp 1) 0, type := 0, pos := "law.go:177", after := #[], guard := none }
def grw1_o1 : Oper := { dst := some 19, op := Op.load 3 (Operand.tmp 18), type := 3, pos := "law.go:177", after := #[{ on := 0, ground := Ground.data }], guard := none }
def grw1_o2 : Oper := { dst := some 20, op := Op.fieldAddr 23 (Operand.tmp 1) 1, type := 0, pos := "law.go:177", after := #[{ on := 10, ground := Ground.gcOnly Departure.lateStores }], guard := none }
def grw1_o3 : Oper := { dst := some 21, op := Op.load 3 (Operand.tmp 20), type := 3, pos := "law.go:177", after := #[{ on := 2, ground := Ground.data }, { on := 10, ground := Ground.gcOnly Departure.lateStores }], guard := none }
def grw1_o4 : Oper := { dst := some 22, op := Op.fieldAddr 23 (Operand.tmp 1) 2, type := 0, pos := "law.go:177", after := #[{ on := 11, ground := Ground.gcOnly Departure.lateStores }], guard := none }
def grw1_o5 : Oper := { dst := some 23, op := Op.load 3 (Operand.tmp 22), type := 3, pos := "law.go:177", after := #[{ on := 4, ground := Ground.data }, { on := 11, ground := Ground.gcOnly Departure.lateStores }], guard := none }
def grw1_o6 : Oper := { dst := some 24, op := Op.fieldAddr 23 (Operand.tmp 1) 3, type := 0, pos := "law.go:177", after := #[{ on := 12, ground := Ground.gcOnly Departure.lateStores }], guard := none }
def grw1_o7 : Oper := { dst := some 25, op := Op.load 3 (Operand.tmp 24), type := 3, pos := "law.go:177", after := #[{ on := 6, ground := Ground.data }, { on := 12, ground := Ground.gcOnly Departure.lateStores }], guard := none }
def grw1_o8 : Oper := { dst := some 26, op := Op.fieldAddr 23 (Operand.tmp 1) 4, type := 0, pos := "law.go:177", after := #[{ on := 13, ground := Ground.gcOnly Departure.lateStores }], guard := none }
def grw1_o9 : Oper := { dst := some 27, op := Op.load 3 (Operand.tmp 26), type := 3, pos := "law.go:177", after := #[{ on := 8, ground := Ground.data }, { on := 13, ground := Ground.gcOnly Departure.lateStores }], guard := none }
def grw1_o10 : Oper := { dst := some 3, op := Op.assign (Operand.tmp 19), type := 3, pos := "law.go:177", after := #[{ on := 1, ground := Ground.data }, { on := 0, ground := Ground.phase }, { on := 1, ground := Ground.phase }, { on := 2, ground := Ground.textOnly Departure.lateStores }, { on := 3, ground := Ground.textOnly Departure.lateStores }, { on := 4, ground := Ground.textOnly Departure.lateStores }, { on := 5, ground := Ground.textOnly Departure.lateStores }, { on := 6, ground := Ground.textOnly Departure.lateStores }, { on := 7, ground := Ground.textOnly Departure.lateStores }, { on := 8, ground := Ground.textOnly Departure.lateStores }, { on := 9, ground := Ground.textOnly Departure.lateStores }], guard := none }
def grw1_o11 : Oper := { dst := some 4, op := Op.assign (Operand.tmp 21), type := 3, pos := "law.go:177", after := #[{ on := 3, ground := Ground.data }, { on := 10, ground := Ground.chain }, { on := 0, ground := Ground.phase }, { on := 1, ground := Ground.phase }, { on := 2, ground := Ground.phase }, { on := 3, ground := Ground.phase }, { on := 4, ground := Ground.textOnly Departure.lateStores }, { on := 5, ground := Ground.textOnly Departure.lateStores }, { on := 6, ground := Ground.textOnly Departure.lateStores }, { on := 7, ground := Ground.textOnly Departure.lateStores }, { on := 8, ground := Ground.textOnly Departure.lateStores }, { on := 9, ground := Ground.textOnly Departure.lateStores }, { on := 10, ground := Ground.phase }], guard := none }
def grw1_o12 : Oper := { dst := some 5, op := Op.assign (Operand.tmp 23), type := 3, pos := "law.go:177", after := #[{ on := 5, ground := Ground.data }, { on := 11, ground := Ground.chain }, { on := 0, ground := Ground.phase }, { on := 1, ground := Ground.phase }, { on := 2, ground := Ground.phase }, { on := 3, ground := Ground.phase }, { on := 4, ground := Ground.phase }, { on := 5, ground := Ground.phase }, { on := 6, ground := Ground.textOnly Departure.lateStores }, { on := 7, ground := Ground.textOnly Departure.lateStores }, { on := 8, ground := Ground.textOnly Departure.lateStores }, { on := 9, ground := Ground.textOnly Departure.lateStores }, { on := 10, ground := Ground.phase }, { on := 11, ground := Ground.phase }], guard := none }
def grw1_o13 : Oper := { dst := some 6, op := Op.assign (Operand.tmp 25), type := 3, pos := "law.go:177", after := #[{ on := 7, ground := Ground.data }, { on := 12, ground := Ground.chain }, { on := 0, ground := Ground.phase }, { on := 1, ground := Ground.phase }, { on := 2, ground := Ground.phase }, { on := 3, ground := Ground.phase }, { on := 4, ground := Ground.phase }, { on := 5, ground := Ground.phase }, { on := 6, ground := Ground.phase }, { on := 7, ground := Ground.phase }, { on := 8, ground := Ground.textOnly Departure.lateStores }, { on := 9, ground := Ground.textOnly Departure.lateStores }, { on := 10, ground := Ground.phase }, { on := 11, ground := Ground.phase }, { on := 12, ground := Ground.phase }], guard := none }
def grw1_o14 : Oper := { dst := some 7, op := Op.assign (Operand.tmp 27), type := 3, pos := "law.go:177", after := #[{ on := 9, ground := Ground.data }, { on := 13, ground := Ground.chain }, { on := 0, ground := Ground.phase }, { on := 1, ground := Ground.phase }, { on := 2, ground := Ground.phase }, { on := 3, ground := Ground.phase }, { on := 4, ground := Ground.phase }, { on := 5, ground := Ground.phase }, { on := 6, ground := Ground.phase }, { on := 7, ground := Ground.phase }, { on := 8, ground := Ground.phase }, { on := 9, ground := Ground.phase }, { on := 10, ground := Ground.phase }, { on := 11, ground := Ground.phase }, { on := 12, ground := Ground.phase }, { on := 13, ground := Ground.phase }], guard := none }
def grw1_ops : Array Oper := #[grw1_o0, grw1_o1, grw1_o2, grw1_o3, grw1_o4, grw1_o5, grw1_o6, grw1_o7, grw1_o8, grw1_o9, grw1_o10, grw1_o11, grw1_o12, grw1_o13, grw1_o14]
set_option maxRecDepth 100000 in
set_option maxHeartbeats 4000000 in
theorem grw1 {fb : Nat} {f0 f1 f2 f3 f4 : Int} (S : World → Prop) (a : Act) (w : World) (Q : Exit → Act → World → Prop) (zz : a.tmps.size = 117)
    (t1 : a.tmps.getD 1 undef = .pointer (some ⟨fb, 0, none⟩))
    (h0 : S w.drew) (L0 : ∀ W, S W → (Instr.loadAt 3 (.pointer (some ⟨fb, 0 + 0, none⟩))).run Tryd.prog W = .ok (.int .i64 f0) W) (L1 : ∀ W, S W → (Instr.loadAt 3 (.pointer (some ⟨fb, 0 + 1, none⟩))).run Tryd.prog W = .ok (.int .i64 f1) W) (L2 : ∀ W, S W → (Instr.loadAt 3 (.pointer (some ⟨fb, 0 + 2, none⟩))).run Tryd.prog W = .ok (.int .i64 f2) W) (L3 : ∀ W, S W → (Instr.loadAt 3 (.pointer (some ⟨fb, 0 + 3, none⟩))).run Tryd.prog W = .ok (.int .i64 f3) W) (L4 : ∀ W, S W → (Instr.loadAt 3 (.pointer (some ⟨fb, 0 + 4, none⟩))).run Tryd.prog W = .ok (.int .i64 f4) W)
    (h : ∀ (a' : Act) (w' : World), S w' → a' = (((((((((((((((a).put (some 18) (.pointer (some ⟨fb, 0 + 0, none⟩))).put (some 19) (.int .i64 f0)).put (some 20) (.pointer (some ⟨fb, 0 + 1, none⟩))).put (some 21) (.int .i64 f1)).put (some 22) (.pointer (some ⟨fb, 0 + 2, none⟩))).put (some 23) (.int .i64 f2)).put (some 24) (.pointer (some ⟨fb, 0 + 3, none⟩))).put (some 25) (.int .i64 f3)).put (some 26) (.pointer (some ⟨fb, 0 + 4, none⟩))).put (some 27) (.int .i64 f4)).put (some 3) (.int .i64 f0)).put (some 4) (.int .i64 f1)).put (some 5) (.int .i64 f2)).put (some 6) (.int .i64 f3)).put (some 7) (.int .i64 f4) → Q .normal a' w') :
    (Code.region 1 grw1_ops true).wp Tryd.prog Q a w := by
  refine y0 (fun w' => S w') (h0) (fun hHeld => ?_)
  refine yv 0 rfl rfl (fun w1 hw => exec_fieldAt rfl (zi t1 rfl) (fg_23_0 _ _ _)) hHeld ?_
  refine yv 1 rfl rfl (fun w1 hw => exec_load rfl (zg zz rfl) (L0 _ hw)) hHeld ?_
  refine yv 2 rfl rfl (fun w1 hw => exec_fieldAt rfl (zi t1 rfl) (fg_23_1 _ _ _)) hHeld ?_
  refine yv 3 rfl rfl (fun w1 hw => exec_load rfl (zg zz rfl) (L1 _ hw)) hHeld ?_
  refine yv 4 rfl rfl (fun w1 hw => exec_fieldAt rfl (zi t1 rfl) (fg_23_2 _ _ _)) hHeld ?_
  refine yv 5 rfl rfl (fun w1 hw => exec_load rfl (zg zz rfl) (L2 _ hw)) hHeld ?_
  refine yv 6 rfl rfl (fun w1 hw => exec_fieldAt rfl (zi t1 rfl) (fg_23_3 _ _ _)) hHeld ?_
  refine yv 7 rfl rfl (fun w1 hw => exec_load rfl (zg zz rfl) (L3 _ hw)) hHeld ?_
  refine yv 8 rfl rfl (fun w1 hw => exec_fieldAt rfl (zi t1 rfl) (fg_23_4 _ _ _)) hHeld ?_
  refine yv 9 rfl rfl (fun w1 hw => exec_load rfl (zg zz rfl) (L4 _ hw)) hHeld ?_
  refine yv 10 rfl rfl (fun w1 hw => exec_assign rfl (zg zz rfl)) hHeld ?_
  refine yv 11 rfl rfl (fun w1 hw => exec_assign rfl (zg zz rfl)) hHeld ?_
  refine yv 12 rfl rfl (fun w1 hw => exec_assign rfl (zg zz rfl)) hHeld ?_
  refine yv 13 rfl rfl (fun w1 hw => exec_assign rfl (zg zz rfl)) hHeld ?_
  refine yv 14 rfl rfl (fun w1 hw => exec_assign rfl (zg zz rfl)) hHeld ?_
  exact ye rfl (h _ _ (hHeld) rfl)
def grw6_o0 : Oper := { dst := some 39, op := Op.move (Operand.tmp 4), type := 3, pos := "law.go:183", after := #[], guard := none }
def grw6_o1 : Oper := { dst := some 40, op := Op.call { callee := Callee.value (Operand.func 4), args := #[Operand.tmp 39], argTypes := #[3] }, type := 3, pos := "law.go:183", after := #[{ on := 0, ground := Ground.data }], guard := none }
def grw6_o2 : Oper := { dst := some 41, op := Op.move (Operand.tmp 8), type := 3, pos := "law.go:183", after := #[], guard := none }
def grw6_o3 : Oper := { dst := some 42, op := Op.binOp BinOp.rem 3 (Operand.tmp 40) (Operand.tmp 41) 3, type := 3, pos := "law.go:183", after := #[{ on := 1, ground := Ground.data }, { on := 2, ground := Ground.data }], guard := none }
def grw6_o4 : Oper := { dst := some 43, op := Op.binOp BinOp.add 3 (Operand.tmp 42) (Operand.const (Value.int IntKind.i64 1)) 3, type := 3, pos := "law.go:183", after := #[{ on := 3, ground := Ground.data }], guard := none }
def grw6_o5 : Oper := { dst := some 44, op := Op.move (Operand.tmp 5), type := 3, pos := "law.go:183", after := #[], guard := none }
def grw6_o6 : Oper := { dst := some 45, op := Op.call { callee := Callee.value (Operand.func 4), args := #[Operand.tmp 44], argTypes := #[3] }, type := 3, pos := "law.go:183", after := #[{ on := 5, ground := Ground.data }, { on := 1, ground := Ground.chain }], guard := none }
def grw6_o7 : Oper := { dst := some 46, op := Op.move (Operand.tmp 8), type := 3, pos := "law.go:183", after := #[{ on := 10, ground := Ground.gcOnly Departure.lateStores }], guard := none }
def grw6_o8 : Oper := { dst := some 47, op := Op.binOp BinOp.rem 3 (Operand.tmp 45) (Operand.tmp 46) 3, type := 3, pos := "law.go:183", after := #[{ on := 6, ground := Ground.data }, { on := 7, ground := Ground.data }, { on := 10, ground := Ground.gcOnly Departure.lateStores }], guard := none }
def grw6_o9 : Oper := { dst := some 48, op := Op.binOp BinOp.add 3 (Operand.tmp 47) (Operand.const (Value.int IntKind.i64 1)) 3, type := 3, pos := "law.go:183", after := #[{ on := 8, ground := Ground.data }, { on := 10, ground := Ground.gcOnly Departure.lateStores }], guard := none }
def grw6_o10 : Oper := { dst := some 12, op := Op.assign (Operand.tmp 43), type := 3, pos := "law.go:183", after := #[{ on := 4, ground := Ground.data }, { on := 6, ground := Ground.chain }, { on := 0, ground := Ground.phase }, { on := 1, ground := Ground.phase }, { on := 2, ground := Ground.phase }, { on := 3, ground := Ground.phase }, { on := 4, ground := Ground.phase }, { on := 5, ground := Ground.textOnly Departure.lateStores }, { on := 6, ground := Ground.textOnly Departure.lateStoresUnsure }, { on := 7, ground := Ground.textOnly Departure.lateStores }, { on := 8, ground := Ground.textOnly Departure.lateStores }, { on := 9, ground := Ground.textOnly Departure.lateStores }], guard := none }
def grw6_o11 : Oper := { dst := some 13, op := Op.assign (Operand.tmp 48), type := 3, pos := "law.go:183", after := #[{ on := 9, ground := Ground.data }, { on := 10, ground := Ground.chain }, { on := 0, ground := Ground.phase }, { on := 1, ground := Ground.phase }, { on := 2, ground := Ground.phase }, { on := 3, ground := Ground.phase }, { on := 4, ground := Ground.phase }, { on := 5, ground := Ground.phase }, { on := 6, ground := Ground.phase }, { on := 7, ground := Ground.phase }, { on := 8, ground := Ground.phase }, { on := 9, ground := Ground.phase }, { on := 10, ground := Ground.phase }], guard := none }
def grw6_ops : Array Oper := #[grw6_o0, grw6_o1, grw6_o2, grw6_o3, grw6_o4, grw6_o5, grw6_o6, grw6_o7, grw6_o8, grw6_o9, grw6_o10, grw6_o11]
set_option maxRecDepth 100000 in
set_option maxHeartbeats 4000000 in
theorem grw6 {k : Nat} {n1 n2 s1 s2 r1 r2 : Int} (S : World → Prop) (a : Act) (w : World) (Q : Exit → Act → World → Prop) (zz : a.tmps.size = 117)
    (t4 : a.tmps.getD 4 undef = .int .i64 n1)
    (t5 : a.tmps.getD 5 undef = .int .i64 n2)
    (t8 : a.tmps.getD 8 undef = .int .i64 (k : Int))
    (h0 : S w.drew) (hk : 0 < k) (h1 : Int.tmod s1 (k : Int) = r1) (h2 : Int.tmod s2 (k : Int) = r2) (b1 : -9223372036854775808 ≤ r1 + 1 ∧ r1 + 1 ≤ 9223372036854775807) (b2 : -9223372036854775808 ≤ r2 + 1 ∧ r2 + 1 ≤ 9223372036854775807) (CA : Calls Tryd.prog 4 #[.int .i64 n1] w.drew fun e w1 => e = .returned (.int .i64 s1) ∧ S w1 ∧ Calls Tryd.prog 4 #[.int .i64 n2] w1 fun e w2 => e = .returned (.int .i64 s2) ∧ S w2)
    (h : ∀ (a' : Act) (w' : World), S w' → a' = ((((((((((((a).put (some 39) (.int .i64 n1)).put (some 41) (.int .i64 (k : Int))).put (some 44) (.int .i64 n2)).put (some 46) (.int .i64 (k : Int))).put (some 40) (.int .i64 s1)).put (some 42) (.int .i64 r1)).put (some 43) (.int .i64 (r1 + 1))).put (some 45) (.int .i64 s2)).put (some 47) (.int .i64 r2)).put (some 48) (.int .i64 (r2 + 1))).put (some 12) (.int .i64 (r1 + 1))).put (some 13) (.int .i64 (r2 + 1)) → Q .normal a' w') :
    (Code.region 6 grw6_ops true).wp Tryd.prog Q a w := by
  refine y0 (fun w' => S w') (h0) (fun hHeld => ?_)
  refine yv 0 rfl rfl (fun w1 hw => exec_move rfl (zi t4 rfl)) hHeld ?_
  refine yv 2 rfl rfl (fun w1 hw => exec_move rfl (zi t8 rfl)) hHeld ?_
  refine yv 5 rfl rfl (fun w1 hw => exec_move rfl (zi t5 rfl)) hHeld ?_
  refine yv 7 rfl rfl (fun w1 hw => exec_move rfl (zi t8 rfl)) hHeld ?_
  refine yc 1 rfl rfl (exec_c1 rfl (zg zz rfl)) (CA) (fun e x1 hx => ?_)
  obtain ⟨rfl, S0, CB⟩ := hx
  refine ⟨_, rfl, S0, fun hHeld => ?_⟩
  refine yv (v := .int .i64 r1) 3 rfl rfl (fun w1 hw => ex_rem hk h1 rfl (zg zz rfl) (zg zz rfl)) hHeld ?_
  refine yv (v := .int .i64 (r1 + 1)) 4 rfl rfl (fun w1 hw => ex_add rfl (zg zz rfl) rfl b1) hHeld ?_
  refine yc 6 rfl rfl (exec_c1 rfl (zg zz rfl)) (CB) (fun e x6 hx => ?_)
  obtain ⟨rfl, S1⟩ := hx
  refine ⟨_, rfl, S1, fun hHeld => ?_⟩
  refine yv (v := .int .i64 r2) 8 rfl rfl (fun w1 hw => ex_rem hk h2 rfl (zg zz rfl) (zg zz rfl)) hHeld ?_
  refine yv (v := .int .i64 (r2 + 1)) 9 rfl rfl (fun w1 hw => ex_add rfl (zg zz rfl) rfl b2) hHeld ?_
  refine yv 10 rfl rfl (fun w1 hw => exec_assign rfl (zg zz rfl)) hHeld ?_
  refine yv 11 rfl rfl (fun w1 hw => exec_assign rfl (zg zz rfl)) hHeld ?_
  exact ye rfl (h _ _ (S1) rfl)
def grw7_o0 : Oper := { dst := some 49, op := Op.move (Operand.tmp 10), type := 26, pos := "law.go:184", after := #[], guard := none }
def grw7_o1 : Oper := { dst := some 50, op := Op.build 34 #[(1, Operand.const (Value.int IntKind.i64 1))], type := 34, pos := "law.go:184", after := #[], guard := none }
def grw7_o2 : Oper := { dst := some 51, op := Op.build 38 #[(0, Operand.const (Value.int IntKind.u8 1)), (1, Operand.const (Value.int IntKind.i64 1))], type := 38, pos := "law.go:184", after := #[], guard := none }
def grw7_o3 : Oper := { dst := some 52, op := Op.move (Operand.tmp 12), type := 3, pos := "law.go:184", after := #[], guard := none }
def grw7_o4 : Oper := { dst := some 53, op := Op.build 34 #[(1, Operand.tmp 52)], type := 34, pos := "law.go:184", after := #[{ on := 3, ground := Ground.data }], guard := none }
def grw7_o5 : Oper := { dst := some 54, op := Op.move (Operand.tmp 13), type := 3, pos := "law.go:184", after := #[], guard := none }
def grw7_o6 : Oper := { dst := some 55, op := Op.build 34 #[(1, Operand.tmp 54)], type := 34, pos := "law.go:184", after := #[{ on := 5, ground := Ground.data }], guard := none }
def grw7_o7 : Oper := { dst := some 56, op := Op.move (Operand.tmp 7), type := 3, pos := "law.go:184", after := #[], guard := none }
def grw7_o8 : Oper := { dst := some 57, op := Op.call { callee := Callee.value (Operand.func 4), args := #[Operand.tmp 56], argTypes := #[3] }, type := 3, pos := "law.go:184", after := #[{ on := 7, ground := Ground.data }], guard := none }
def grw7_o9 : Oper := { dst := some 58, op := Op.binOp BinOp.rem 3 (Operand.tmp 57) (Operand.const (Value.int IntKind.i64 4)) 3, type := 3, pos := "law.go:184", after := #[{ on := 8, ground := Ground.data }], guard := none }
def grw7_o10 : Oper := { dst := some 59, op := Op.call { callee := Callee.value (Operand.func 6), args := #[Operand.tmp 49, Operand.tmp 50, Operand.const (Value.string { data := #[98, 111, 108, 100] }), Operand.tmp 51, Operand.tmp 53, Operand.tmp 55, Operand.tmp 58], argTypes := #[26, 34, 9, 38, 34, 34, 3] }, type := 29, pos := "law.go:184", after := #[{ on := 0, ground := Ground.data }, { on := 1, ground := Ground.data }, { on := 2, ground := Ground.data }, { on := 4, ground := Ground.data }, { on := 6, ground := Ground.data }, { on := 9, ground := Ground.data }, { on := 8, ground := Ground.chain }], guard := none }
def grw7_o11 : Oper := { dst := some 60, op := Op.binOp BinOp.neq 29 (Operand.tmp 59) (Operand.const (Value.int IntKind.i64 0)) 29, type := 4, pos := "law.go:184", after := #[{ on := 10, ground := Ground.data }], guard := none }
def grw7_ops : Array Oper := #[grw7_o0, grw7_o1, grw7_o2, grw7_o3, grw7_o4, grw7_o5, grw7_o6, grw7_o7, grw7_o8, grw7_o9, grw7_o10, grw7_o11]
set_option maxRecDepth 100000 in
set_option maxHeartbeats 4000000 in
theorem grw7 {mb : Nat} {n s a0 b0 sd c : Int} {z : Bool} (Fin : World → Prop) (a : Act) (w : World) (Q : Exit → Act → World → Prop) (zz : a.tmps.size = 117)
    (t7 : a.tmps.getD 7 undef = .int .i64 n)
    (t10 : a.tmps.getD 10 undef = .pointer (some ⟨mb, 0, none⟩))
    (t12 : a.tmps.getD 12 undef = .int .i64 a0)
    (t13 : a.tmps.getD 13 undef = .int .i64 b0)
    (hs : Int.tmod s ((4 : Nat) : Int) = sd) (hz : decide (c ≠ 0) = z) (CS : Calls Tryd.prog 4 #[.int .i64 n] w fun e w1 => e = .returned (.int .i64 s) ∧ Calls Tryd.prog 6 #[.pointer (some ⟨mb, 0, none⟩), (idN 1).v, .string { data := #[98, 111, 108, 100] }, boldV.v, (idN a0).v, (idN b0).v, .int .i64 sd] w1 fun e w' => e = .returned (.int .i64 c) ∧ Fin w')
    (h : ∀ (a' : Act) (w' : World), Fin w' → a' = ((((((((((((a).put (some 49) (.pointer (some ⟨mb, 0, none⟩))).put (some 50) ((idN 1).v)).put (some 51) (boldV.v)).put (some 52) (.int .i64 a0)).put (some 53) ((idN a0).v)).put (some 54) (.int .i64 b0)).put (some 55) ((idN b0).v)).put (some 56) (.int .i64 n)).put (some 57) (.int .i64 s)).put (some 58) (.int .i64 sd)).put (some 59) (.int .i64 c)).put (some 60) (.bool z) → Q .normal a' w') :
    (Code.region 7 grw7_ops false).wp Tryd.prog Q a w := by
  refine z0 rfl ?_
  refine zv rfl (exec_move rfl (zi t10 rfl)) ?_
  refine zv rfl (exec_build1 rfl rfl (build_idN _ _)) ?_
  refine zv rfl (exec_build2 rfl rfl rfl (build_bold _)) ?_
  refine zv rfl (exec_move rfl (zi t12 rfl)) ?_
  refine zv rfl (exec_build1 rfl (zg zz rfl) (build_idN _ _)) ?_
  refine zv rfl (exec_move rfl (zi t13 rfl)) ?_
  refine zv rfl (exec_build1 rfl (zg zz rfl) (build_idN _ _)) ?_
  refine zv rfl (exec_move rfl (zi t7 rfl)) ?_
  refine zc rfl (exec_c1 rfl (zg zz rfl)) (CS) (fun e x8 hx => ?_)
  obtain ⟨rfl, CA⟩ := hx
  refine ⟨_, rfl, ?_⟩
  refine zv (v := .int .i64 sd) rfl (ex_rem (m := 4) (by omega) hs rfl (zg zz rfl) rfl) ?_
  refine zc rfl (exec_c7 rfl (zg zz rfl) (zg zz rfl) rfl (zg zz rfl) (zg zz rfl) (zg zz rfl) (zg zz rfl)) (CA) (fun e x10 hx => ?_)
  obtain ⟨rfl, HF⟩ := hx
  refine ⟨_, rfl, ?_⟩
  refine zv (v := .bool z) rfl (ex_neqE rfl (zg zz rfl) rfl hz) ?_
  exact ze rfl (h _ _ (HF) rfl)
def grw9_o0 : Oper := { dst := some 61, op := Op.move (Operand.tmp 6), type := 3, pos := "law.go:187", after := #[], guard := none }
def grw9_o1 : Oper := { dst := some 62, op := Op.call { callee := Callee.value (Operand.func 4), args := #[Operand.tmp 61], argTypes := #[3] }, type := 3, pos := "law.go:187", after := #[{ on := 0, ground := Ground.data }], guard := none }
def grw9_o2 : Oper := { dst := some 63, op := Op.move (Operand.tmp 8), type := 3, pos := "law.go:187", after := #[], guard := none }
def grw9_o3 : Oper := { dst := some 64, op := Op.binOp BinOp.sub 3 (Operand.tmp 63) (Operand.const (Value.int IntKind.i64 1)) 3, type := 3, pos := "law.go:187", after := #[{ on := 2, ground := Ground.data }], guard := none }
def grw9_o4 : Oper := { dst := some 65, op := Op.binOp BinOp.rem 3 (Operand.tmp 62) (Operand.tmp 64) 3, type := 3, pos := "law.go:187", after := #[{ on := 1, ground := Ground.data }, { on := 3, ground := Ground.data }], guard := none }
def grw9_o5 : Oper := { dst := some 14, op := Op.assign (Operand.tmp 65), type := 3, pos := "law.go:187", after := #[{ on := 4, ground := Ground.data }, { on := 1, ground := Ground.chain }, { on := 0, ground := Ground.phase }, { on := 1, ground := Ground.phase }, { on := 2, ground := Ground.phase }, { on := 3, ground := Ground.phase }, { on := 4, ground := Ground.phase }], guard := none }
def grw9_ops : Array Oper := #[grw9_o0, grw9_o1, grw9_o2, grw9_o3, grw9_o4, grw9_o5]
set_option maxRecDepth 100000 in
set_option maxHeartbeats 4000000 in
theorem grw9 {k1 : Nat} {n s r k : Int} (Fin : World → Prop) (a : Act) (w : World) (Q : Exit → Act → World → Prop) (zz : a.tmps.size = 117)
    (t6 : a.tmps.getD 6 undef = .int .i64 n)
    (t8 : a.tmps.getD 8 undef = .int .i64 k)
    (hk1 : k - 1 = (k1 : Int)) (hb : (k1 : Int) ≤ 9223372036854775807) (h0 : 0 < k1) (hr : Int.tmod s (k1 : Int) = r) (CS : Calls Tryd.prog 4 #[.int .i64 n] w fun e w' => e = .returned (.int .i64 s) ∧ Fin w')
    (h : ∀ (a' : Act) (w' : World), Fin w' → a' = ((((((a).put (some 61) (.int .i64 n)).put (some 62) (.int .i64 s)).put (some 63) (.int .i64 k)).put (some 64) (.int .i64 (k1 : Int))).put (some 65) (.int .i64 r)).put (some 14) (.int .i64 r) → Q .normal a' w') :
    (Code.region 9 grw9_ops false).wp Tryd.prog Q a w := by
  refine z0 rfl ?_
  refine zv rfl (exec_move rfl (zi t6 rfl)) ?_
  refine zc rfl (exec_c1 rfl (zg zz rfl)) (CS) (fun e x1 hx => ?_)
  obtain ⟨rfl, HF⟩ := hx
  refine ⟨_, rfl, ?_⟩
  refine zv rfl (exec_move rfl (zi t8 rfl)) ?_
  refine zv (v := .int .i64 (k1 : Int)) rfl (ex_subE hk1 hb rfl (zg zz rfl) rfl) ?_
  refine zv (v := .int .i64 r) rfl (ex_rem h0 hr rfl (zg zz rfl) (zg zz rfl)) ?_
  refine zv rfl (exec_assign rfl (zg zz rfl)) ?_
  exact ze rfl (h _ _ (HF) rfl)
def grw10t_o0 : Oper := { dst := some 66, op := Op.move (Operand.tmp 10), type := 26, pos := "law.go:188", after := #[], guard := none }
def grw10t_o1 : Oper := { dst := some 67, op := Op.move (Operand.tmp 9), type := 25, pos := "law.go:188", after := #[], guard := none }
def grw10t_o2 : Oper := { dst := some 68, op := Op.move (Operand.tmp 14), type := 3, pos := "law.go:188", after := #[], guard := none }
def grw10t_o3 : Oper := { dst := some 69, op := Op.binOp BinOp.add 3 (Operand.tmp 68) (Operand.const (Value.int IntKind.i64 1)) 3, type := 3, pos := "law.go:188", after := #[{ on := 2, ground := Ground.data }], guard := none }
def grw10t_o4 : Oper := { dst := some 70, op := Op.build 34 #[(1, Operand.tmp 69)], type := 34, pos := "law.go:188", after := #[{ on := 3, ground := Ground.data }], guard := none }
def grw10t_o5 : Oper := { dst := some 71, op := Op.call { callee := Callee.value (Operand.func 7), args := #[Operand.tmp 66, Operand.tmp 67, Operand.tmp 70], argTypes := #[26, 25, 34] }, type := 39, pos := "law.go:188", after := #[{ on := 0, ground := Ground.data }, { on := 1, ground := Ground.data }, { on := 4, ground := Ground.data }], guard := none }
def grw10t_o6 : Oper := { dst := some 72, op := Op.call { callee := Callee.builtin Builtin.len, args := #[Operand.tmp 71], argTypes := #[39] }, type := 3, pos := "law.go:188", after := #[{ on := 5, ground := Ground.data }], guard := none }
def grw10t_o7 : Oper := { dst := some 73, op := Op.binOp BinOp.eql 3 (Operand.tmp 72) (Operand.const (Value.int IntKind.i64 1)) 3, type := 4, pos := "law.go:188", after := #[{ on := 6, ground := Ground.data }], guard := none }
def grw10t_o8 : Oper := { dst := some 74, op := Op.move (Operand.tmp 73), type := 4, pos := "law.go:188", after := #[{ on := 7, ground := Ground.data }, { on := 5, ground := Ground.chain }], guard := none }
def grw10t_o9 : Oper := { dst := some 75, op := Op.move (Operand.tmp 10), type := 26, pos := "law.go:188", after := #[{ on := 8, ground := Ground.guard }], guard := some (8, true) }
def grw10t_o10 : Oper := { dst := some 76, op := Op.move (Operand.tmp 9), type := 25, pos := "law.go:188", after := #[{ on := 8, ground := Ground.guard }], guard := some (8, true) }
def grw10t_o11 : Oper := { dst := some 77, op := Op.move (Operand.tmp 14), type := 3, pos := "law.go:188", after := #[{ on := 8, ground := Ground.guard }], guard := some (8, true) }
def grw10t_o12 : Oper := { dst := some 78, op := Op.binOp BinOp.add 3 (Operand.tmp 77) (Operand.const (Value.int IntKind.i64 2)) 3, type := 3, pos := "law.go:188", after := #[{ on := 11, ground := Ground.data }, { on := 8, ground := Ground.guard }], guard := some (8, true) }
def grw10t_o13 : Oper := { dst := some 79, op := Op.build 34 #[(1, Operand.tmp 78)], type := 34, pos := "law.go:188", after := #[{ on := 12, ground := Ground.data }, { on := 8, ground := Ground.guard }], guard := some (8, true) }
def grw10t_o14 : Oper := { dst := some 80, op := Op.call { callee := Callee.value (Operand.func 7), args := #[Operand.tmp 75, Operand.tmp 76, Operand.tmp 79], argTypes := #[26, 25, 34] }, type := 39, pos := "law.go:188", after := #[{ on := 9, ground := Ground.data }, { on := 10, ground := Ground.data }, { on := 13, ground := Ground.data }, { on := 8, ground := Ground.chain }, { on := 8, ground := Ground.guard }], guard := some (8, true) }
def grw10t_o15 : Oper := { dst := some 81, op := Op.call { callee := Callee.builtin Builtin.len, args := #[Operand.tmp 80], argTypes := #[39] }, type := 3, pos := "law.go:188", after := #[{ on := 14, ground := Ground.data }, { on := 8, ground := Ground.guard }], guard := some (8, true) }
def grw10t_o16 : Oper := { dst := some 82, op := Op.binOp BinOp.eql 3 (Operand.tmp 81) (Operand.const (Value.int IntKind.i64 1)) 3, type := 4, pos := "law.go:188", after := #[{ on := 15, ground := Ground.data }, { on := 8, ground := Ground.guard }], guard := some (8, true) }
def grw10t_o17 : Oper := { dst := some 83, op := Op.pick (Operand.tmp 74) (Operand.tmp 82) (Operand.const (Value.bool false)), type := 4, pos := "law.go:188", after := #[{ on := 8, ground := Ground.data }, { on := 16, ground := Ground.data }], guard := none }
def grw10t_o18 : Oper := { dst := some 15, op := Op.assign (Operand.tmp 83), type := 4, pos := "law.go:188", after := #[{ on := 17, ground := Ground.data }, { on := 14, ground := Ground.chain }, { on := 0, ground := Ground.phase }, { on := 1, ground := Ground.phase }, { on := 2, ground := Ground.phase }, { on := 3, ground := Ground.phase }, { on := 4, ground := Ground.phase }, { on := 5, ground := Ground.phase }, { on := 6, ground := Ground.phase }, { on := 7, ground := Ground.phase }, { on := 8, ground := Ground.phase }, { on := 9, ground := Ground.phase }, { on := 10, ground := Ground.phase }, { on := 11, ground := Ground.phase }, { on := 12, ground := Ground.phase }, { on := 13, ground := Ground.phase }, { on := 14, ground := Ground.phase }, { on := 15, ground := Ground.phase }, { on := 16, ground := Ground.phase }, { on := 17, ground := Ground.phase }], guard := none }
def grw10t_ops : Array Oper := #[grw10t_o0, grw10t_o1, grw10t_o2, grw10t_o3, grw10t_o4, grw10t_o5, grw10t_o6, grw10t_o7, grw10t_o8, grw10t_o9, grw10t_o10, grw10t_o11, grw10t_o12, grw10t_o13, grw10t_o14, grw10t_o15, grw10t_o16, grw10t_o17, grw10t_o18]
set_option maxRecDepth 100000 in
set_option maxHeartbeats 4000000 in
theorem grw10t {sb mb n1 n2 : Nat} {i : Int} {q : Bool} (Fin : World → Prop) (a : Act) (w : World) (Q : Exit → Act → World → Prop) (zz : a.tmps.size = 117)
    (t9 : a.tmps.getD 9 undef = .pointer (some ⟨sb, 0, none⟩))
    (t10 : a.tmps.getD 10 undef = .pointer (some ⟨mb, 0, none⟩))
    (t14 : a.tmps.getD 14 undef = .int .i64 i)
    (bi : -9223372036854775808 ≤ i ∧ i ≤ 9223372036854775000) (h1 : decide ((n1 : Int) = 1) = true) (h2 : decide ((n2 : Int) = 1) = q) (CA : Calls Tryd.prog 7 #[.pointer (some ⟨mb, 0, none⟩), .pointer (some ⟨sb, 0, none⟩), (idN (i + 1)).v] w fun e w1 => ∃ la c, e = .returned (.slice la n1 c) ∧ Calls Tryd.prog 7 #[.pointer (some ⟨mb, 0, none⟩), .pointer (some ⟨sb, 0, none⟩), (idN (i + 2)).v] w1 fun e w' => ∃ lb d, e = .returned (.slice lb n2 d) ∧ Fin w')
    (h : ∀ (la : Option Addr) (c : Nat) (lb : Option Addr) (d : Nat) (a' : Act) (w' : World), Fin w' → a' = (((((((((((((((((((a).put (some 66) (.pointer (some ⟨mb, 0, none⟩))).put (some 67) (.pointer (some ⟨sb, 0, none⟩))).put (some 68) (.int .i64 i)).put (some 69) (.int .i64 (i + 1))).put (some 70) ((idN (i + 1)).v)).put (some 71) (.slice la n1 c)).put (some 72) (.int .i64 (n1 : Int))).put (some 73) (.bool true)).put (some 74) (.bool true)).put (some 75) (.pointer (some ⟨mb, 0, none⟩))).put (some 76) (.pointer (some ⟨sb, 0, none⟩))).put (some 77) (.int .i64 i)).put (some 78) (.int .i64 (i + 2))).put (some 79) ((idN (i + 2)).v)).put (some 80) (.slice lb n2 d)).put (some 81) (.int .i64 (n2 : Int))).put (some 82) (.bool q)).put (some 83) (.bool q)).put (some 15) (.bool q) → Q .normal a' w') :
    (Code.region 10 grw10t_ops false).wp Tryd.prog Q a w := by
  refine z0 rfl ?_
  refine zv rfl (exec_move rfl (zi t10 rfl)) ?_
  refine zv rfl (exec_move rfl (zi t9 rfl)) ?_
  refine zv rfl (exec_move rfl (zi t14 rfl)) ?_
  refine zv (v := .int .i64 (i + 1)) rfl (ex_add rfl (zg zz rfl) rfl (by omega)) ?_
  refine zv rfl (exec_build1 rfl (zg zz rfl) (build_idN _ _)) ?_
  refine zc rfl (exec_c3 rfl (zg zz rfl) (zg zz rfl) (zg zz rfl)) (CA) (fun e x5 hx => ?_)
  obtain ⟨la, c, rfl, CB⟩ := hx
  replace h := h la c
  refine ⟨_, rfl, ?_⟩
  refine zv rfl (exec_len rfl (zg zz rfl) (len_sp _ _ _ _)) ?_
  refine zv (v := .bool true) rfl (ex_eql rfl (zg zz rfl) rfl h1) ?_
  refine zv rfl (exec_move rfl (zg zz rfl)) ?_
  refine zv (zw zz rfl rfl rfl (zg zz rfl)) (exec_move rfl (zi t10 rfl)) ?_
  refine zv (zw zz rfl rfl rfl (zg zz rfl)) (exec_move rfl (zi t9 rfl)) ?_
  refine zv (zw zz rfl rfl rfl (zg zz rfl)) (exec_move rfl (zi t14 rfl)) ?_
  refine zv (v := .int .i64 (i + 2)) (zw zz rfl rfl rfl (zg zz rfl)) (ex_add rfl (zg zz rfl) rfl (by omega)) ?_
  refine zv (zw zz rfl rfl rfl (zg zz rfl)) (exec_build1 rfl (zg zz rfl) (build_idN _ _)) ?_
  refine zc (zw zz rfl rfl rfl (zg zz rfl)) (exec_c3 rfl (zg zz rfl) (zg zz rfl) (zg zz rfl)) (CB) (fun e x14 hx => ?_)
  obtain ⟨lb, d, rfl, HF⟩ := hx
  replace h := h lb d
  refine ⟨_, rfl, ?_⟩
  refine zv (zw zz rfl rfl rfl (zg zz rfl)) (exec_len rfl (zg zz rfl) (len_sp _ _ _ _)) ?_
  refine zv (v := .bool q) (zw zz rfl rfl rfl (zg zz rfl)) (ex_eql rfl (zg zz rfl) rfl h2) ?_
  refine zv rfl (exec_pickT rfl (zg zz rfl) (zg zz rfl)) ?_
  refine zv rfl (exec_assign rfl (zg zz rfl)) ?_
  exact ze rfl (h _ _ (HF) rfl)
def grw10f_o0 : Oper := { dst := some 66, op := Op.move (Operand.tmp 10), type := 26, pos := "law.go:188", after := #[], guard := none }
def grw10f_o1 : Oper := { dst := some 67, op := Op.move (Operand.tmp 9), type := 25, pos := "law.go:188", after := #[], guard := none }
def grw10f_o2 : Oper := { dst := some 68, op := Op.move (Operand.tmp 14), type := 3, pos := "law.go:188", after := #[], guard := none }
def grw10f_o3 : Oper := { dst := some 69, op := Op.binOp BinOp.add 3 (Operand.tmp 68) (Operand.const (Value.int IntKind.i64 1)) 3, type := 3, pos := "law.go:188", after := #[{ on := 2, ground := Ground.data }], guard := none }
def grw10f_o4 : Oper := { dst := some 70, op := Op.build 34 #[(1, Operand.tmp 69)], type := 34, pos := "law.go:188", after := #[{ on := 3, ground := Ground.data }], guard := none }
def grw10f_o5 : Oper := { dst := some 71, op := Op.call { callee := Callee.value (Operand.func 7), args := #[Operand.tmp 66, Operand.tmp 67, Operand.tmp 70], argTypes := #[26, 25, 34] }, type := 39, pos := "law.go:188", after := #[{ on := 0, ground := Ground.data }, { on := 1, ground := Ground.data }, { on := 4, ground := Ground.data }], guard := none }
def grw10f_o6 : Oper := { dst := some 72, op := Op.call { callee := Callee.builtin Builtin.len, args := #[Operand.tmp 71], argTypes := #[39] }, type := 3, pos := "law.go:188", after := #[{ on := 5, ground := Ground.data }], guard := none }
def grw10f_o7 : Oper := { dst := some 73, op := Op.binOp BinOp.eql 3 (Operand.tmp 72) (Operand.const (Value.int IntKind.i64 1)) 3, type := 4, pos := "law.go:188", after := #[{ on := 6, ground := Ground.data }], guard := none }
def grw10f_o8 : Oper := { dst := some 74, op := Op.move (Operand.tmp 73), type := 4, pos := "law.go:188", after := #[{ on := 7, ground := Ground.data }, { on := 5, ground := Ground.chain }], guard := none }
def grw10f_o9 : Oper := { dst := some 75, op := Op.move (Operand.tmp 10), type := 26, pos := "law.go:188", after := #[{ on := 8, ground := Ground.guard }], guard := some (8, true) }
def grw10f_o10 : Oper := { dst := some 76, op := Op.move (Operand.tmp 9), type := 25, pos := "law.go:188", after := #[{ on := 8, ground := Ground.guard }], guard := some (8, true) }
def grw10f_o11 : Oper := { dst := some 77, op := Op.move (Operand.tmp 14), type := 3, pos := "law.go:188", after := #[{ on := 8, ground := Ground.guard }], guard := some (8, true) }
def grw10f_o12 : Oper := { dst := some 78, op := Op.binOp BinOp.add 3 (Operand.tmp 77) (Operand.const (Value.int IntKind.i64 2)) 3, type := 3, pos := "law.go:188", after := #[{ on := 11, ground := Ground.data }, { on := 8, ground := Ground.guard }], guard := some (8, true) }
def grw10f_o13 : Oper := { dst := some 79, op := Op.build 34 #[(1, Operand.tmp 78)], type := 34, pos := "law.go:188", after := #[{ on := 12, ground := Ground.data }, { on := 8, ground := Ground.guard }], guard := some (8, true) }
def grw10f_o14 : Oper := { dst := some 80, op := Op.call { callee := Callee.value (Operand.func 7), args := #[Operand.tmp 75, Operand.tmp 76, Operand.tmp 79], argTypes := #[26, 25, 34] }, type := 39, pos := "law.go:188", after := #[{ on := 9, ground := Ground.data }, { on := 10, ground := Ground.data }, { on := 13, ground := Ground.data }, { on := 8, ground := Ground.chain }, { on := 8, ground := Ground.guard }], guard := some (8, true) }
def grw10f_o15 : Oper := { dst := some 81, op := Op.call { callee := Callee.builtin Builtin.len, args := #[Operand.tmp 80], argTypes := #[39] }, type := 3, pos := "law.go:188", after := #[{ on := 14, ground := Ground.data }, { on := 8, ground := Ground.guard }], guard := some (8, true) }
def grw10f_o16 : Oper := { dst := some 82, op := Op.binOp BinOp.eql 3 (Operand.tmp 81) (Operand.const (Value.int IntKind.i64 1)) 3, type := 4, pos := "law.go:188", after := #[{ on := 15, ground := Ground.data }, { on := 8, ground := Ground.guard }], guard := some (8, true) }
def grw10f_o17 : Oper := { dst := some 83, op := Op.pick (Operand.tmp 74) (Operand.tmp 82) (Operand.const (Value.bool false)), type := 4, pos := "law.go:188", after := #[{ on := 8, ground := Ground.data }, { on := 16, ground := Ground.data }], guard := none }
def grw10f_o18 : Oper := { dst := some 15, op := Op.assign (Operand.tmp 83), type := 4, pos := "law.go:188", after := #[{ on := 17, ground := Ground.data }, { on := 14, ground := Ground.chain }, { on := 0, ground := Ground.phase }, { on := 1, ground := Ground.phase }, { on := 2, ground := Ground.phase }, { on := 3, ground := Ground.phase }, { on := 4, ground := Ground.phase }, { on := 5, ground := Ground.phase }, { on := 6, ground := Ground.phase }, { on := 7, ground := Ground.phase }, { on := 8, ground := Ground.phase }, { on := 9, ground := Ground.phase }, { on := 10, ground := Ground.phase }, { on := 11, ground := Ground.phase }, { on := 12, ground := Ground.phase }, { on := 13, ground := Ground.phase }, { on := 14, ground := Ground.phase }, { on := 15, ground := Ground.phase }, { on := 16, ground := Ground.phase }, { on := 17, ground := Ground.phase }], guard := none }
def grw10f_ops : Array Oper := #[grw10f_o0, grw10f_o1, grw10f_o2, grw10f_o3, grw10f_o4, grw10f_o5, grw10f_o6, grw10f_o7, grw10f_o8, grw10f_o9, grw10f_o10, grw10f_o11, grw10f_o12, grw10f_o13, grw10f_o14, grw10f_o15, grw10f_o16, grw10f_o17, grw10f_o18]
set_option maxRecDepth 100000 in
set_option maxHeartbeats 4000000 in
theorem grw10f {sb mb n1 : Nat} {i : Int} (Fin : World → Prop) (a : Act) (w : World) (Q : Exit → Act → World → Prop) (zz : a.tmps.size = 117)
    (t9 : a.tmps.getD 9 undef = .pointer (some ⟨sb, 0, none⟩))
    (t10 : a.tmps.getD 10 undef = .pointer (some ⟨mb, 0, none⟩))
    (t14 : a.tmps.getD 14 undef = .int .i64 i)
    (bi : -9223372036854775808 ≤ i ∧ i ≤ 9223372036854775000) (h1 : decide ((n1 : Int) = 1) = false) (CA : Calls Tryd.prog 7 #[.pointer (some ⟨mb, 0, none⟩), .pointer (some ⟨sb, 0, none⟩), (idN (i + 1)).v] w fun e w' => ∃ la c, e = .returned (.slice la n1 c) ∧ Fin w')
    (h : ∀ (la : Option Addr) (c : Nat) (a' : Act) (w' : World), Fin w' → a' = (((((((((((((((((((a).put (some 66) (.pointer (some ⟨mb, 0, none⟩))).put (some 67) (.pointer (some ⟨sb, 0, none⟩))).put (some 68) (.int .i64 i)).put (some 69) (.int .i64 (i + 1))).put (some 70) ((idN (i + 1)).v)).put (some 71) (.slice la n1 c)).put (some 72) (.int .i64 (n1 : Int))).put (some 73) (.bool false)).put (some 74) (.bool false)).put (some 75) (undef)).put (some 76) (undef)).put (some 77) (undef)).put (some 78) (undef)).put (some 79) (undef)).put (some 80) (undef)).put (some 81) (undef)).put (some 82) (undef)).put (some 83) (.bool false)).put (some 15) (.bool false) → Q .normal a' w') :
    (Code.region 10 grw10f_ops false).wp Tryd.prog Q a w := by
  refine z0 rfl ?_
  refine zv rfl (exec_move rfl (zi t10 rfl)) ?_
  refine zv rfl (exec_move rfl (zi t9 rfl)) ?_
  refine zv rfl (exec_move rfl (zi t14 rfl)) ?_
  refine zv (v := .int .i64 (i + 1)) rfl (ex_add rfl (zg zz rfl) rfl (by omega)) ?_
  refine zv rfl (exec_build1 rfl (zg zz rfl) (build_idN _ _)) ?_
  refine zc rfl (exec_c3 rfl (zg zz rfl) (zg zz rfl) (zg zz rfl)) (CA) (fun e x5 hx => ?_)
  obtain ⟨la, c, rfl, HF⟩ := hx
  replace h := h la c
  refine ⟨_, rfl, ?_⟩
  refine zv rfl (exec_len rfl (zg zz rfl) (len_sp _ _ _ _)) ?_
  refine zv (v := .bool false) rfl (ex_eql rfl (zg zz rfl) rfl h1) ?_
  refine zv rfl (exec_move rfl (zg zz rfl)) ?_
  refine zn (zx zz rfl rfl rfl (zg zz rfl)) ?_
  refine zn (zx zz rfl rfl rfl (zg zz rfl)) ?_
  refine zn (zx zz rfl rfl rfl (zg zz rfl)) ?_
  refine zn (zx zz rfl rfl rfl (zg zz rfl)) ?_
  refine zn (zx zz rfl rfl rfl (zg zz rfl)) ?_
  refine zn (zx zz rfl rfl rfl (zg zz rfl)) ?_
  refine zn (zx zz rfl rfl rfl (zg zz rfl)) ?_
  refine zn (zx zz rfl rfl rfl (zg zz rfl)) ?_
  refine zv rfl (exec_pickF rfl (zg zz rfl) rfl) ?_
  refine zv rfl (exec_assign rfl (zg zz rfl)) ?_
  exact ze rfl (h _ _ (HF) rfl)
def grw11_o0 : Oper := { dst := some 84, op := Op.move (Operand.tmp 9), type := 25, pos := "law.go:189", after := #[], guard := none }
def grw11_o1 : Oper := { dst := some 85, op := Op.build 34 #[(1, Operand.const (Value.int IntKind.i64 99))], type := 34, pos := "law.go:189", after := #[], guard := none }
def grw11_o2 : Oper := { dst := some 86, op := Op.move (Operand.tmp 14), type := 3, pos := "law.go:189", after := #[], guard := none }
def grw11_o3 : Oper := { dst := some 87, op := Op.binOp BinOp.add 3 (Operand.tmp 86) (Operand.const (Value.int IntKind.i64 1)) 3, type := 3, pos := "law.go:189", after := #[{ on := 2, ground := Ground.data }], guard := none }
def grw11_o4 : Oper := { dst := some 88, op := Op.build 34 #[(1, Operand.tmp 87)], type := 34, pos := "law.go:189", after := #[{ on := 3, ground := Ground.data }], guard := none }
def grw11_o5 : Oper := { dst := some 89, op := Op.call { callee := Callee.value (Operand.func 8), args := #[Operand.tmp 84, Operand.tmp 85, Operand.tmp 88], argTypes := #[25, 34, 34] }, type := 29, pos := "law.go:189", after := #[{ on := 0, ground := Ground.data }, { on := 1, ground := Ground.data }, { on := 4, ground := Ground.data }], guard := none }
def grw11_o6 : Oper := { dst := some 90, op := Op.binOp BinOp.neq 29 (Operand.tmp 89) (Operand.const (Value.int IntKind.i64 0)) 29, type := 4, pos := "law.go:189", after := #[{ on := 5, ground := Ground.data }], guard := none }
def grw11_ops : Array Oper := #[grw11_o0, grw11_o1, grw11_o2, grw11_o3, grw11_o4, grw11_o5, grw11_o6]
set_option maxRecDepth 100000 in
set_option maxHeartbeats 4000000 in
theorem grw11 {sb : Nat} {i z : Int} {r : Bool} (Fin : World → Prop) (a : Act) (w : World) (Q : Exit → Act → World → Prop) (zz : a.tmps.size = 117)
    (t9 : a.tmps.getD 9 undef = .pointer (some ⟨sb, 0, none⟩))
    (t14 : a.tmps.getD 14 undef = .int .i64 i)
    (bi : -9223372036854775808 ≤ i ∧ i ≤ 9223372036854775000) (hz : decide (z ≠ 0) = r) (CI : Calls Tryd.prog 8 #[.pointer (some ⟨sb, 0, none⟩), (idN 99).v, (idN (i + 1)).v] w fun e w' => e = .returned (.int .i64 z) ∧ Fin w')
    (h : ∀ (a' : Act) (w' : World), Fin w' → a' = (((((((a).put (some 84) (.pointer (some ⟨sb, 0, none⟩))).put (some 85) ((idN 99).v)).put (some 86) (.int .i64 i)).put (some 87) (.int .i64 (i + 1))).put (some 88) ((idN (i + 1)).v)).put (some 89) (.int .i64 z)).put (some 90) (.bool r) → Q .normal a' w') :
    (Code.region 11 grw11_ops false).wp Tryd.prog Q a w := by
  refine z0 rfl ?_
  refine zv rfl (exec_move rfl (zi t9 rfl)) ?_
  refine zv rfl (exec_build1 rfl rfl (build_idN _ _)) ?_
  refine zv rfl (exec_move rfl (zi t14 rfl)) ?_
  refine zv (v := .int .i64 (i + 1)) rfl (ex_add rfl (zg zz rfl) rfl (by omega)) ?_
  refine zv rfl (exec_build1 rfl (zg zz rfl) (build_idN _ _)) ?_
  refine zc rfl (exec_c3 rfl (zg zz rfl) (zg zz rfl) (zg zz rfl)) (CI) (fun e x5 hx => ?_)
  obtain ⟨rfl, HF⟩ := hx
  refine ⟨_, rfl, ?_⟩
  refine zv (v := .bool r) rfl (ex_neqE rfl (zg zz rfl) rfl hz) ?_
  exact ze rfl (h _ _ (HF) rfl)
def grw13_o0 : Oper := { dst := some 91, op := Op.move (Operand.tmp 10), type := 26, pos := "law.go:192", after := #[], guard := none }
def grw13_o1 : Oper := { dst := some 92, op := Op.move (Operand.tmp 9), type := 25, pos := "law.go:192", after := #[], guard := none }
def grw13_o2 : Oper := { dst := some 93, op := Op.build 34 #[(1, Operand.const (Value.int IntKind.i64 99))], type := 34, pos := "law.go:192", after := #[], guard := none }
def grw13_o3 : Oper := { dst := some 94, op := Op.call { callee := Callee.value (Operand.func 7), args := #[Operand.tmp 91, Operand.tmp 92, Operand.tmp 93], argTypes := #[26, 25, 34] }, type := 39, pos := "law.go:192", after := #[{ on := 0, ground := Ground.data }, { on := 1, ground := Ground.data }, { on := 2, ground := Ground.data }], guard := none }
def grw13_o4 : Oper := { dst := some 95, op := Op.call { callee := Callee.builtin Builtin.len, args := #[Operand.tmp 94], argTypes := #[39] }, type := 3, pos := "law.go:192", after := #[{ on := 3, ground := Ground.data }], guard := none }
def grw13_o5 : Oper := { dst := some 96, op := Op.binOp BinOp.eql 3 (Operand.tmp 95) (Operand.const (Value.int IntKind.i64 1)) 3, type := 4, pos := "law.go:192", after := #[{ on := 4, ground := Ground.data }], guard := none }
def grw13_o6 : Oper := { dst := some 16, op := Op.assign (Operand.tmp 96), type := 4, pos := "law.go:192", after := #[{ on := 5, ground := Ground.data }, { on := 3, ground := Ground.chain }, { on := 0, ground := Ground.phase }, { on := 1, ground := Ground.phase }, { on := 2, ground := Ground.phase }, { on := 3, ground := Ground.phase }, { on := 4, ground := Ground.phase }, { on := 5, ground := Ground.phase }], guard := none }
def grw13_ops : Array Oper := #[grw13_o0, grw13_o1, grw13_o2, grw13_o3, grw13_o4, grw13_o5, grw13_o6]
set_option maxRecDepth 100000 in
set_option maxHeartbeats 4000000 in
theorem grw13 {sb mb n1 : Nat} {q : Bool} (Fin : World → Prop) (a : Act) (w : World) (Q : Exit → Act → World → Prop) (zz : a.tmps.size = 117)
    (t9 : a.tmps.getD 9 undef = .pointer (some ⟨sb, 0, none⟩))
    (t10 : a.tmps.getD 10 undef = .pointer (some ⟨mb, 0, none⟩))
    (h1 : decide ((n1 : Int) = 1) = q) (CA : Calls Tryd.prog 7 #[.pointer (some ⟨mb, 0, none⟩), .pointer (some ⟨sb, 0, none⟩), (idN 99).v] w fun e w' => ∃ la c, e = .returned (.slice la n1 c) ∧ Fin w')
    (h : ∀ (la : Option Addr) (c : Nat) (a' : Act) (w' : World), Fin w' → a' = (((((((a).put (some 91) (.pointer (some ⟨mb, 0, none⟩))).put (some 92) (.pointer (some ⟨sb, 0, none⟩))).put (some 93) ((idN 99).v)).put (some 94) (.slice la n1 c)).put (some 95) (.int .i64 (n1 : Int))).put (some 96) (.bool q)).put (some 16) (.bool q) → Q .normal a' w') :
    (Code.region 13 grw13_ops false).wp Tryd.prog Q a w := by
  refine z0 rfl ?_
  refine zv rfl (exec_move rfl (zi t10 rfl)) ?_
  refine zv rfl (exec_move rfl (zi t9 rfl)) ?_
  refine zv rfl (exec_build1 rfl rfl (build_idN _ _)) ?_
  refine zc rfl (exec_c3 rfl (zg zz rfl) (zg zz rfl) (zg zz rfl)) (CA) (fun e x3 hx => ?_)
  obtain ⟨la, c, rfl, HF⟩ := hx
  replace h := h la c
  refine ⟨_, rfl, ?_⟩
  refine zv rfl (exec_len rfl (zg zz rfl) (len_sp _ _ _ _)) ?_
  refine zv (v := .bool q) rfl (ex_eql rfl (zg zz rfl) rfl h1) ?_
  refine zv rfl (exec_assign rfl (zg zz rfl)) ?_
  exact ze rfl (h _ _ (HF) rfl)
def grw14t_o0 : Oper := { dst := some 97, op := Op.move (Operand.tmp 12), type := 3, pos := "law.go:193", after := #[], guard := none }
def grw14t_o1 : Oper := { dst := some 98, op := Op.move (Operand.tmp 14), type := 3, pos := "law.go:193", after := #[], guard := none }
def grw14t_o2 : Oper := { dst := some 99, op := Op.binOp BinOp.add 3 (Operand.tmp 98) (Operand.const (Value.int IntKind.i64 1)) 3, type := 3, pos := "law.go:193", after := #[{ on := 1, ground := Ground.data }], guard := none }
def grw14t_o3 : Oper := { dst := some 100, op := Op.binOp BinOp.leq 3 (Operand.tmp 97) (Operand.tmp 99) 3, type := 4, pos := "law.go:193", after := #[{ on := 0, ground := Ground.data }, { on := 2, ground := Ground.data }], guard := none }
def grw14t_o4 : Oper := { dst := some 101, op := Op.move (Operand.tmp 100), type := 4, pos := "law.go:193", after := #[{ on := 3, ground := Ground.data }], guard := none }
def grw14t_o5 : Oper := { dst := some 102, op := Op.move (Operand.tmp 13), type := 3, pos := "law.go:193", after := #[{ on := 4, ground := Ground.guard }], guard := some (4, true) }
def grw14t_o6 : Oper := { dst := some 103, op := Op.move (Operand.tmp 14), type := 3, pos := "law.go:193", after := #[{ on := 4, ground := Ground.guard }], guard := some (4, true) }
def grw14t_o7 : Oper := { dst := some 104, op := Op.binOp BinOp.add 3 (Operand.tmp 103) (Operand.const (Value.int IntKind.i64 2)) 3, type := 3, pos := "law.go:193", after := #[{ on := 6, ground := Ground.data }, { on := 4, ground := Ground.guard }], guard := some (4, true) }
def grw14t_o8 : Oper := { dst := some 105, op := Op.binOp BinOp.geq 3 (Operand.tmp 102) (Operand.tmp 104) 3, type := 4, pos := "law.go:193", after := #[{ on := 5, ground := Ground.data }, { on := 7, ground := Ground.data }, { on := 4, ground := Ground.guard }], guard := some (4, true) }
def grw14t_o9 : Oper := { dst := some 106, op := Op.pick (Operand.tmp 101) (Operand.tmp 105) (Operand.const (Value.bool false)), type := 4, pos := "law.go:193", after := #[{ on := 4, ground := Ground.data }, { on := 8, ground := Ground.data }], guard := none }
def grw14t_o10 : Oper := { dst := some 17, op := Op.assign (Operand.tmp 106), type := 4, pos := "law.go:193", after := #[{ on := 9, ground := Ground.data }, { on := 4, ground := Ground.chain }, { on := 0, ground := Ground.phase }, { on := 1, ground := Ground.phase }, { on := 2, ground := Ground.phase }, { on := 3, ground := Ground.phase }, { on := 4, ground := Ground.phase }, { on := 5, ground := Ground.phase }, { on := 6, ground := Ground.phase }, { on := 7, ground := Ground.phase }, { on := 8, ground := Ground.phase }, { on := 9, ground := Ground.phase }], guard := none }
def grw14t_ops : Array Oper := #[grw14t_o0, grw14t_o1, grw14t_o2, grw14t_o3, grw14t_o4, grw14t_o5, grw14t_o6, grw14t_o7, grw14t_o8, grw14t_o9, grw14t_o10]
set_option maxRecDepth 100000 in
set_option maxHeartbeats 4000000 in
theorem grw14t {a0 b0 i : Int} {q : Bool} (a : Act) (w : World) (Q : Exit → Act → World → Prop) (zz : a.tmps.size = 117)
    (t12 : a.tmps.getD 12 undef = .int .i64 a0)
    (t13 : a.tmps.getD 13 undef = .int .i64 b0)
    (t14 : a.tmps.getD 14 undef = .int .i64 i)
    (bi : -9223372036854775808 ≤ i ∧ i ≤ 9223372036854775000) (h1 : decide (a0 ≤ i + 1) = true) (h2 : decide (b0 ≥ i + 2) = q)
    (h : ∀ (a' : Act) (w' : World), w' = w → a' = (((((((((((a).put (some 97) (.int .i64 a0)).put (some 98) (.int .i64 i)).put (some 99) (.int .i64 (i + 1))).put (some 100) (.bool true)).put (some 101) (.bool true)).put (some 102) (.int .i64 b0)).put (some 103) (.int .i64 i)).put (some 104) (.int .i64 (i + 2))).put (some 105) (.bool q)).put (some 106) (.bool q)).put (some 17) (.bool q) → Q .normal a' w') :
    (Code.region 14 grw14t_ops false).wp Tryd.prog Q a w := by
  refine z0 rfl ?_
  refine zv rfl (exec_move rfl (zi t12 rfl)) ?_
  refine zv rfl (exec_move rfl (zi t14 rfl)) ?_
  refine zv (v := .int .i64 (i + 1)) rfl (ex_add rfl (zg zz rfl) rfl (by omega)) ?_
  refine zv (v := .bool true) rfl (ex_leq rfl (zg zz rfl) (zg zz rfl) h1) ?_
  refine zv rfl (exec_move rfl (zg zz rfl)) ?_
  refine zv (zw zz rfl rfl rfl (zg zz rfl)) (exec_move rfl (zi t13 rfl)) ?_
  refine zv (zw zz rfl rfl rfl (zg zz rfl)) (exec_move rfl (zi t14 rfl)) ?_
  refine zv (v := .int .i64 (i + 2)) (zw zz rfl rfl rfl (zg zz rfl)) (ex_add rfl (zg zz rfl) rfl (by omega)) ?_
  refine zv (v := .bool q) (zw zz rfl rfl rfl (zg zz rfl)) (ex_geq rfl (zg zz rfl) (zg zz rfl) h2) ?_
  refine zv rfl (exec_pickT rfl (zg zz rfl) (zg zz rfl)) ?_
  refine zv rfl (exec_assign rfl (zg zz rfl)) ?_
  exact ze rfl (h _ _ (rfl) rfl)
def grw14f_o0 : Oper := { dst := some 97, op := Op.move (Operand.tmp 12), type := 3, pos := "law.go:193", after := #[], guard := none }
def grw14f_o1 : Oper := { dst := some 98, op := Op.move (Operand.tmp 14), type := 3, pos := "law.go:193", after := #[], guard := none }
def grw14f_o2 : Oper := { dst := some 99, op := Op.binOp BinOp.add 3 (Operand.tmp 98) (Operand.const (Value.int IntKind.i64 1)) 3, type := 3, pos := "law.go:193", after := #[{ on := 1, ground := Ground.data }], guard := none }
def grw14f_o3 : Oper := { dst := some 100, op := Op.binOp BinOp.leq 3 (Operand.tmp 97) (Operand.tmp 99) 3, type := 4, pos := "law.go:193", after := #[{ on := 0, ground := Ground.data }, { on := 2, ground := Ground.data }], guard := none }
def grw14f_o4 : Oper := { dst := some 101, op := Op.move (Operand.tmp 100), type := 4, pos := "law.go:193", after := #[{ on := 3, ground := Ground.data }], guard := none }
def grw14f_o5 : Oper := { dst := some 102, op := Op.move (Operand.tmp 13), type := 3, pos := "law.go:193", after := #[{ on := 4, ground := Ground.guard }], guard := some (4, true) }
def grw14f_o6 : Oper := { dst := some 103, op := Op.move (Operand.tmp 14), type := 3, pos := "law.go:193", after := #[{ on := 4, ground := Ground.guard }], guard := some (4, true) }
def grw14f_o7 : Oper := { dst := some 104, op := Op.binOp BinOp.add 3 (Operand.tmp 103) (Operand.const (Value.int IntKind.i64 2)) 3, type := 3, pos := "law.go:193", after := #[{ on := 6, ground := Ground.data }, { on := 4, ground := Ground.guard }], guard := some (4, true) }
def grw14f_o8 : Oper := { dst := some 105, op := Op.binOp BinOp.geq 3 (Operand.tmp 102) (Operand.tmp 104) 3, type := 4, pos := "law.go:193", after := #[{ on := 5, ground := Ground.data }, { on := 7, ground := Ground.data }, { on := 4, ground := Ground.guard }], guard := some (4, true) }
def grw14f_o9 : Oper := { dst := some 106, op := Op.pick (Operand.tmp 101) (Operand.tmp 105) (Operand.const (Value.bool false)), type := 4, pos := "law.go:193", after := #[{ on := 4, ground := Ground.data }, { on := 8, ground := Ground.data }], guard := none }
def grw14f_o10 : Oper := { dst := some 17, op := Op.assign (Operand.tmp 106), type := 4, pos := "law.go:193", after := #[{ on := 9, ground := Ground.data }, { on := 4, ground := Ground.chain }, { on := 0, ground := Ground.phase }, { on := 1, ground := Ground.phase }, { on := 2, ground := Ground.phase }, { on := 3, ground := Ground.phase }, { on := 4, ground := Ground.phase }, { on := 5, ground := Ground.phase }, { on := 6, ground := Ground.phase }, { on := 7, ground := Ground.phase }, { on := 8, ground := Ground.phase }, { on := 9, ground := Ground.phase }], guard := none }
def grw14f_ops : Array Oper := #[grw14f_o0, grw14f_o1, grw14f_o2, grw14f_o3, grw14f_o4, grw14f_o5, grw14f_o6, grw14f_o7, grw14f_o8, grw14f_o9, grw14f_o10]
set_option maxRecDepth 100000 in
set_option maxHeartbeats 4000000 in
theorem grw14f {a0 b0 i : Int} (a : Act) (w : World) (Q : Exit → Act → World → Prop) (zz : a.tmps.size = 117)
    (t12 : a.tmps.getD 12 undef = .int .i64 a0)
    (t13 : a.tmps.getD 13 undef = .int .i64 b0)
    (t14 : a.tmps.getD 14 undef = .int .i64 i)
    (bi : -9223372036854775808 ≤ i ∧ i ≤ 9223372036854775000) (h1 : decide (a0 ≤ i + 1) = false)
    (h : ∀ (a' : Act) (w' : World), w' = w → a' = (((((((((((a).put (some 97) (.int .i64 a0)).put (some 98) (.int .i64 i)).put (some 99) (.int .i64 (i + 1))).put (some 100) (.bool false)).put (some 101) (.bool false)).put (some 102) (undef)).put (some 103) (undef)).put (some 104) (undef)).put (some 105) (undef)).put (some 106) (.bool false)).put (some 17) (.bool false) → Q .normal a' w') :
    (Code.region 14 grw14f_ops false).wp Tryd.prog Q a w := by
  refine z0 rfl ?_
  refine zv rfl (exec_move rfl (zi t12 rfl)) ?_
  refine zv rfl (exec_move rfl (zi t14 rfl)) ?_
  refine zv (v := .int .i64 (i + 1)) rfl (ex_add rfl (zg zz rfl) rfl (by omega)) ?_
  refine zv (v := .bool false) rfl (ex_leq rfl (zg zz rfl) (zg zz rfl) h1) ?_
  refine zv rfl (exec_move rfl (zg zz rfl)) ?_
  refine zn (zx zz rfl rfl rfl (zg zz rfl)) ?_
  refine zn (zx zz rfl rfl rfl (zg zz rfl)) ?_
  refine zn (zx zz rfl rfl rfl (zg zz rfl)) ?_
  refine zn (zx zz rfl rfl rfl (zg zz rfl)) ?_
  refine zv rfl (exec_pickF rfl (zg zz rfl) rfl) ?_
  refine zv rfl (exec_assign rfl (zg zz rfl)) ?_
  exact ze rfl (h _ _ (rfl) rfl)
end Go.Proofs.YtifendlpeebofaaDoor

namespace Go.Proofs.YtifendlpeebofaaDoor
open Go.RowKit Sq
set_option linter.unusedVariables false
set_option linter.unusedSimpArgs false

theorem idN_inj {a b : Int} : idN a = idN b ↔ a = b := by simp [idN]
theorem idN_zero : idN 0 = zId := rfl
theorem idN_ok {n : Int} (h : -9223372036854775808 ≤ n ∧ n ≤ 9223372036854775807) : (idN n).ok := ⟨zId_ok.l, h.1, h.2⟩
/-- Elements one behind the other. -/
def seg (a n : Nat) : List Elt := (List.range n).map fun (i : Nat) => (⟨idN ((a + i + 1 : Nat) : Int), idN ((a + i : Nat) : Int), true⟩ : Elt)
theorem seg_len (a n : Nat) : (seg a n).length = n := by simp [seg]
theorem seg_succ (a n : Nat) : seg a (n + 1) = seg a n ++ [⟨idN ((a + n + 1 : Nat) : Int), idN ((a + n : Nat) : Int), true⟩] := by
  unfold seg
  rw [List.range_succ, List.map_append]
  rfl
theorem seg_app (a m : Nat) : ∀ n, seg a (m + n) = seg a m ++ seg (a + m) n
  | 0 => by simp [seg]
  | n + 1 => by rw [← Nat.add_assoc, seg_succ, seg_app a m n, seg_succ, List.append_assoc, Nat.add_assoc a m n]
theorem seg_one (a : Nat) : seg a 1 = [⟨idN ((a + 1 : Nat) : Int), idN ((a : Nat) : Int), true⟩] := by simp [seg]
theorem seg_mem {a n : Nat} {y : Elt} (h : y ∈ seg a n) : ∃ i, i < n ∧ y.id = idN ((a + i + 1 : Nat) : Int) := by
  obtain ⟨i, hi, rfl⟩ := List.mem_map.1 h
  exact ⟨i, List.mem_range.1 hi, rfl⟩
theorem seg_not {a n : Nat} {p : Int} (h : p ≤ a ∨ (a : Int) + n < p) : ∀ y ∈ seg a n, y.id ≠ idN p := fun y hy e => by
  obtain ⟨i, hi, q⟩ := seg_mem hy
  rw [q, idN_inj] at e
  omega
/-- Cut at one. -/
theorem seg_cut {a n p : Nat} (h0 : a < p) (h1 : p ≤ a + n) : seg a n = seg a (p - a - 1) ++ (⟨idN (p : Int), idN ((p - 1 : Nat) : Int), true⟩ : Elt) :: seg p (a + n - p) := by
  have e : n = (p - a - 1) + (1 + (a + n - p)) := by omega
  rw [show seg a n = seg a ((p - a - 1) + (1 + (a + n - p))) by rw [← e], seg_app, seg_app, seg_one]
  rw [show a + (p - a - 1) = p - 1 by omega, show p - 1 + 1 = p by omega]
  rfl
theorem ahead_mid {A B : List Elt} {e : Elt} (h : ∀ y ∈ A, y.id ≠ e.id) : aheadE (A ++ e :: B) false e.id = (A.length : Int) := by
  unfold aheadE
  rw [if_pos (hasE_iff.2 ⟨e, by simp, rfl⟩), takeWhile_mid (fun y hy => by simp [h y hy]) (by simp)]
  congr 1
  rw [List.countP_eq_length]
  intro y _
  rfl
theorem ahead_seg {k p : Nat} (h0 : 0 < p) (h1 : p ≤ k) : aheadE (seg 0 k) false (idN (p : Int)) = (p : Int) - 1 := by
  rw [seg_cut h0 (by omega)]
  have := ahead_mid (A := seg 0 (p - 0 - 1)) (B := seg p (0 + k - p)) (e := ⟨idN (p : Int), idN ((p - 1 : Nat) : Int), true⟩) (seg_not (.inr (by omega)))
  rw [this, seg_len]
  omega
theorem has_seg {k p : Nat} (h0 : 0 < p) (h1 : p ≤ k) : hasE (seg 0 k) (idN (p : Int)) = true := by
  rw [seg_cut h0 (by omega)]
  exact hasE_iff.2 ⟨_, List.mem_append.2 (.inr (List.mem_cons_self ..)), rfl⟩
theorem hasnt {E : List Elt} {k : IdK} (h : ∀ y ∈ E, y.id ≠ k) : hasE E k = false := by
  cases e : hasE E k with
  | false => rfl
  | true => obtain ⟨y, hy, q⟩ := hasE_iff.1 e; exact absurd q (h y hy)
/-- One more at the end. -/
theorem ins_seg (k : Nat) : insC (seg 0 k) (idN ((k : Int) + 1)) (idN (k : Int)) = 0 ∧ insR (seg 0 k) (idN ((k : Int) + 1)) (idN (k : Int)) = seg 0 (k + 1) := by
  have c : insC (seg 0 k) (idN ((k : Int) + 1)) (idN (k : Int)) = 0 := by
    unfold insC
    rw [if_neg (show ¬ (idN ((k : Int) + 1)).n < 1 by show ¬ (k : Int) + 1 < 1; omega), if_neg (by rw [hasnt (seg_not (.inr (by omega)))]; decide), if_neg]
    rintro ⟨h1, h2⟩
    rcases Nat.eq_zero_or_pos k with rfl | hk
    · exact h1 idN_zero
    · rw [has_seg hk (Nat.le_refl _)] at h2; cases h2
  refine ⟨c, ?_⟩
  unfold insR
  rw [if_pos c, seg_succ, Nat.zero_add]
  unfold putE
  rcases Nat.eq_zero_or_pos k with rfl | hk
  · rw [if_pos (by exact idN_zero)]; rfl
  · rw [if_neg (fun e => by rw [← idN_zero, idN_inj] at e; omega)]
    rw [show k = (k - 1) + 1 by omega, seg_succ, Nat.zero_add]
    have := insE_mid (A := seg 0 (k - 1)) (B := []) (e := ⟨idN ((k - 1 + 1 : Nat) : Int), idN ((k - 1 : Nat) : Int), true⟩) (x := ⟨idN ((k - 1 + 1 : Nat) + 1), idN ((k - 1 + 1 : Nat) : Int), true⟩) (seg_not (.inr (by omega)))
    rw [this]
    simp
/-- One in between. -/
def insG (q r : Nat) : List Elt := seg 0 q ++ (⟨idN 99, idN (q : Int), true⟩ : Elt) :: seg q r
theorem ins_mid {k q : Nat} (h0 : 0 < q) (h1 : q ≤ k) (h2 : k ≤ 90) : insC (seg 0 k) (idN 99) (idN (q : Int)) = 0 ∧ insR (seg 0 k) (idN 99) (idN (q : Int)) = insG q (k - q) := by
  have c : insC (seg 0 k) (idN 99) (idN (q : Int)) = 0 := by
    unfold insC
    rw [if_neg (show ¬ (idN 99).n < 1 by show ¬ (99 : Int) < 1; omega), if_neg (by rw [hasnt (seg_not (.inr (by omega)))]; decide), if_neg]
    rintro ⟨_, h3⟩
    rw [has_seg h0 h1] at h3; cases h3
  refine ⟨c, ?_⟩
  unfold insR
  rw [if_pos c]
  unfold putE
  rw [if_neg (fun e => by rw [← idN_zero, idN_inj] at e; omega), seg_cut h0 (show q ≤ 0 + k by omega)]
  have := insE_mid (A := seg 0 (q - 0 - 1)) (B := seg q (0 + k - q)) (e := ⟨idN (q : Int), idN ((q - 1 : Nat) : Int), true⟩) (x := ⟨idN 99, idN (q : Int), true⟩) (seg_not (.inr (by omega)))
  rw [this]
  unfold insG
  rw [show seg 0 q = seg 0 ((q - 1) + 1) by rw [show q - 1 + 1 = q by omega], seg_succ, show 0 + (q - 1) + 1 = q by omega, show 0 + (q - 1) = q - 1 by omega]
  simp
theorem aheadG_lo {q r p : Nat} (h0 : 0 < p) (h1 : p ≤ q) : aheadE (insG q r) false (idN (p : Int)) = (p : Int) - 1 := by
  unfold insG
  rw [seg_cut h0 (show p ≤ 0 + q by omega), List.append_assoc, List.cons_append]
  have := ahead_mid (A := seg 0 (p - 0 - 1)) (B := seg p (0 + q - p) ++ (⟨idN 99, idN (q : Int), true⟩ : Elt) :: seg q r) (e := ⟨idN (p : Int), idN ((p - 1 : Nat) : Int), true⟩) (seg_not (.inr (by omega)))
  rw [this, seg_len]
  omega
theorem aheadG_new {q r : Nat} (h : q ≤ 90) : aheadE (insG q r) false (idN 99) = (q : Int) := by
  unfold insG
  have := ahead_mid (A := seg 0 q) (B := seg q r) (e := ⟨idN 99, idN (q : Int), true⟩) (seg_not (.inr (by omega)))
  rw [this, seg_len]
theorem aheadG_hi {q r p : Nat} (h0 : q < p) (h1 : p ≤ q + r) (h2 : q + r ≤ 90) : aheadE (insG q r) false (idN (p : Int)) = (p : Int) := by
  unfold insG
  rw [seg_cut (a := q) (n := r) h0 h1, ← List.cons_append, ← List.append_assoc]
  have := ahead_mid (A := seg 0 q ++ (⟨idN 99, idN (q : Int), true⟩ : Elt) :: seg q (p - q - 1)) (B := seg p (q + r - p)) (e := ⟨idN (p : Int), idN ((p - 1 : Nat) : Int), true⟩) (fun y hy => by
    rcases List.mem_append.1 hy with hy | hy
    · exact seg_not (.inr (by omega)) y hy
    · rcases List.mem_cons.1 hy with rfl | hy
      · intro e; rw [idN_inj] at e; omega
      · exact seg_not (.inr (by omega)) y hy)
  rw [this]
  simp [seg_len]
  omega
theorem hasG_new (q r : Nat) : hasE (insG q r) (idN 99) = true := hasE_iff.2 ⟨_, List.mem_append.2 (.inr (List.mem_cons_self ..)), rfl⟩
/-- What one mark covers, and what of it an element has. -/
theorem reach_of {E : List Elt} {x : MkV} {a b : Int} (ha : x.fr = idN a) (hb : x.to = idN b) (a0 : 0 < a) (b0 : 0 < b) (h1 : 0 ≤ aheadE E false (idN a)) (h2 : 0 ≤ aheadE E false (idN b)) :
    reachP E x = (aheadE E false (idN a) + (if bF x.sd = true then 1 else 0), aheadE E false (idN b) + (if bT x.sd = true then 1 else 0)) := by
  have na : ¬ idN a = zId := fun e => by rw [← idN_zero, idN_inj] at e; omega
  have nb : ¬ idN b = zId := fun e => by rw [← idN_zero, idN_inj] at e; omega
  have e1 : ∀ z bh, edgeP E (idN a) bh z = (aheadE E false (idN a) + (if bh = true then 1 else 0), true) := fun z bh => by
    unfold edgeP
    rw [if_neg na]
    cases bh <;> simp [h1]
  have e2 : ∀ z bh, edgeP E (idN b) bh z = (aheadE E false (idN b) + (if bh = true then 1 else 0), true) := fun z bh => by
    unfold edgeP
    rw [if_neg nb]
    cases bh <;> simp [h2]
  unfold reachP
  rw [ha, hb, e1, e2, if_pos ⟨rfl, rfl⟩]
theorem ov_one {E : List Elt} {x : MkV} (hk : x.v.k ≠ 0) (k : IdK) : (ovL E [x] k).length = if (reachP E x).1 ≤ aheadE E false k ∧ aheadE E false k < (reachP E x).2 then 1 else 0 := by
  unfold ovL covL
  simp only [List.reverse_cons, List.reverse_nil, List.nil_append, List.foldl_cons, List.foldl_nil]
  unfold covStep
  rw [if_neg (by simp)]
  split
  · simp [spL, hk]
  · simp [spL]
end Go.Proofs.YtifendlpeebofaaDoor

namespace Go.Proofs.YtifendlpeebofaaDoor
open Go.RowKit Sq
set_option linter.unusedVariables false
set_option linter.unusedSimpArgs false

/-- A length from 0 to 12. -/
def szP (n : Int) : Int := if Int.tmod n ((13 : Nat) : Int) < 0 then -(Int.tmod n ((13 : Nat) : Int)) else Int.tmod n ((13 : Nat) : Int)
theorem szP_bd (n : Int) : 0 ≤ szP n ∧ szP n ≤ 12 := by
  have l1 : -((13 : Nat) : Int) < Int.tmod n ((13 : Nat) : Int) := by have := Int.lt_tmod_of_pos n (show (0 : Int) < ((13 : Nat) : Int) by omega); omega
  have l2 : Int.tmod n ((13 : Nat) : Int) < ((13 : Nat) : Int) := Int.tmod_lt_of_pos n (by omega)
  unfold szP
  split <;> omega
set_option maxRecDepth 100000 in
theorem size_any (n : Int) (w : World) : Calls Tryd.prog 4 #[.int .i64 n] w fun e w' => e = .returned (.int .i64 (szP n)) ∧ w' = w := by
  have l1 : -((13 : Nat) : Int) < Int.tmod n ((13 : Nat) : Int) := by have := Int.lt_tmod_of_pos n (show (0 : Int) < ((13 : Nat) : Int) by omega); omega
  have l2 : Int.tmod n ((13 : Nat) : Int) < ((13 : Nat) : Int) := Int.tmod_lt_of_pos n (by omega)
  unfold szP
  obtain ⟨r, hr⟩ : ∃ r, Int.tmod n ((13 : Nat) : Int) = r := ⟨_, rfl⟩
  have HR := hidMk hr
  rw [hr] at l1 l2 ⊢
  clear hr
  by_cases hz : r < 0
  · rw [if_pos hz]
    go_enter Tryd.func4, Tryd.ntmps4
    go_wp2_with (first | (refine wpList_val rfl (ex_rem (m := 13) (by omega) HR.out rfl rfl rfl) ?_) | fail)
    go_ret
    refine ⟨?_, rfl⟩
    first | rfl | (congr 2; go_num) | (simp; go_num) | (show Ending.returned _ = _; congr 2; unfold Go.RowKit.wrap64; omega)
  · rw [if_neg hz]
    go_enter Tryd.func4, Tryd.ntmps4
    go_wp2_with (first | (refine wpList_val rfl (ex_rem (m := 13) (by omega) HR.out rfl rfl rfl) ?_) | fail)
    go_ret
    exact ⟨rfl, rfl⟩
set_option maxRecDepth 100000 in
theorem rnew_any (w : World) : Calls Tryd.prog 11 #[] w fun e w' => (∃ b, e = .returned (.pointer (some ⟨b, 0, none⟩))) ∧ Below w.heap.size w w' := by
  go_enter Tryd.func11, Tryd.ntmps11
  go_wp2
  go_ret
  exact ⟨⟨_, rfl⟩, (Below.refl _ _).alloc (Nat.le_refl _) _⟩
/-- Both, new. -/
theorem gr_new {w w1 w2 : World} {s : Sx} {m : Mx} (hs : SeqAt w1 s []) (c1 : ∀ j ∈ s.bl, w.heap.size ≤ j) (b1 : Below w.heap.size w w1) (hm : MkAt w2 w1.heap.size m) (hL : m.L = []) (c2 : ∀ j, m.bl j → w1.heap.size ≤ j) (b2 : Below w1.heap.size w1 w2) : Gr w s.sb m.mb (seg 0 0) [] w2 :=
  ⟨⟨s, m, rfl, rfl, hs.below b2, ⟨hm.cell, hm.lo.mono b1.size, hm.ok, hm.map, hm.n⟩, hL, c1, fun j hj => Nat.le_trans b1.size (c2 j hj), fun j hj hq => by
    have := hs.lt j hj
    have := c2 j hq
    omega⟩, b1.trans (b2.mono b1.size)⟩
set_option maxRecDepth 100000 in
set_option maxHeartbeats 4000000 in
theorem laid_any (k : Nat) (hk : k ≤ 90) (w : World) : Calls Tryd.prog 5 #[.int .i64 (k : Int), .slice none 0 0] w fun e w' => ∃ sb mb, e = .returned (.tuple #[.pointer (some ⟨sb, 0, none⟩), .pointer (some ⟨mb, 0, none⟩), .bool true]) ∧ Gr w sb mb (seg 0 k) [] w' := by
  have HN := hidMk (new_any w)
  have HM := hidMk mnew_any
  have HR := hidMk rnew_any
  go_enter Tryd.func5, Tryd.ntmps5
  go_upto_region 4 with (first
    | (go_at_call 9; refine HN.out.mono ?_; rintro e w1 ⟨s, rfl, hs, c1, b1⟩)
    | (go_at_call 10; refine (HM.out _).mono ?_; rintro e w2 ⟨m, rfl, hm, hL, c2, b2⟩)
    | fail)
  have G0 := gr_new hs c1 b1 hm hL c2 b2
  have i0 := id_new w2 zId
  have bx : Below w2.heap.size w2 (w2.alloc (.cells zId.c.toArray 34)) := (Below.refl _ _).alloc (Nat.le_refl _) _
  have ez := id_zero w2
  have es := store_id zId_ok zId_ok i0
  have i3 := i0.set zId
  have b3 := bx.trans (set_below zId.c.toArray bx.size (Nat.le_refl w2.heap.size))
  have G3 := G0.below b3
  have hl0 : w.heap.size ≤ w2.heap.size := G0.bel.size
  obtain ⟨W3, hW3⟩ : ∃ W, (w2.alloc (.cells zId.c.toArray 34)).setRow w2.heap.size zId.c.toArray = W := ⟨_, rfl⟩
  rw [hW3] at es i3 G3
  clear hs c1 b1 hm hL c2 b2 HN HM G0 i0 bx b3 hW3
  refine lai4 (lb := w2.heap.size) _ w2 _ rfl ez es ?_
  intro a' W hw ha
  obtain rfl : W3 = W := hw.symm
  subst ha
  simp only [Act.put, List.setIfInBounds_toArray, List.set_cons_zero, List.set_cons_succ]
  clear ez es
  generalize s.sb = sb at *
  generalize m.mb = mb at *
  generalize w2.heap.size = lb at *
  have LB0 := hidMk hl0
  clear hl0
  go_wp2
  go_loopw [10] (fun v10 wr => ∃ j : Nat, v10 = .int .i64 (j : Int) ∧ 1 ≤ j ∧ j ≤ k + 1 ∧ Hid (Gr w sb mb (seg 0 (j - 1)) [] wr ∧ IdAt wr lb (idN ((j - 1 : Nat) : Int)))) (fun v10 _ => (k + 1) - (match v10 with | .int _ i => i.toNat | _ => 0))
  case atStart => exact ⟨1, rfl, by omega, by omega, G3, i3⟩
  case round =>
    clear G3 i3
    obtain ⟨j, rfl, hj1, hjk, HI⟩ := hrel
    obtain ⟨i, rfl⟩ : ∃ i, j = i + 1 := ⟨j - 1, by omega⟩
    rw [Nat.add_sub_cancel] at HI
    by_cases hj : i + 1 ≤ k
    · obtain ⟨G, iq⟩ := HI.out
      have oki : (idN (i : Int)).ok := idN_ok (by omega)
      have okj : (idN ((i : Int) + 1)).ok := idN_ok (by omega)
      have hjj : ((i + 1 : Nat) : Int) ≤ (k : Int) := by omega
      have i0 := id_new wr zId
      have bx : Below wr.heap.size wr (wr.alloc (.cells zId.c.toArray 34)) := (Below.refl _ _).alloc (Nat.le_refl _) _
      have ez := id_zero wr
      have es := store_id zId_ok okj i0
      have i3 := i0.set (idN ((i : Int) + 1))
      have b3 := bx.trans (set_below (idN ((i : Int) + 1)).c.toArray bx.size (Nat.le_refl wr.heap.size))
      have G3 := G.below b3
      have q3 := iq.below b3
      obtain ⟨W4, hW4⟩ : ∃ W, (wr.alloc (.cells zId.c.toArray 34)).setRow wr.heap.size (idN ((i : Int) + 1)).c.toArray = W := ⟨_, rfl⟩
      rw [hW4] at es i3 G3 q3
      clear G iq HI i0 bx b3 hW4
      rw [show ((i + 1 : Nat) : Int) = (i : Int) + 1 by omega] at *
      go_upto_region 8 with fail
      refine lai8 (ib := wr.heap.size) (i := (i : Int) + 1) _ wr _ rfl rfl ez es ?_
      intro a' W hw ha
      obtain rfl : W4 = W := hw.symm
      subst ha
      simp only [Act.put, List.setIfInBounds_toArray, List.set_cons_zero, List.set_cons_succ]
      clear ez es
      go_upto_region 9 with fail
      refine lai9 (sb := sb) (lb := lb) (ib := wr.heap.size) (k := idN ((i : Int) + 1)) (q := idN (i : Int)) (z := 0) (r := false) (fun X => Gr w sb mb (seg 0 (i + 1)) [] X ∧ IdAt X wr.heap.size (idN ((i : Int) + 1)) ∧ IdAt X lb (idN (i : Int))) _ W4 _ rfl rfl rfl rfl rfl (fun X e => by rw [e]; exact load_id oki q3) (fun X e => by rw [e]; exact load_id okj i3) ((G3.insI okj oki (by rw [seg_len]; omega) okj oki i3 q3).mono ?_) ?_
      · rintro e X ⟨rfl, g, x1, x2⟩
        rw [(ins_seg i).2] at g
        exact ⟨by rw [(ins_seg i).1]; rfl, g, x1, x2⟩
      intro a' W5 hf ha
      subst ha
      simp only [Act.put, List.setIfInBounds_toArray, List.set_cons_zero, List.set_cons_succ]
      obtain ⟨G5, i5, q5⟩ := hf
      have es := store_id oki okj q5
      have q6 := q5.set (idN ((i : Int) + 1))
      have G6 := G5.put oki q5 LB0.out ((setRow_tch W5 lb (idN ((i : Int) + 1)).c.toArray).mono (fun j _ e => by simpa using e.symm))
      obtain ⟨W6, hW6⟩ : ∃ W, W5.setRow lb (idN ((i : Int) + 1)).c.toArray = W := ⟨_, rfl⟩
      rw [hW6] at es q6 G6
      have NX : Hid (Gr w sb mb (seg 0 (i + 1)) [] W6 ∧ IdAt W6 lb (idN ((i : Int) + 1))) := ⟨G6, q6⟩
      clear G3 i3 q3 G5 q5 q6 G6 hW6
      go_upto_region 11 with fail
      refine lai11 (lb := lb) (ib := wr.heap.size) (k := idN ((i : Int) + 1)) _ W5 _ rfl rfl rfl (fun X e => by rw [e]; exact load_id okj i5) es ?_
      intro a' W hw ha
      obtain rfl : W6 = W := hw.symm
      subst ha
      simp only [Act.put, List.setIfInBounds_toArray, List.set_cons_zero, List.set_cons_succ]
      clear es i5
      go_wp2
      rw [show ((i : Int) + 1 + 1) = ((i + 2 : Nat) : Int) by omega]
      refine ⟨⟨i + 2, rfl, by omega, by omega, ?_⟩, ?_⟩
      · have := NX.out
        exact this
      · show (k + 1) - ((i + 2 : Nat) : Int).toNat < (k + 1) - ((i : Int) + 1).toNat
        omega
    · obtain rfl : i = k := by omega
      have hjj : ¬ ((i + 1 : Nat) : Int) ≤ (i : Int) := by omega
      have GG := hidMk HI.out.1
      clear HI
      go_wp2_with (first
        | (go_at_call 11; refine (HR.out _).mono ?_; rintro e w9 ⟨⟨b, rfl⟩, b9⟩)
        | fail)
      refine wp_loop_rounds 1 ?_
      rw [rounds_succ]
      go_wp2
      trace_state
      refine bodyPost_ret (results_tmp3 rfl _ _ _) rfl ?_
      exact ⟨sb, mb, rfl, GG.out.below b9⟩
end Go.Proofs.YtifendlpeebofaaDoor

namespace Go.Proofs.YtifendlpeebofaaDoor
open Go.RowKit Sq
set_option linter.unusedVariables false
set_option linter.unusedSimpArgs false

def ovN (E : List Elt) (x : MkV) (k : IdK) : Nat := if hasE E k = true then (ovL E [x] k).length else 0
theorem grow_pure {x : MkV} {A B I K : Nat} (ha : x.fr = idN (A : Int)) (hb : x.to = idN (B : Int)) (hk : x.v.k ≠ 0) (A1 : 1 ≤ A) (A2 : A ≤ K) (B1 : 1 ≤ B) (B2 : B ≤ K) (hI : I + 2 ≤ K) (hK : K ≤ 90) :
    (ovN (insG (I + 1) (K - (I + 1))) x (idN 99) = 1 ↔ (A ≤ I + 1 ∧ I + 2 ≤ B)) ∧ (ovN (seg 0 K) x (idN ((I + 1 : Nat) : Int)) = 1 → ovN (seg 0 K) x (idN ((I + 2 : Nat) : Int)) = 1 → ovN (insG (I + 1) (K - (I + 1))) x (idN 99) = 1) := by
  have sA := ahead_seg (k := K) (p := A) (by omega) A2
  have sB := ahead_seg (k := K) (p := B) (by omega) B2
  have s1 := ahead_seg (k := K) (p := I + 1) (by omega) (by omega)
  have s2 := ahead_seg (k := K) (p := I + 2) (by omega) (by omega)
  have h1 := has_seg (k := K) (p := I + 1) (by omega) (by omega)
  have h2 := has_seg (k := K) (p := I + 2) (by omega) (by omega)
  have gA : aheadE (insG (I + 1) (K - (I + 1))) false (idN (A : Int)) = if A ≤ I + 1 then (A : Int) - 1 else (A : Int) := by
    split
    · next q => exact aheadG_lo (by omega) q
    · next q => exact aheadG_hi (by omega) (by omega) (by omega)
  have gB : aheadE (insG (I + 1) (K - (I + 1))) false (idN (B : Int)) = if B ≤ I + 1 then (B : Int) - 1 else (B : Int) := by
    split
    · next q => exact aheadG_lo (by omega) q
    · next q => exact aheadG_hi (by omega) (by omega) (by omega)
  have gN := aheadG_new (q := I + 1) (r := K - (I + 1)) (by omega)
  have r1 := reach_of (E := seg 0 K) ha hb (by omega) (by omega) (by rw [sA]; omega) (by rw [sB]; omega)
  have r2 := reach_of (E := insG (I + 1) (K - (I + 1))) ha hb (by omega) (by omega) (by rw [gA]; split <;> omega) (by rw [gB]; split <;> omega)
  unfold ovN
  rw [if_pos h1, if_pos h2, if_pos (hasG_new _ _), ov_one hk, ov_one hk, ov_one hk, r1, r2, sA, sB, s1, s2, gA, gB, gN]
  simp only
  obtain ⟨f, hf⟩ : ∃ f : Int, (if bF x.sd = true then 1 else 0) = f := ⟨_, rfl⟩
  obtain ⟨t, ht⟩ : ∃ t : Int, (if bT x.sd = true then 1 else 0) = t := ⟨_, rfl⟩
  rw [hf, ht]
  have f01 : 0 ≤ f ∧ f ≤ 1 := by rw [← hf]; split <;> omega
  have t01 : 0 ≤ t ∧ t ≤ 1 := by rw [← ht]; split <;> omega
  clear hf ht r1 r2 gA gB gN sA sB s1 s2 h1 h2
  refine ⟨?_, ?_⟩
  · by_cases a : A ≤ I + 1 <;> by_cases b : B ≤ I + 1 <;> simp only [a, b, if_true, if_false, true_and, false_and] <;> split <;> (constructor <;> intro q <;> first | omega | (exfalso; omega))
  · by_cases a : A ≤ I + 1 <;> by_cases b : B ≤ I + 1 <;> simp only [a, b, if_true, if_false] <;> split <;> split <;> split <;> omega
def boldB : ByteArray := { data := #[98, 111, 108, 100] }
theorem bold_key : keyB boldB = true := by kernel_rfl
theorem bold_right : boldV.right = true := by kernel_rfl
theorem boldV_ok : boldV.ok := ⟨by decide, by decide, by decide, by decide, by decide, by decide⟩
theorem add_bold {a b sd : Int} (h0 : 0 ≤ sd) (h1 : sd ≤ 3) : addC [] ⟨idN 1, boldB, boldV, idN a, idN b, sd⟩ = 0 := by
  unfold addC
  rw [if_neg (show ¬ (idN 1).n < 1 by show ¬ (1 : Int) < 1; omega), if_neg (show ¬ sd < 0 by omega), if_neg (show ¬ sd > 3 by omega), if_neg (by simp [hasM]), if_neg (show ¬ keyB boldB = false by rw [bold_key]; decide), if_neg (show ¬ boldV.right = false by rw [bold_right]; decide), if_pos (show boldV.k ≤ 7 by decide)]
end Go.Proofs.YtifendlpeebofaaDoor

namespace Go.Proofs.YtifendlpeebofaaDoor
open Go.RowKit Sq
set_option linter.unusedVariables false
set_option linter.unusedSimpArgs false

def fiveC (f0 f1 f2 f3 f4 : Int) : Array Value := #[.int .i64 f0, .int .i64 f1, .int .i64 f2, .int .i64 f3, .int .i64 f4]
theorem ld_five {X : World} {b : Nat} {f0 f1 f2 f3 f4 : Int} (h : X.heap[b]? = some (.cells (fiveC f0 f1 f2 f3 f4) 23 (0, 0))) :
    (Instr.loadAt 3 (.pointer (some ⟨b, 0 + 0, none⟩))).run Tryd.prog X = .ok (.int .i64 f0) X ∧ (Instr.loadAt 3 (.pointer (some ⟨b, 0 + 1, none⟩))).run Tryd.prog X = .ok (.int .i64 f1) X ∧ (Instr.loadAt 3 (.pointer (some ⟨b, 0 + 2, none⟩))).run Tryd.prog X = .ok (.int .i64 f2) X ∧ (Instr.loadAt 3 (.pointer (some ⟨b, 0 + 3, none⟩))).run Tryd.prog X = .ok (.int .i64 f3) X ∧ (Instr.loadAt 3 (.pointer (some ⟨b, 0 + 4, none⟩))).run Tryd.prog X = .ok (.int .i64 f4) X := by
  have c0 : X.cell? ⟨b, 0, none⟩ = some (.int .i64 f0) := (cell_of_row X b 0 _ _ _ h).trans rfl
  have c1 : X.cell? ⟨b, 1, none⟩ = some (.int .i64 f1) := (cell_of_row X b 1 _ _ _ h).trans rfl
  have c2 : X.cell? ⟨b, 2, none⟩ = some (.int .i64 f2) := (cell_of_row X b 2 _ _ _ h).trans rfl
  have c3 : X.cell? ⟨b, 3, none⟩ = some (.int .i64 f3) := (cell_of_row X b 3 _ _ _ h).trans rfl
  have c4 : X.cell? ⟨b, 4, none⟩ = some (.int .i64 f4) := (cell_of_row X b 4 _ _ _ h).trans rfl
  refine ⟨?_, ?_, ?_, ?_, ?_⟩ <;> go_simp
theorem sz_nat (n : Int) : ∃ s : Nat, szP n = (s : Int) ∧ s ≤ 12 := by
  have := szP_bd n
  exact ⟨(szP n).toNat, by omega, by omega⟩
theorem tm_nat (s m : Nat) (h : 0 < m) : ∃ r : Nat, Int.tmod (s : Int) (m : Int) = (r : Int) ∧ r < m := by
  have h1 := Int.tmod_nonneg (a := (s : Int)) (m : Int) (by omega)
  have h2 := Int.tmod_lt_of_pos (s : Int) (show (0 : Int) < (m : Int) by omega)
  exact ⟨(Int.tmod (s : Int) (m : Int)).toNat, by omega, by omega⟩
theorem Gr.overN {w W : World} {sb mb : Nat} {E : List Elt} {x : MkV} (h : Gr w sb mb E [x] W) {k : IdK} (hk : k.ok) : Calls Tryd.prog 7 #[.pointer (some ⟨mb, 0, none⟩), .pointer (some ⟨sb, 0, none⟩), k.v] W fun e w' => ∃ a c, e = .returned (.slice a (ovN E x k) c) ∧ Gr w sb mb E [x] w' := by
  refine (h.over hk).mono ?_
  rintro e w' ⟨⟨a, n, c, rfl, rfl⟩, g⟩
  exact ⟨a, c, rfl, g⟩
set_option maxRecDepth 100000 in
set_option maxHeartbeats 8000000 in
theorem grow_all (f0 f1 f2 f3 f4 : Int) (w : World) (hT : K.V.Tabs w) : Calls Tryd.prog 3 #[.agg #[.int .i64 f0, .int .i64 f1, .int .i64 f2, .int .i64 f3, .int .i64 f4]] w fun e w' => e = .returned (.bool true) ∧ Below w.heap.size w w' := by
  obtain ⟨s0, e0, l0⟩ := sz_nat f0
  obtain ⟨s1, e1, l1⟩ := sz_nat f1
  obtain ⟨s2, e2, l2⟩ := sz_nat f2
  obtain ⟨s3, e3, l3⟩ := sz_nat f3
  obtain ⟨s4, e4, l4⟩ := sz_nat f4
  obtain ⟨kk, hkk⟩ : ∃ kk, 2 + s0 = kk := ⟨_, rfl⟩
  obtain ⟨r1, t1, q1⟩ := tm_nat s1 kk (by omega)
  obtain ⟨r2, t2, q2⟩ := tm_nat s2 kk (by omega)
  obtain ⟨r3, t3, q3⟩ := tm_nat s3 (kk - 1) (by omega)
  obtain ⟨r4, t4, q4⟩ := tm_nat s4 4 (by omega)
  have Z0 : Hid (∀ X, Calls Tryd.prog 4 #[.int .i64 f0] X fun e w' => e = .returned (.int .i64 (s0 : Int)) ∧ w' = X) := fun X => by rw [← e0]; exact size_any f0 X
  have Z1 : Hid (∀ X, Calls Tryd.prog 4 #[.int .i64 f1] X fun e w' => e = .returned (.int .i64 (s1 : Int)) ∧ w' = X) := fun X => by rw [← e1]; exact size_any f1 X
  have Z2 : Hid (∀ X, Calls Tryd.prog 4 #[.int .i64 f2] X fun e w' => e = .returned (.int .i64 (s2 : Int)) ∧ w' = X) := fun X => by rw [← e2]; exact size_any f2 X
  have Z3 : Hid (∀ X, Calls Tryd.prog 4 #[.int .i64 f3] X fun e w' => e = .returned (.int .i64 (s3 : Int)) ∧ w' = X) := fun X => by rw [← e3]; exact size_any f3 X
  have Z4 : Hid (∀ X, Calls Tryd.prog 4 #[.int .i64 f4] X fun e w' => e = .returned (.int .i64 (s4 : Int)) ∧ w' = X) := fun X => by rw [← e4]; exact size_any f4 X
  clear e0 e1 e2 e3 e4
  obtain ⟨x, hx⟩ : ∃ x : MkV, x = ⟨idN 1, boldB, boldV, idN ((r1 : Int) + 1), idN ((r2 : Int) + 1), (r4 : Int)⟩ := ⟨_, rfl⟩
  have okx : x.ok := by
    rw [hx]
    exact ⟨idN_ok (by omega), by show boldB.size ≤ maxLen; decide, boldV_ok, idN_ok (by omega), idN_ok (by omega), by show -9223372036854775808 ≤ (r4 : Int); omega, by show (r4 : Int) ≤ 9223372036854775807; omega⟩
  have ac : addC [] x = 0 := by rw [hx]; exact add_bold (by omega) (by omega)
  have ar : addR [] x = [x] := by unfold addR; rw [if_pos ac]; rfl
  have PU := hidMk (grow_pure (x := x) (A := r1 + 1) (B := r2 + 1) (I := r3) (K := kk) (by rw [hx]; rfl) (by rw [hx]; rfl) (by rw [hx]; show boldV.k ≠ 0; decide) (by omega) (by omega) (by omega) (by omega) (by omega) (by omega))
  have CM := hidMk (ins_mid (k := kk) (q := r3 + 1) (by omega) (by omega) (by omega))
  have HT := hidMk hT
  have AD : Hid (∀ (wb : World) (sb mb : Nat) (X : World), Gr wb sb mb (seg 0 kk) [] X → K.V.Tabs X → Calls Tryd.prog 6 #[.pointer (some ⟨mb, 0, none⟩), (idN 1).v, .string boldB, boldV.v, (idN ((r1 : Int) + 1)).v, (idN ((r2 : Int) + 1)).v, .int .i64 (r4 : Int)] X fun e w' => e = .returned (.int .i64 0) ∧ Gr wb sb mb (seg 0 kk) [x] w') := fun wb sb mb X g tX => by
    have := g.add tX okx (by decide)
    rw [ac, ar, hx] at this
    rw [hx]
    exact this
  clear okx ac ar hx hT
  have S0 : Hid ((w.alloc (.cells (fiveC f0 f1 f2 f3 f4) 23)).drew.heap[w.heap.size]? = some (.cells (fiveC f0 f1 f2 f3 f4) 23 (0, 0)) ∧ Below w.heap.size w (w.alloc (.cells (fiveC f0 f1 f2 f3 f4) 23)).drew) := ⟨heap_alloc_new _ _, ((Below.refl _ _).alloc (Nat.le_refl _) _).drew⟩
  go_enter Tryd.func3, Tryd.ntmps3
  go_upto_region 1 with fail
  refine grw1 (fb := w.heap.size) (f0 := f0) (f1 := f1) (f2 := f2) (f3 := f3) (f4 := f4) (fun X => X.heap[w.heap.size]? = some (.cells (fiveC f0 f1 f2 f3 f4) 23 (0, 0)) ∧ Below w.heap.size w X) _ (w.alloc (.cells (fiveC f0 f1 f2 f3 f4) 23)) _ rfl rfl S0.out (fun X h => (ld_five h.1).1) (fun X h => (ld_five h.1).2.1) (fun X h => (ld_five h.1).2.2.1) (fun X h => (ld_five h.1).2.2.2.1) (fun X h => (ld_five h.1).2.2.2.2) ?_
  intro a' W1 hf ha
  subst ha
  simp only [Act.put, List.setIfInBounds_toArray, List.set_cons_zero, List.set_cons_succ]
  have B1 := hidMk hf.2
  clear hf S0
  go_upto_region 3 with (first
    | (go_at_call 4; refine (Z0.out _).mono ?_; rintro e W1 ⟨rfl, rfl⟩)
    | fail)
  rw [show (2 : Int) + (s0 : Int) = (kk : Int) by omega]
  clear Z0
  have LD := hidMk (laid_any kk (by omega) W1)
  go_upto_region 6 with (first
    | (go_at_call 5; refine LD.out.mono ?_; rintro e W2 ⟨sb, mb, rfl, g2⟩)
    | fail)
  clear LD
  have HT2 := hidMk (fun (X : World) (b : Below w.heap.size w X) => HT.out.below b)
  clear HT
  have FB : Hid (∀ (X : World) (E : List Elt) (L : List MkV), Gr W1 sb mb E L X → Below w.heap.size w X) := fun X E L g => B1.out.trans (g.bel.mono B1.out.size)
  refine grw6 (k := kk) (n1 := f1) (n2 := f2) (s1 := (s1 : Int)) (s2 := (s2 : Int)) (r1 := (r1 : Int)) (r2 := (r2 : Int)) (fun X => Gr W1 sb mb (seg 0 kk) [] X) _ W2 _ rfl rfl rfl rfl (g2.below (Below.refl _ _).drew) (by omega) t1 t2 (by omega) (by omega) ((Z1.out _).mono ?_) ?_
  · rintro e X ⟨rfl, hX⟩
    have gX : Gr W1 sb mb (seg 0 kk) [] X := by rw [hX]; exact g2.below (Below.refl _ _).drew
    refine ⟨rfl, gX, (Z2.out _).mono ?_⟩
    rintro e Y ⟨rfl, hY⟩
    exact ⟨rfl, by rw [hY]; exact gX⟩
  intro a' W3 g3 ha
  subst ha
  simp only [Act.put, List.setIfInBounds_toArray, List.set_cons_zero, List.set_cons_succ]
  clear Z1 Z2 g2 t1 t2
  go_upto_region 7 with fail
  refine grw7 (mb := mb) (n := f4) (s := (s4 : Int)) (a0 := (r1 : Int) + 1) (b0 := (r2 : Int) + 1) (sd := (r4 : Int)) (c := 0) (z := false) (fun X => Gr W1 sb mb (seg 0 kk) [x] X) _ W3 _ rfl rfl rfl rfl rfl t4 rfl ((Z4.out _).mono ?_) ?_
  · rintro e X ⟨rfl, hX⟩
    rw [hX]
    exact ⟨rfl, AD.out W1 sb mb W3 g3 (HT2.out _ (FB.out _ _ _ g3))⟩
  intro a' W4 g4 ha
  subst ha
  simp only [Act.put, List.setIfInBounds_toArray, List.set_cons_zero, List.set_cons_succ]
  clear Z4 g3 t4 AD HT2
  go_upto_region 9 with fail
  refine grw9 (k := (kk : Int)) (k1 := kk - 1) (n := f3) (s := (s3 : Int)) (r := (r3 : Int)) (fun X => Gr W1 sb mb (seg 0 kk) [x] X) _ W4 _ rfl rfl rfl (by omega) (by omega) (by omega) t3 ((Z3.out _).mono ?_) ?_
  · rintro e X ⟨rfl, hX⟩
    rw [hX]
    exact ⟨rfl, g4⟩
  intro a' W5 g5 ha
  subst ha
  simp only [Act.put, List.setIfInBounds_toArray, List.set_cons_zero, List.set_cons_succ]
  clear Z3 g4 t3
  have OV : Hid (∀ (X : World) (E : List Elt) (k : IdK), k.ok → Gr W1 sb mb E [x] X → Calls Tryd.prog 7 #[.pointer (some ⟨mb, 0, none⟩), .pointer (some ⟨sb, 0, none⟩), k.v] X fun e w' => ∃ a c, e = .returned (.slice a (ovN E x k) c) ∧ Gr W1 sb mb E [x] w') := fun X E k hk g => g.overN hk
  have IN : Hid (∀ (X : World), Gr W1 sb mb (seg 0 kk) [x] X → Calls Tryd.prog 8 #[.pointer (some ⟨sb, 0, none⟩), (idN 99).v, (idN ((r3 : Int) + 1)).v] X fun e w' => e = .returned (.int .i64 0) ∧ Gr W1 sb mb (insG (r3 + 1) (kk - (r3 + 1))) [x] w') := fun X g => by
    refine (g.ins (k := idN 99) (b := idN ((r3 : Int) + 1)) (idN_ok (by omega)) (idN_ok (by omega)) (by rw [seg_len]; omega)).mono ?_
    rintro e w' ⟨rfl, g'⟩
    have c := CM.out
    rw [show ((r3 + 1 : Nat) : Int) = (r3 : Int) + 1 by omega] at c
    rw [c.2] at g'
    exact ⟨by rw [c.1]; rfl, g'⟩
  have PQ := PU.out
  rw [show ((r3 + 1 : Nat) : Int) = (r3 : Int) + 1 by omega, show ((r3 + 2 : Nat) : Int) = (r3 : Int) + 2 by omega] at PQ
  obtain ⟨n1, h1⟩ : ∃ n, ovN (seg 0 kk) x (idN ((r3 : Int) + 1)) = n := ⟨_, rfl⟩
  obtain ⟨n2, h2⟩ : ∃ n, ovN (seg 0 kk) x (idN ((r3 : Int) + 2)) = n := ⟨_, rfl⟩
  obtain ⟨n3, h3⟩ : ∃ n, ovN (insG (r3 + 1) (kk - (r3 + 1))) x (idN 99) = n := ⟨_, rfl⟩
  rw [h1, h2, h3] at PQ
  have O1 := hidMk (fun X (g : Gr W1 sb mb (seg 0 kk) [x] X) => h1 ▸ OV.out X (seg 0 kk) (idN ((r3 : Int) + 1)) (idN_ok (by omega)) g)
  have O2 := hidMk (fun X (g : Gr W1 sb mb (seg 0 kk) [x] X) => h2 ▸ OV.out X (seg 0 kk) (idN ((r3 : Int) + 2)) (idN_ok (by omega)) g)
  have O3 := hidMk (fun X (g : Gr W1 sb mb (insG (r3 + 1) (kk - (r3 + 1))) [x] X) => h3 ▸ OV.out X (insG (r3 + 1) (kk - (r3 + 1))) (idN 99) (idN_ok (by omega)) g)
  have HP := hidMk PQ
  clear OV CM PU PQ h1 h2 h3
  go_upto_region 10 with fail
  by_cases k1 : (n1 : Int) = 1
  · obtain ⟨q2', hq2⟩ : ∃ b, decide ((n2 : Int) = 1) = b := ⟨_, rfl⟩
    refine grw10t (sb := sb) (mb := mb) (n1 := n1) (n2 := n2) (i := (r3 : Int)) (q := q2') (fun X => Gr W1 sb mb (seg 0 kk) [x] X) _ W5 _ rfl rfl rfl rfl (by omega) (decide_eq_true k1) hq2 ((O1.out W5 g5).mono ?_) ?_
    · rintro e X ⟨la, c, rfl, gX⟩
      exact ⟨la, c, rfl, O2.out X gX⟩
    intro la c lb d a' W6 g6 ha
    subst ha
    simp only [Act.put, List.setIfInBounds_toArray, List.set_cons_zero, List.set_cons_succ]
    cases q2' with
    | false =>
      have k2 : ¬ (n2 : Int) = 1 := of_decide_eq_false hq2
      clear hq2
      clear O1 O2
      go_upto_region 11 with fail
      refine grw11 (sb := sb) (i := (r3 : Int)) (z := 0) (r := false) (fun X => Gr W1 sb mb (insG (r3 + 1) (kk - (r3 + 1))) [x] X) _ W6 _ rfl rfl rfl (by omega) rfl (IN.out W6 g6) ?_
      intro a' W7 g7 ha
      subst ha
      simp only [Act.put, List.setIfInBounds_toArray, List.set_cons_zero, List.set_cons_succ]
      clear IN g6 g5
      obtain ⟨q3, hq3⟩ : ∃ b, decide ((n3 : Int) = 1) = b := ⟨_, rfl⟩
      go_upto_region 13 with fail
      refine grw13 (sb := sb) (mb := mb) (n1 := n3) (q := q3) (fun X => Gr W1 sb mb (insG (r3 + 1) (kk - (r3 + 1))) [x] X) _ W7 _ rfl rfl rfl hq3 (O3.out W7 g7) ?_
      intro la9 c9 a' W8 g8 ha
      subst ha
      simp only [Act.put, List.setIfInBounds_toArray, List.set_cons_zero, List.set_cons_succ]
      have B8 := hidMk (FB.out _ _ _ g8)
      clear O3 g7 g8 FB B1
      by_cases hA : (r1 : Int) + 1 ≤ (r3 : Int) + 1
      · obtain ⟨q4', hq4⟩ : ∃ b, decide ((r2 : Int) + 1 ≥ (r3 : Int) + 2) = b := ⟨_, rfl⟩
        go_upto_region 14 with fail
        refine grw14t (a0 := (r1 : Int) + 1) (b0 := (r2 : Int) + 1) (i := (r3 : Int)) (q := q4') _ W8 _ rfl rfl rfl rfl (by omega) (decide_eq_true hA) hq4 ?_
        intro a' W9 hw ha
        obtain rfl : W8 = W9 := hw.symm
        subst ha
        simp only [Act.put, List.setIfInBounds_toArray, List.set_cons_zero, List.set_cons_succ]
        cases q3 <;> cases q4' <;> first
          | (exfalso; have hp := HP.out; simp only [decide_eq_true_eq, decide_eq_false_iff_not] at hq3 hq4; omega)
          | (clear hq3 hq4 HP hA; go_wp2; go_ret; exact ⟨rfl, B8.out⟩)
      · go_upto_region 14 with fail
        refine grw14f (a0 := (r1 : Int) + 1) (b0 := (r2 : Int) + 1) (i := (r3 : Int)) _ W8 _ rfl rfl rfl rfl (by omega) (decide_eq_false hA) ?_
        intro a' W9 hw ha
        obtain rfl : W8 = W9 := hw.symm
        subst ha
        simp only [Act.put, List.setIfInBounds_toArray, List.set_cons_zero, List.set_cons_succ]
        cases q3 <;> first
          | (exfalso; have hp := HP.out; simp only [decide_eq_true_eq, decide_eq_false_iff_not] at hq3; omega)
          | (clear hq3 HP hA; go_wp2; go_ret; exact ⟨rfl, B8.out⟩)
    | true =>
      have k2 : (n2 : Int) = 1 := of_decide_eq_true hq2
      clear hq2
      clear O1 O2
      go_upto_region 11 with fail
      refine grw11 (sb := sb) (i := (r3 : Int)) (z := 0) (r := false) (fun X => Gr W1 sb mb (insG (r3 + 1) (kk - (r3 + 1))) [x] X) _ W6 _ rfl rfl rfl (by omega) rfl (IN.out W6 g6) ?_
      intro a' W7 g7 ha
      subst ha
      simp only [Act.put, List.setIfInBounds_toArray, List.set_cons_zero, List.set_cons_succ]
      clear IN g6 g5
      obtain ⟨q3, hq3⟩ : ∃ b, decide ((n3 : Int) = 1) = b := ⟨_, rfl⟩
      go_upto_region 13 with fail
      refine grw13 (sb := sb) (mb := mb) (n1 := n3) (q := q3) (fun X => Gr W1 sb mb (insG (r3 + 1) (kk - (r3 + 1))) [x] X) _ W7 _ rfl rfl rfl hq3 (O3.out W7 g7) ?_
      intro la9 c9 a' W8 g8 ha
      subst ha
      simp only [Act.put, List.setIfInBounds_toArray, List.set_cons_zero, List.set_cons_succ]
      have B8 := hidMk (FB.out _ _ _ g8)
      clear O3 g7 g8 FB B1
      by_cases hA : (r1 : Int) + 1 ≤ (r3 : Int) + 1
      · obtain ⟨q4', hq4⟩ : ∃ b, decide ((r2 : Int) + 1 ≥ (r3 : Int) + 2) = b := ⟨_, rfl⟩
        go_upto_region 14 with fail
        refine grw14t (a0 := (r1 : Int) + 1) (b0 := (r2 : Int) + 1) (i := (r3 : Int)) (q := q4') _ W8 _ rfl rfl rfl rfl (by omega) (decide_eq_true hA) hq4 ?_
        intro a' W9 hw ha
        obtain rfl : W8 = W9 := hw.symm
        subst ha
        simp only [Act.put, List.setIfInBounds_toArray, List.set_cons_zero, List.set_cons_succ]
        cases q3 <;> cases q4' <;> first
          | (exfalso; have hp := HP.out; simp only [decide_eq_true_eq, decide_eq_false_iff_not] at hq3 hq4; omega)
          | (clear hq3 hq4 HP hA; go_wp2; go_ret; exact ⟨rfl, B8.out⟩)
      · go_upto_region 14 with fail
        refine grw14f (a0 := (r1 : Int) + 1) (b0 := (r2 : Int) + 1) (i := (r3 : Int)) _ W8 _ rfl rfl rfl rfl (by omega) (decide_eq_false hA) ?_
        intro a' W9 hw ha
        obtain rfl : W8 = W9 := hw.symm
        subst ha
        simp only [Act.put, List.setIfInBounds_toArray, List.set_cons_zero, List.set_cons_succ]
        cases q3 <;> first
          | (exfalso; have hp := HP.out; simp only [decide_eq_true_eq, decide_eq_false_iff_not] at hq3; omega)
          | (clear hq3 HP hA; go_wp2; go_ret; exact ⟨rfl, B8.out⟩)
  · refine grw10f (sb := sb) (mb := mb) (n1 := n1) (i := (r3 : Int)) (fun X => Gr W1 sb mb (seg 0 kk) [x] X) _ W5 _ rfl rfl rfl rfl (by omega) (decide_eq_false k1) (O1.out W5 g5) ?_
    intro la c a' W6 g6 ha
    subst ha
    simp only [Act.put, List.setIfInBounds_toArray, List.set_cons_zero, List.set_cons_succ]
    clear O1 O2
    go_upto_region 11 with fail
    refine grw11 (sb := sb) (i := (r3 : Int)) (z := 0) (r := false) (fun X => Gr W1 sb mb (insG (r3 + 1) (kk - (r3 + 1))) [x] X) _ W6 _ rfl rfl rfl (by omega) rfl (IN.out W6 g6) ?_
    intro a' W7 g7 ha
    subst ha
    simp only [Act.put, List.setIfInBounds_toArray, List.set_cons_zero, List.set_cons_succ]
    clear IN g6 g5
    obtain ⟨q3, hq3⟩ : ∃ b, decide ((n3 : Int) = 1) = b := ⟨_, rfl⟩
    go_upto_region 13 with fail
    refine grw13 (sb := sb) (mb := mb) (n1 := n3) (q := q3) (fun X => Gr W1 sb mb (insG (r3 + 1) (kk - (r3 + 1))) [x] X) _ W7 _ rfl rfl rfl hq3 (O3.out W7 g7) ?_
    intro la9 c9 a' W8 g8 ha
    subst ha
    simp only [Act.put, List.setIfInBounds_toArray, List.set_cons_zero, List.set_cons_succ]
    have B8 := hidMk (FB.out _ _ _ g8)
    clear O3 g7 g8 FB B1
    by_cases hA : (r1 : Int) + 1 ≤ (r3 : Int) + 1
    · obtain ⟨q4', hq4⟩ : ∃ b, decide ((r2 : Int) + 1 ≥ (r3 : Int) + 2) = b := ⟨_, rfl⟩
      go_upto_region 14 with fail
      refine grw14t (a0 := (r1 : Int) + 1) (b0 := (r2 : Int) + 1) (i := (r3 : Int)) (q := q4') _ W8 _ rfl rfl rfl rfl (by omega) (decide_eq_true hA) hq4 ?_
      intro a' W9 hw ha
      obtain rfl : W8 = W9 := hw.symm
      subst ha
      simp only [Act.put, List.setIfInBounds_toArray, List.set_cons_zero, List.set_cons_succ]
      cases q3 <;> cases q4' <;> first
        | (exfalso; have hp := HP.out; simp only [decide_eq_true_eq, decide_eq_false_iff_not] at hq3 hq4; omega)
        | (clear hq3 hq4 HP hA; go_wp2; go_ret; exact ⟨rfl, B8.out⟩)
    · go_upto_region 14 with fail
      refine grw14f (a0 := (r1 : Int) + 1) (b0 := (r2 : Int) + 1) (i := (r3 : Int)) _ W8 _ rfl rfl rfl rfl (by omega) (decide_eq_false hA) ?_
      intro a' W9 hw ha
      obtain rfl : W8 = W9 := hw.symm
      subst ha
      simp only [Act.put, List.setIfInBounds_toArray, List.set_cons_zero, List.set_cons_succ]
      cases q3 <;> first
        | (exfalso; have hp := HP.out; simp only [decide_eq_true_eq, decide_eq_false_iff_not] at hq3; omega)
        | (clear hq3 HP hA; go_wp2; go_ret; exact ⟨rfl, B8.out⟩)
end Go.Proofs.YtifendlpeebofaaDoor

