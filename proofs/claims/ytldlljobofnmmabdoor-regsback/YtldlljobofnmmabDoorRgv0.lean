import Derived.Test.YtldlljobofnmmabDoorZr
import Derived.Test.YtldlljobofnmmabDoorRgi
import Derived.Laws.Externs
namespace Go.Proofs.YtldlljobofnmmabDoor
open Go.RowKit
set_option linter.unusedVariables false
set_option linter.unusedSimpArgs false

theorem bits_runR (b : Nat) (w : World) : (callFunc 48 #[.float .f64 b]).run Tryd.prog w = .ok (.value (.int .u64 b)) w := by
  rw [run_callFunc_extern Tryd.func48 (by kernel_rfl) (by kernel_rfl) (by kernel_rfl) (e := Extern.MathFloatBits.float64bits) (by kernel_rfl)]
  rfl
theorem exec_ext1 {w : World} {a : Act} {o : Oper} {F : Nat} {ts : Array TypeId} {x1 : Operand} {v1 v : Value} (ho : o.op = .call { callee := .value (.func F), args := #[x1], argTypes := ts }) (h1 : a.eval x1 = v1) (hf : (callFunc F #[v1]).run Tryd.prog w = .ok (.value v) w) : (execOp a.eval o).run Tryd.prog w = .ok (.value v) w := by
  have e0 : a.eval (.func F) = .func (.func F) #[] #[] := rfl
  unfold execOp; simp [ho, resolve, invoke, h1, e0, Deferred.ofValue, Result.andThen, hf]
theorem ex_eqn {w : World} {a : Act} {o : Oper} {x y : Operand} {n : Int} (ho : o.op = .binOp .eql 2 x y 2) (hx : a.eval x = .int .i64 n) (hy : a.eval y = .int .i64 0) : (execOp a.eval o).run Tryd.prog w = .ok (.value (.bool (n == 0))) w := by
  refine exec_binOp ho hx hy ?_ ?_
  · kernel_rfl
  · go_simp
theorem ex_equ {w : World} {a : Act} {o : Oper} {x y : Operand} {n : Nat} (ho : o.op = .binOp .eql 105 x y 105) (hx : a.eval x = .int .u64 (n : Int)) (hy : a.eval y = .int .u64 0) : (execOp a.eval o).run Tryd.prog w = .ok (.value (.bool (n == 0))) w := by
  refine exec_binOp ho hx hy ?_ ?_
  · kernel_rfl
  · have : ((n : Int) == 0) = (n == 0) := by rw [Bool.eq_iff_iff]; simp
    rw [← this]
    go_simp
theorem ex_eqs {w : World} {a : Act} {o : Oper} {x y : Operand} {t : ByteArray} (ho : o.op = .binOp .eql 9 x y 9) (hx : a.eval x = .string t) (hy : a.eval y = .string ⟨#[]⟩) : (execOp a.eval o).run Tryd.prog w = .ok (.value (.bool (t.toList == ([] : List UInt8)))) w := by
  refine exec_binOp ho hx hy ?_ ?_
  · kernel_rfl
  · have e : (⟨#[]⟩ : ByteArray).toList = [] := by rw [ByteArray.toList_eq]
    go_simp
theorem ex_addn {w : World} {a : Act} {o : Oper} {x y : Operand} {m n : Int} (ho : o.op = .binOp .add 2 x y 2) (hx : a.eval x = .int .i64 m) (hy : a.eval y = .int .i64 n) : (execOp a.eval o).run Tryd.prog w = .ok (.value (.int .i64 (IntKind.i64.wrap (m + n)))) w := by
  refine exec_binOp ho hx hy ?_ ?_
  · kernel_rfl
  · kernel_rfl
def right1_o0 : Oper := { dst := some 6, op := Op.fieldAddr 39 (Operand.tmp 1) 1, type := 0, pos := "value.go:25", after := #[], guard := none }
def right1_o1 : Oper := { dst := some 7, op := Op.load 2 (Operand.tmp 6), type := 2, pos := "value.go:25", after := #[{ on := 0, ground := Ground.data }], guard := none }
def right1_o2 : Oper := { dst := some 8, op := Op.binOp BinOp.eql 2 (Operand.tmp 7) (Operand.const (Value.int IntKind.i64 0)) 2, type := 4, pos := "value.go:25", after := #[{ on := 1, ground := Ground.data }], guard := none }
def right1_o3 : Oper := { dst := some 9, op := Op.fieldAddr 39 (Operand.tmp 1) 2, type := 0, pos := "value.go:25", after := #[], guard := none }
def right1_o4 : Oper := { dst := some 10, op := Op.load 37 (Operand.tmp 9), type := 37, pos := "value.go:25", after := #[{ on := 3, ground := Ground.data }], guard := none }
def right1_o5 : Oper := { dst := some 11, op := Op.call { callee := Callee.value (Operand.func 48), args := #[Operand.tmp 10], argTypes := #[37] }, type := 105, pos := "value.go:25", after := #[{ on := 4, ground := Ground.data }], guard := none }
def right1_o6 : Oper := { dst := some 12, op := Op.binOp BinOp.eql 105 (Operand.tmp 11) (Operand.const (Value.int IntKind.u64 0)) 105, type := 4, pos := "value.go:25", after := #[{ on := 5, ground := Ground.data }, { on := 10, ground := Ground.gcOnly Departure.lateStores }], guard := none }
def right1_o7 : Oper := { dst := some 13, op := Op.fieldAddr 39 (Operand.tmp 1) 3, type := 0, pos := "value.go:25", after := #[{ on := 11, ground := Ground.gcOnly Departure.lateStores }], guard := none }
def right1_o8 : Oper := { dst := some 14, op := Op.load 9 (Operand.tmp 13), type := 9, pos := "value.go:25", after := #[{ on := 7, ground := Ground.data }, { on := 11, ground := Ground.gcOnly Departure.lateStores }], guard := none }
def right1_o9 : Oper := { dst := some 15, op := Op.binOp BinOp.eql 9 (Operand.tmp 14) (Operand.const (Value.string { data := #[] })) 9, type := 4, pos := "value.go:25", after := #[{ on := 8, ground := Ground.data }, { on := 11, ground := Ground.gcOnly Departure.lateStores }], guard := none }
def right1_o10 : Oper := { dst := some 3, op := Op.assign (Operand.tmp 8), type := 4, pos := "value.go:25", after := #[{ on := 2, ground := Ground.data }, { on := 5, ground := Ground.chain }, { on := 0, ground := Ground.phase }, { on := 1, ground := Ground.phase }, { on := 2, ground := Ground.phase }, { on := 3, ground := Ground.textOnly Departure.lateStores }, { on := 4, ground := Ground.textOnly Departure.lateStores }, { on := 5, ground := Ground.textOnly Departure.lateStoresUnsure }, { on := 6, ground := Ground.textOnly Departure.lateStores }, { on := 7, ground := Ground.textOnly Departure.lateStores }, { on := 8, ground := Ground.textOnly Departure.lateStores }, { on := 9, ground := Ground.textOnly Departure.lateStores }], guard := none }
def right1_o11 : Oper := { dst := some 4, op := Op.assign (Operand.tmp 12), type := 4, pos := "value.go:25", after := #[{ on := 6, ground := Ground.data }, { on := 10, ground := Ground.chain }, { on := 0, ground := Ground.phase }, { on := 1, ground := Ground.phase }, { on := 2, ground := Ground.phase }, { on := 3, ground := Ground.phase }, { on := 4, ground := Ground.phase }, { on := 5, ground := Ground.phase }, { on := 6, ground := Ground.phase }, { on := 7, ground := Ground.textOnly Departure.lateStores }, { on := 8, ground := Ground.textOnly Departure.lateStores }, { on := 9, ground := Ground.textOnly Departure.lateStores }, { on := 10, ground := Ground.phase }], guard := none }
def right1_o12 : Oper := { dst := some 5, op := Op.assign (Operand.tmp 15), type := 4, pos := "value.go:25", after := #[{ on := 9, ground := Ground.data }, { on := 11, ground := Ground.chain }, { on := 0, ground := Ground.phase }, { on := 1, ground := Ground.phase }, { on := 2, ground := Ground.phase }, { on := 3, ground := Ground.phase }, { on := 4, ground := Ground.phase }, { on := 5, ground := Ground.phase }, { on := 6, ground := Ground.phase }, { on := 7, ground := Ground.phase }, { on := 8, ground := Ground.phase }, { on := 9, ground := Ground.phase }, { on := 10, ground := Ground.phase }, { on := 11, ground := Ground.phase }], guard := none }
def right1_ops : Array Oper := #[right1_o0, right1_o1, right1_o2, right1_o3, right1_o4, right1_o5, right1_o6, right1_o7, right1_o8, right1_o9, right1_o10, right1_o11, right1_o12]
set_option maxRecDepth 100000 in
set_option maxHeartbeats 4000000 in
theorem right1 {bx f : Nat} {n : Int} {t : ByteArray} (a : Act) (w : World) (Q : Exit → Act → World → Prop) (zz : a.tmps.size = 110)
    (t1 : a.tmps.getD 1 undef = .pointer (some ⟨bx, 0, none⟩))
    (V1 : ∀ W, W = w.drew → (Instr.loadAt 2 (.pointer (some ⟨bx, 0 + 1, none⟩))).run Tryd.prog W = .ok (.int .i64 n) W) (V2 : ∀ W, W = w.drew → (Instr.loadAt 37 (.pointer (some ⟨bx, 0 + 2, none⟩))).run Tryd.prog W = .ok (.float .f64 f) W) (V3 : ∀ W, W = w.drew → (Instr.loadAt 9 (.pointer (some ⟨bx, 0 + 3, none⟩))).run Tryd.prog W = .ok (.string t) W)
    (h : ∀ (a' : Act) (w' : World), w' = w.drew → a' = (((((((((((((a).put (some 6) (.pointer (some ⟨bx, 0 + 1, none⟩))).put (some 7) (.int .i64 n)).put (some 8) (.bool (n == 0))).put (some 9) (.pointer (some ⟨bx, 0 + 2, none⟩))).put (some 10) (.float .f64 f)).put (some 11) (.int .u64 (f : Int))).put (some 12) (.bool (f == 0))).put (some 13) (.pointer (some ⟨bx, 0 + 3, none⟩))).put (some 14) (.string t)).put (some 15) (.bool (t.toList == ([] : List UInt8)))).put (some 3) (.bool (n == 0))).put (some 4) (.bool (f == 0))).put (some 5) (.bool (t.toList == ([] : List UInt8))) → Q .normal a' w') :
    (Code.region 1 right1_ops true).wp Tryd.prog Q a w := by
  refine y0 (fun w' => w' = w.drew) (rfl) (fun hHeld => ?_)
  refine yv 0 rfl rfl (fun w1 hw => exec_fieldAt rfl (zi t1 rfl) (fg_39_1 _ _ _)) hHeld ?_
  refine yv 1 rfl rfl (fun w1 hw => exec_load rfl (zg zz rfl) (V1 _ hw)) hHeld ?_
  refine yv (v := .bool (n == 0)) 2 rfl rfl (fun w1 hw => ex_eqn rfl (zg zz rfl) rfl) hHeld ?_
  refine yv 3 rfl rfl (fun w1 hw => exec_fieldAt rfl (zi t1 rfl) (fg_39_2 _ _ _)) hHeld ?_
  refine yv 4 rfl rfl (fun w1 hw => exec_load rfl (zg zz rfl) (V2 _ hw)) hHeld ?_
  refine yv (v := .int .u64 (f : Int)) 5 rfl rfl (fun w1 hw => exec_ext1 rfl (zg zz rfl) (bits_runR _ _)) hHeld ?_
  refine yv (v := .bool (f == 0)) 6 rfl rfl (fun w1 hw => ex_equ rfl (zg zz rfl) rfl) hHeld ?_
  refine yv 7 rfl rfl (fun w1 hw => exec_fieldAt rfl (zi t1 rfl) (fg_39_3 _ _ _)) hHeld ?_
  refine yv 8 rfl rfl (fun w1 hw => exec_load rfl (zg zz rfl) (V3 _ hw)) hHeld ?_
  refine yv (v := .bool (t.toList == ([] : List UInt8))) 9 rfl rfl (fun w1 hw => ex_eqs rfl (zg zz rfl) rfl) hHeld ?_
  refine yv 10 rfl rfl (fun w1 hw => exec_assign rfl (zg zz rfl)) hHeld ?_
  refine yv 11 rfl rfl (fun w1 hw => exec_assign rfl (zg zz rfl)) hHeld ?_
  refine yv 12 rfl rfl (fun w1 hw => exec_assign rfl (zg zz rfl)) hHeld ?_
  exact ye rfl (h _ _ (hHeld) rfl)
def sum2_o0 : Oper := { dst := some 12, op := Op.fieldAddr 39 (Operand.tmp 2) 1, type := 0, pos := "value.go:119", after := #[], guard := none }
def sum2_o1 : Oper := { dst := some 13, op := Op.load 2 (Operand.tmp 12), type := 2, pos := "value.go:119", after := #[{ on := 0, ground := Ground.data }], guard := none }
def sum2_o2 : Oper := { dst := some 14, op := Op.move (Operand.tmp 1), type := 2, pos := "value.go:119", after := #[], guard := none }
def sum2_o3 : Oper := { dst := some 15, op := Op.binOp BinOp.add 2 (Operand.tmp 13) (Operand.tmp 14) 2, type := 2, pos := "value.go:119", after := #[{ on := 1, ground := Ground.data }, { on := 2, ground := Ground.data }], guard := none }
def sum2_o4 : Oper := { dst := some 16, op := Op.fieldAddr 39 (Operand.tmp 2) 1, type := 0, pos := "value.go:119", after := #[{ on := 0, ground := Ground.phase }, { on := 1, ground := Ground.phase }, { on := 2, ground := Ground.phase }, { on := 3, ground := Ground.phase }], guard := none }
def sum2_o5 : Oper := { dst := none, op := Op.store 2 (Operand.tmp 16) (Operand.tmp 15), type := 0, pos := "value.go:119", after := #[{ on := 4, ground := Ground.data }, { on := 3, ground := Ground.data }, { on := 0, ground := Ground.phase }, { on := 1, ground := Ground.phase }, { on := 2, ground := Ground.phase }, { on := 3, ground := Ground.phase }], guard := none }
def sum2_ops : Array Oper := #[sum2_o0, sum2_o1, sum2_o2, sum2_o3, sum2_o4, sum2_o5]
set_option maxRecDepth 100000 in
set_option maxHeartbeats 4000000 in
theorem sum2 {bx : Nat} {n m : Int} {w1 : World} (a : Act) (w : World) (Q : Exit → Act → World → Prop) (zz : a.tmps.size = 18)
    (t1 : a.tmps.getD 1 undef = .int .i64 n)
    (t2 : a.tmps.getD 2 undef = .pointer (some ⟨bx, 0, none⟩))
    (V1 : ∀ W, W = w → (Instr.loadAt 2 (.pointer (some ⟨bx, 0 + 1, none⟩))).run Tryd.prog W = .ok (.int .i64 m) W) (ES : (Instr.storeAt 2 (.pointer (some ⟨bx, 0 + 1, none⟩)) (.int .i64 (IntKind.i64.wrap (m + n)))).run Tryd.prog w = .ok () w1)
    (h : ∀ (a' : Act) (w' : World), w' = w1 → a' = (((((a).put (some 12) (.pointer (some ⟨bx, 0 + 1, none⟩))).put (some 13) (.int .i64 m)).put (some 14) (.int .i64 n)).put (some 15) (.int .i64 (IntKind.i64.wrap (m + n)))).put (some 16) (.pointer (some ⟨bx, 0 + 1, none⟩)) → Q .normal a' w') :
    (Code.region 2 sum2_ops false).wp Tryd.prog Q a w := by
  refine z0 rfl ?_
  refine zv rfl (exec_fieldAt rfl (zi t2 rfl) (fg_39_1 _ _ _)) ?_
  refine zv rfl (exec_load rfl (zg zz rfl) (V1 _ rfl)) ?_
  refine zv rfl (exec_move rfl (zi t1 rfl)) ?_
  refine zv (v := .int .i64 (IntKind.i64.wrap (m + n))) rfl (ex_addn rfl (zg zz rfl) (zg zz rfl)) ?_
  refine zv rfl (exec_fieldAt rfl (zi t2 rfl) (fg_39_1 _ _ _)) ?_
  refine zs rfl (exec_store rfl (zg zz rfl) (zg zz rfl) ES) ?_
  exact ze rfl (h _ _ (rfl) rfl)
def sum3_o0 : Oper := { dst := some 17, op := Op.load 39 (Operand.tmp 2), type := 39, pos := "value.go:121", after := #[], guard := none }
def sum3_o1 : Oper := { dst := none, op := Op.store 39 (Operand.tmp 4) (Operand.tmp 17), type := 0, pos := "value.go:121", after := #[{ on := 0, ground := Ground.data }, { on := 0, ground := Ground.phase }], guard := none }
def sum3_ops : Array Oper := #[sum3_o0, sum3_o1]
set_option maxRecDepth 100000 in
set_option maxHeartbeats 4000000 in
theorem sum3 {bx rx : Nat} {x : VaV} {w1 : World} (a : Act) (w : World) (Q : Exit → Act → World → Prop) (zz : a.tmps.size = 18)
    (t2 : a.tmps.getD 2 undef = .pointer (some ⟨bx, 0, none⟩))
    (t4 : a.tmps.getD 4 undef = .pointer (some ⟨rx, 0, none⟩))
    (V1 : ∀ W, W = w → (Instr.loadAt 39 (.pointer (some ⟨bx, 0, none⟩))).run Tryd.prog W = .ok (x.v) W) (ES : (Instr.storeAt 39 (.pointer (some ⟨rx, 0, none⟩)) x.v).run Tryd.prog w = .ok () w1)
    (h : ∀ (a' : Act) (w' : World), w' = w1 → a' = (a).put (some 17) (x.v) → Q .normal a' w') :
    (Code.region 3 sum3_ops false).wp Tryd.prog Q a w := by
  refine z0 rfl ?_
  refine zv rfl (exec_load rfl (zi t2 rfl) (V1 _ rfl)) ?_
  refine zs rfl (exec_store rfl (zi t4 rfl) (zg zz rfl) ES) ?_
  exact ze rfl (h _ _ (rfl) rfl)
def adda1_o0 : Oper := { dst := some 4, op := Op.load 39 (Operand.tmp 2), type := 39, pos := "regs.go:78", after := #[], guard := none }
def adda1_o1 : Oper := { dst := some 5, op := Op.load 2 (Operand.tmp 1), type := 2, pos := "regs.go:78", after := #[], guard := none }
def adda1_o2 : Oper := { dst := some 6, op := Op.call { callee := Callee.value (Operand.func 36), args := #[Operand.tmp 4, Operand.tmp 5], argTypes := #[39, 2] }, type := 39, pos := "regs.go:78", after := #[{ on := 0, ground := Ground.data }, { on := 1, ground := Ground.data }], guard := none }
def adda1_o3 : Oper := { dst := none, op := Op.store 39 (Operand.tmp 3) (Operand.tmp 6), type := 0, pos := "regs.go:78", after := #[{ on := 2, ground := Ground.data }, { on := 2, ground := Ground.chain }, { on := 0, ground := Ground.phase }, { on := 1, ground := Ground.phase }, { on := 2, ground := Ground.phase }], guard := none }
def adda1_ops : Array Oper := #[adda1_o0, adda1_o1, adda1_o2, adda1_o3]
set_option maxRecDepth 100000 in
set_option maxHeartbeats 4000000 in
theorem adda1 {nb bx rx : Nat} {x y : VaV} {n : Int} (Fin : World → Prop) (a : Act) (w : World) (Q : Exit → Act → World → Prop) (zz : a.tmps.size = 7)
    (t1 : a.tmps.getD 1 undef = .pointer (some ⟨nb, 0, none⟩))
    (t2 : a.tmps.getD 2 undef = .pointer (some ⟨bx, 0, none⟩))
    (t3 : a.tmps.getD 3 undef = .pointer (some ⟨rx, 0, none⟩))
    (V1 : ∀ W, W = w → (Instr.loadAt 39 (.pointer (some ⟨bx, 0, none⟩))).run Tryd.prog W = .ok (x.v) W) (V2 : ∀ W, W = w → (Instr.loadAt 2 (.pointer (some ⟨nb, 0, none⟩))).run Tryd.prog W = .ok (.int .i64 n) W) (CS : Calls Tryd.prog 36 #[x.v, .int .i64 n] w fun e w' => e = .returned y.v ∧ ∃ w3, (Instr.storeAt 39 (.pointer (some ⟨rx, 0, none⟩)) y.v).run Tryd.prog w' = .ok () w3 ∧ Fin w3)
    (h : ∀ (a' : Act) (w' : World), Fin w' → a' = (((a).put (some 4) (x.v)).put (some 5) (.int .i64 n)).put (some 6) (y.v) → Q .normal a' w') :
    (Code.region 1 adda1_ops false).wp Tryd.prog Q a w := by
  refine z0 rfl ?_
  refine zv rfl (exec_load rfl (zi t2 rfl) (V1 _ rfl)) ?_
  refine zv rfl (exec_load rfl (zi t1 rfl) (V2 _ rfl)) ?_
  refine zc rfl (exec_c2 rfl (zg zz rfl) (zg zz rfl)) (CS) (fun e x2 hx => ?_)
  obtain ⟨rfl, w3, ES, HF⟩ := hx
  refine ⟨_, rfl, ?_⟩
  refine zs rfl (exec_store rfl (zi t3 rfl) (zg zz rfl) ES) ?_
  exact ze rfl (h _ _ (HF) rfl)
def addi1_o0 : Oper := { dst := some 3, op := Op.load 39 (Operand.tmp 1), type := 39, pos := "regs.go:80", after := #[], guard := none }
def addi1_o1 : Oper := { dst := none, op := Op.store 39 (Operand.tmp 2) (Operand.tmp 3), type := 0, pos := "regs.go:80", after := #[{ on := 0, ground := Ground.data }, { on := 0, ground := Ground.phase }], guard := none }
def addi1_ops : Array Oper := #[addi1_o0, addi1_o1]
set_option maxRecDepth 100000 in
set_option maxHeartbeats 4000000 in
theorem addi1 {bx rx : Nat} {x : VaV} {w1 : World} (a : Act) (w : World) (Q : Exit → Act → World → Prop) (zz : a.tmps.size = 4)
    (t1 : a.tmps.getD 1 undef = .pointer (some ⟨bx, 0, none⟩))
    (t2 : a.tmps.getD 2 undef = .pointer (some ⟨rx, 0, none⟩))
    (V1 : ∀ W, W = w → (Instr.loadAt 39 (.pointer (some ⟨bx, 0, none⟩))).run Tryd.prog W = .ok (x.v) W) (ES : (Instr.storeAt 39 (.pointer (some ⟨rx, 0, none⟩)) x.v).run Tryd.prog w = .ok () w1)
    (h : ∀ (a' : Act) (w' : World), w' = w1 → a' = (a).put (some 3) (x.v) → Q .normal a' w') :
    (Code.region 1 addi1_ops false).wp Tryd.prog Q a w := by
  refine z0 rfl ?_
  refine zv rfl (exec_load rfl (zi t1 rfl) (V1 _ rfl)) ?_
  refine zs rfl (exec_store rfl (zi t2 rfl) (zg zz rfl) ES) ?_
  exact ze rfl (h _ _ (rfl) rfl)
end Go.Proofs.YtldlljobofnmmabDoor
