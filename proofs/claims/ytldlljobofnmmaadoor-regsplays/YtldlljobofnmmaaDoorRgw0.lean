import Derived.Test.YtldlljobofnmmaaDoorZr
import Derived.Test.YtldlljobofnmmaaDoorRgm0
namespace Go.Proofs.YtldlljobofnmmaaDoor
open Go.RowKit
set_option linter.unusedVariables false
set_option linter.unusedSimpArgs false

theorem build_zen (w : World) : (Instr.build 63 #[]).run Tryd.prog w = .ok zEn.a w := by kernel_rfl
theorem ex_rgnil {w : World} {a : Act} {o : Oper} {x y : Operand} (ho : o.op = .binOp .eql 26 x y 26) (hx : a.eval x = .pointer none) (hy : a.eval y = .pointer none) : (execOp a.eval o).run Tryd.prog w = .ok (.value (.bool true)) w := by
  refine exec_binOp ho hx hy ?_ ?_
  · unfold eqGuard; simp
  · kernel_rfl
theorem ex_rgsome {w : World} {a : Act} {o : Oper} {x y : Operand} {b : Nat} (ho : o.op = .binOp .eql 26 x y 26) (hx : a.eval x = .pointer (some ⟨b, 0, none⟩)) (hy : a.eval y = .pointer none) : (execOp a.eval o).run Tryd.prog w = .ok (.value (.bool false)) w := by
  refine exec_binOp ho hx hy ?_ ?_
  · unfold eqGuard; simp
  · kernel_rfl
theorem ex_eqz {w : World} {a : Act} {o : Oper} {x y : Operand} {n : Nat} (ho : o.op = .binOp .eql 3 x y 3) (hx : a.eval x = .int .i64 (n : Int)) (hy : a.eval y = .int .i64 0) : (execOp a.eval o).run Tryd.prog w = .ok (.value (.bool (n == 0))) w := by
  refine exec_binOp ho hx hy ?_ ?_
  · kernel_rfl
  · have : ((n : Int) == 0) = (n == 0) := by rw [Bool.eq_iff_iff]; simp
    rw [← this]
    go_simp
def top1n_o0 : Oper := { dst := some 7, op := Op.move (Operand.tmp 0), type := 26, pos := "regs.go:146", after := #[], guard := none }
def top1n_o1 : Oper := { dst := some 8, op := Op.binOp BinOp.eql 26 (Operand.tmp 7) (Operand.const (Value.pointer none)) 26, type := 4, pos := "regs.go:146", after := #[{ on := 0, ground := Ground.data }], guard := none }
def top1n_o2 : Oper := { dst := some 9, op := Op.move (Operand.tmp 8), type := 4, pos := "regs.go:146", after := #[{ on := 1, ground := Ground.data }], guard := none }
def top1n_o3 : Oper := { dst := some 10, op := Op.move (Operand.tmp 0), type := 26, pos := "regs.go:146", after := #[{ on := 2, ground := Ground.guard }], guard := some (2, false) }
def top1n_o4 : Oper := { dst := some 11, op := Op.nilCheck (Operand.tmp 10), type := 0, pos := "regs.go:146", after := #[{ on := 3, ground := Ground.data }, { on := 2, ground := Ground.guard }], guard := some (2, false) }
def top1n_o5 : Oper := { dst := some 12, op := Op.fieldAddr 84 (Operand.tmp 11) 0, type := 0, pos := "regs.go:146", after := #[{ on := 4, ground := Ground.data }, { on := 2, ground := Ground.guard }], guard := some (2, false) }
def top1n_o6 : Oper := { dst := some 13, op := Op.load 81 (Operand.tmp 12), type := 81, pos := "regs.go:146", after := #[{ on := 5, ground := Ground.data }, { on := 2, ground := Ground.guard }], guard := some (2, false) }
def top1n_o7 : Oper := { dst := some 14, op := Op.load 52 (Operand.tmp 3), type := 52, pos := "regs.go:146", after := #[{ on := 2, ground := Ground.guard }], guard := some (2, false) }
def top1n_o8 : Oper := { dst := some 15, op := Op.lookup 81 (Operand.tmp 13) (Operand.tmp 14) false, type := 60, pos := "regs.go:146", after := #[{ on := 6, ground := Ground.data }, { on := 7, ground := Ground.data }, { on := 2, ground := Ground.guard }], guard := some (2, false) }
def top1n_o9 : Oper := { dst := some 16, op := Op.call { callee := Callee.builtin Builtin.len, args := #[Operand.tmp 15], argTypes := #[60] }, type := 3, pos := "regs.go:146", after := #[{ on := 8, ground := Ground.data }, { on := 2, ground := Ground.guard }], guard := some (2, false) }
def top1n_o10 : Oper := { dst := some 17, op := Op.binOp BinOp.eql 3 (Operand.tmp 16) (Operand.const (Value.int IntKind.i64 0)) 3, type := 4, pos := "regs.go:146", after := #[{ on := 9, ground := Ground.data }, { on := 2, ground := Ground.guard }], guard := some (2, false) }
def top1n_o11 : Oper := { dst := some 18, op := Op.pick (Operand.tmp 9) (Operand.const (Value.bool true)) (Operand.tmp 17), type := 4, pos := "regs.go:146", after := #[{ on := 2, ground := Ground.data }, { on := 10, ground := Ground.data }], guard := none }
def top1n_ops : Array Oper := #[top1n_o0, top1n_o1, top1n_o2, top1n_o3, top1n_o4, top1n_o5, top1n_o6, top1n_o7, top1n_o8, top1n_o9, top1n_o10, top1n_o11]
set_option maxRecDepth 100000 in
set_option maxHeartbeats 4000000 in
theorem top1n  (a : Act) (w : World) (Q : Exit → Act → World → Prop) (zz : a.tmps.size = 32)
    (t0 : a.tmps.getD 0 undef = .pointer none)
    (h : ∀ (a' : Act) (w' : World), w' = w.drew → a' = ((((((((((((a).put (some 7) (.pointer none)).put (some 8) (.bool true)).put (some 9) (.bool true)).put (some 10) (undef)).put (some 11) (undef)).put (some 12) (undef)).put (some 13) (undef)).put (some 14) (undef)).put (some 15) (undef)).put (some 16) (undef)).put (some 17) (undef)).put (some 18) (.bool true) → Q .normal a' w') :
    (Code.region 1 top1n_ops true).wp Tryd.prog Q a w := by
  refine y0 (fun w' => w' = w.drew) (rfl) (fun hHeld => ?_)
  refine yv 0 rfl rfl (fun w1 hw => exec_move rfl (zi t0 rfl)) hHeld ?_
  refine yv (v := .bool true) 1 rfl rfl (fun w1 hw => ex_rgnil rfl (zg zz rfl) rfl) hHeld ?_
  refine yv 2 rfl rfl (fun w1 hw => exec_move rfl (zg zz rfl)) hHeld ?_
  refine yn 3 rfl (zx zz rfl rfl rfl (zg zz rfl)) hHeld ?_
  refine yn 4 rfl (zx zz rfl rfl rfl (zg zz rfl)) hHeld ?_
  refine yn 5 rfl (zx zz rfl rfl rfl (zg zz rfl)) hHeld ?_
  refine yn 6 rfl (zx zz rfl rfl rfl (zg zz rfl)) hHeld ?_
  refine yn 7 rfl (zx zz rfl rfl rfl (zg zz rfl)) hHeld ?_
  refine yn 8 rfl (zx zz rfl rfl rfl (zg zz rfl)) hHeld ?_
  refine yn 9 rfl (zx zz rfl rfl rfl (zg zz rfl)) hHeld ?_
  refine yn 10 rfl (zx zz rfl rfl rfl (zg zz rfl)) hHeld ?_
  refine yv 11 rfl rfl (fun w1 hw => exec_pickT rfl (zg zz rfl) rfl) hHeld ?_
  exact ye rfl (h _ _ (hHeld) rfl)
def top1s_o0 : Oper := { dst := some 7, op := Op.move (Operand.tmp 0), type := 26, pos := "regs.go:146", after := #[], guard := none }
def top1s_o1 : Oper := { dst := some 8, op := Op.binOp BinOp.eql 26 (Operand.tmp 7) (Operand.const (Value.pointer none)) 26, type := 4, pos := "regs.go:146", after := #[{ on := 0, ground := Ground.data }], guard := none }
def top1s_o2 : Oper := { dst := some 9, op := Op.move (Operand.tmp 8), type := 4, pos := "regs.go:146", after := #[{ on := 1, ground := Ground.data }], guard := none }
def top1s_o3 : Oper := { dst := some 10, op := Op.move (Operand.tmp 0), type := 26, pos := "regs.go:146", after := #[{ on := 2, ground := Ground.guard }], guard := some (2, false) }
def top1s_o4 : Oper := { dst := some 11, op := Op.nilCheck (Operand.tmp 10), type := 0, pos := "regs.go:146", after := #[{ on := 3, ground := Ground.data }, { on := 2, ground := Ground.guard }], guard := some (2, false) }
def top1s_o5 : Oper := { dst := some 12, op := Op.fieldAddr 84 (Operand.tmp 11) 0, type := 0, pos := "regs.go:146", after := #[{ on := 4, ground := Ground.data }, { on := 2, ground := Ground.guard }], guard := some (2, false) }
def top1s_o6 : Oper := { dst := some 13, op := Op.load 81 (Operand.tmp 12), type := 81, pos := "regs.go:146", after := #[{ on := 5, ground := Ground.data }, { on := 2, ground := Ground.guard }], guard := some (2, false) }
def top1s_o7 : Oper := { dst := some 14, op := Op.load 52 (Operand.tmp 3), type := 52, pos := "regs.go:146", after := #[{ on := 2, ground := Ground.guard }], guard := some (2, false) }
def top1s_o8 : Oper := { dst := some 15, op := Op.lookup 81 (Operand.tmp 13) (Operand.tmp 14) false, type := 60, pos := "regs.go:146", after := #[{ on := 6, ground := Ground.data }, { on := 7, ground := Ground.data }, { on := 2, ground := Ground.guard }], guard := some (2, false) }
def top1s_o9 : Oper := { dst := some 16, op := Op.call { callee := Callee.builtin Builtin.len, args := #[Operand.tmp 15], argTypes := #[60] }, type := 3, pos := "regs.go:146", after := #[{ on := 8, ground := Ground.data }, { on := 2, ground := Ground.guard }], guard := some (2, false) }
def top1s_o10 : Oper := { dst := some 17, op := Op.binOp BinOp.eql 3 (Operand.tmp 16) (Operand.const (Value.int IntKind.i64 0)) 3, type := 4, pos := "regs.go:146", after := #[{ on := 9, ground := Ground.data }, { on := 2, ground := Ground.guard }], guard := some (2, false) }
def top1s_o11 : Oper := { dst := some 18, op := Op.pick (Operand.tmp 9) (Operand.const (Value.bool true)) (Operand.tmp 17), type := 4, pos := "regs.go:146", after := #[{ on := 2, ground := Ground.data }, { on := 10, ground := Ground.data }], guard := none }
def top1s_ops : Array Oper := #[top1s_o0, top1s_o1, top1s_o2, top1s_o3, top1s_o4, top1s_o5, top1s_o6, top1s_o7, top1s_o8, top1s_o9, top1s_o10, top1s_o11]
set_option maxRecDepth 100000 in
set_option maxHeartbeats 4000000 in
theorem top1s {rb mb pb n lc : Nat} {la : Option Addr} {p : PlK} (S : World → Prop) (a : Act) (w : World) (Q : Exit → Act → World → Prop) (zz : a.tmps.size = 32)
    (t0 : a.tmps.getD 0 undef = .pointer (some ⟨rb, 0, none⟩))
    (t3 : a.tmps.getD 3 undef = .pointer (some ⟨pb, 0, none⟩))
    (h0 : S w.drew) (LR : ∀ W, S W → (Instr.loadAt 81 (.pointer (some ⟨rb, 0 + 0, none⟩))).run Tryd.prog W = .ok (.map (some mb)) W) (LP : ∀ W, S W → (Instr.loadAt 52 (.pointer (some ⟨pb, 0, none⟩))).run Tryd.prog W = .ok (p.v) W) (LK : ∀ W, S W → (Instr.lookup 81 (.map (some mb)) p.v false).run Tryd.prog W = .ok (.slice la n lc) W)
    (h : ∀ (a' : Act) (w' : World), S w' → a' = ((((((((((((a).put (some 7) (.pointer (some ⟨rb, 0, none⟩))).put (some 8) (.bool false)).put (some 9) (.bool false)).put (some 10) (.pointer (some ⟨rb, 0, none⟩))).put (some 11) (.pointer (some ⟨rb, 0, none⟩))).put (some 12) (.pointer (some ⟨rb, 0 + 0, none⟩))).put (some 13) (.map (some mb))).put (some 14) (p.v)).put (some 15) (.slice la n lc)).put (some 16) (.int .i64 (n : Int))).put (some 17) (.bool (n == 0))).put (some 18) (.bool (n == 0)) → Q .normal a' w') :
    (Code.region 1 top1s_ops true).wp Tryd.prog Q a w := by
  refine y0 (fun w' => S w') (h0) (fun hHeld => ?_)
  refine yv 0 rfl rfl (fun w1 hw => exec_move rfl (zi t0 rfl)) hHeld ?_
  refine yv (v := .bool false) 1 rfl rfl (fun w1 hw => ex_rgsome rfl (zg zz rfl) rfl) hHeld ?_
  refine yv 2 rfl rfl (fun w1 hw => exec_move rfl (zg zz rfl)) hHeld ?_
  refine yv 3 rfl (zw zz rfl rfl rfl (zg zz rfl)) (fun w1 hw => exec_move rfl (zi t0 rfl)) hHeld ?_
  refine yv 4 rfl (zw zz rfl rfl rfl (zg zz rfl)) (fun w1 hw => exec_nilCheck rfl (zg zz rfl)) hHeld ?_
  refine yv 5 rfl (zw zz rfl rfl rfl (zg zz rfl)) (fun w1 hw => exec_fieldAt rfl (zg zz rfl) (fg_84_0 _ _ _)) hHeld ?_
  refine yv 6 rfl (zw zz rfl rfl rfl (zg zz rfl)) (fun w1 hw => exec_load rfl (zg zz rfl) (LR _ hw)) hHeld ?_
  refine yv 7 rfl (zw zz rfl rfl rfl (zg zz rfl)) (fun w1 hw => exec_load rfl (zi t3 rfl) (LP _ hw)) hHeld ?_
  refine yv (v := .slice la n lc) 8 rfl (zw zz rfl rfl rfl (zg zz rfl)) (fun w1 hw => exec_lookup rfl (zg zz rfl) (zg zz rfl) (LK _ hw)) hHeld ?_
  refine yv 9 rfl (zw zz rfl rfl rfl (zg zz rfl)) (fun w1 hw => exec_len rfl (zg zz rfl) (len_en _ _ _ _ _)) hHeld ?_
  refine yv (v := .bool (n == 0)) 10 rfl (zw zz rfl rfl rfl (zg zz rfl)) (fun w1 hw => ex_eqz rfl (zg zz rfl) rfl) hHeld ?_
  refine yv 11 rfl rfl (fun w1 hw => exec_pickF rfl (zg zz rfl) (zg zz rfl)) hHeld ?_
  exact ye rfl (h _ _ (hHeld) rfl)
def top2_o0 : Oper := { dst := some 19, op := Op.build 63 #[], type := 63, pos := "regs.go:147", after := #[], guard := none }
def top2_o1 : Oper := { dst := none, op := Op.store 63 (Operand.tmp 4) (Operand.tmp 19), type := 0, pos := "regs.go:147", after := #[{ on := 0, ground := Ground.data }, { on := 0, ground := Ground.phase }], guard := none }
def top2_o2 : Oper := { dst := some 5, op := Op.assign (Operand.const (Value.bool false)), type := 4, pos := "regs.go:147", after := #[{ on := 1, ground := Ground.chain }, { on := 0, ground := Ground.phase }, { on := 1, ground := Ground.phase }], guard := none }
def top2_ops : Array Oper := #[top2_o0, top2_o1, top2_o2]
set_option maxRecDepth 100000 in
set_option maxHeartbeats 4000000 in
theorem top2 {eb : Nat} {w1 : World} (a : Act) (w : World) (Q : Exit → Act → World → Prop) (zz : a.tmps.size = 32)
    (t4 : a.tmps.getD 4 undef = .pointer (some ⟨eb, 0, none⟩))
    (ES : (Instr.storeAt 63 (.pointer (some ⟨eb, 0, none⟩)) zEn.a).run Tryd.prog w = .ok () w1)
    (h : ∀ (a' : Act) (w' : World), w' = w1 → a' = ((a).put (some 19) (zEn.a)).put (some 5) (.bool false) → Q .normal a' w') :
    (Code.region 2 top2_ops false).wp Tryd.prog Q a w := by
  refine z0 rfl ?_
  refine zv rfl (exec_build0 rfl (build_zen _)) ?_
  refine zs rfl (exec_store rfl (zi t4 rfl) (zg zz rfl) ES) ?_
  refine zv rfl (exec_assign rfl rfl) ?_
  exact ze rfl (h _ _ (rfl) rfl)
def top3_o0 : Oper := { dst := some 20, op := Op.move (Operand.tmp 0), type := 26, pos := "regs.go:149", after := #[], guard := none }
def top3_o1 : Oper := { dst := some 21, op := Op.nilCheck (Operand.tmp 20), type := 0, pos := "regs.go:149", after := #[{ on := 0, ground := Ground.data }], guard := none }
def top3_o2 : Oper := { dst := some 22, op := Op.fieldAddr 84 (Operand.tmp 21) 0, type := 0, pos := "regs.go:149", after := #[{ on := 1, ground := Ground.data }], guard := none }
def top3_o3 : Oper := { dst := some 23, op := Op.load 81 (Operand.tmp 22), type := 81, pos := "regs.go:149", after := #[{ on := 2, ground := Ground.data }], guard := none }
def top3_o4 : Oper := { dst := some 24, op := Op.load 52 (Operand.tmp 3), type := 52, pos := "regs.go:149", after := #[], guard := none }
def top3_o5 : Oper := { dst := some 25, op := Op.lookup 81 (Operand.tmp 23) (Operand.tmp 24) false, type := 60, pos := "regs.go:149", after := #[{ on := 3, ground := Ground.data }, { on := 4, ground := Ground.data }], guard := none }
def top3_o6 : Oper := { dst := some 6, op := Op.assign (Operand.tmp 25), type := 60, pos := "regs.go:149", after := #[{ on := 5, ground := Ground.data }, { on := 0, ground := Ground.phase }, { on := 1, ground := Ground.phase }, { on := 2, ground := Ground.phase }, { on := 3, ground := Ground.phase }, { on := 4, ground := Ground.phase }, { on := 5, ground := Ground.phase }], guard := none }
def top3_ops : Array Oper := #[top3_o0, top3_o1, top3_o2, top3_o3, top3_o4, top3_o5, top3_o6]
set_option maxRecDepth 100000 in
set_option maxHeartbeats 4000000 in
theorem top3 {rb mb pb n lc : Nat} {la : Option Addr} {p : PlK} (S : World → Prop) (a : Act) (w : World) (Q : Exit → Act → World → Prop) (zz : a.tmps.size = 32)
    (t0 : a.tmps.getD 0 undef = .pointer (some ⟨rb, 0, none⟩))
    (t3 : a.tmps.getD 3 undef = .pointer (some ⟨pb, 0, none⟩))
    (h0 : S w.drew) (LR : ∀ W, S W → (Instr.loadAt 81 (.pointer (some ⟨rb, 0 + 0, none⟩))).run Tryd.prog W = .ok (.map (some mb)) W) (LP : ∀ W, S W → (Instr.loadAt 52 (.pointer (some ⟨pb, 0, none⟩))).run Tryd.prog W = .ok (p.v) W) (LK : ∀ W, S W → (Instr.lookup 81 (.map (some mb)) p.v false).run Tryd.prog W = .ok (.slice la n lc) W)
    (h : ∀ (a' : Act) (w' : World), S w' → a' = (((((((a).put (some 20) (.pointer (some ⟨rb, 0, none⟩))).put (some 21) (.pointer (some ⟨rb, 0, none⟩))).put (some 22) (.pointer (some ⟨rb, 0 + 0, none⟩))).put (some 23) (.map (some mb))).put (some 24) (p.v)).put (some 25) (.slice la n lc)).put (some 6) (.slice la n lc) → Q .normal a' w') :
    (Code.region 3 top3_ops true).wp Tryd.prog Q a w := by
  refine y0 (fun w' => S w') (h0) (fun hHeld => ?_)
  refine yv 0 rfl rfl (fun w1 hw => exec_move rfl (zi t0 rfl)) hHeld ?_
  refine yv 1 rfl rfl (fun w1 hw => exec_nilCheck rfl (zg zz rfl)) hHeld ?_
  refine yv 2 rfl rfl (fun w1 hw => exec_fieldAt rfl (zg zz rfl) (fg_84_0 _ _ _)) hHeld ?_
  refine yv 3 rfl rfl (fun w1 hw => exec_load rfl (zg zz rfl) (LR _ hw)) hHeld ?_
  refine yv 4 rfl rfl (fun w1 hw => exec_load rfl (zi t3 rfl) (LP _ hw)) hHeld ?_
  refine yv (v := .slice la n lc) 5 rfl rfl (fun w1 hw => exec_lookup rfl (zg zz rfl) (zg zz rfl) (LK _ hw)) hHeld ?_
  refine yv 6 rfl rfl (fun w1 hw => exec_assign rfl (zg zz rfl)) hHeld ?_
  exact ye rfl (h _ _ (hHeld) rfl)
def top4_o0 : Oper := { dst := some 26, op := Op.move (Operand.tmp 6), type := 60, pos := "regs.go:150", after := #[], guard := none }
def top4_o1 : Oper := { dst := some 27, op := Op.move (Operand.tmp 6), type := 60, pos := "regs.go:150", after := #[], guard := none }
def top4_o2 : Oper := { dst := some 28, op := Op.call { callee := Callee.builtin Builtin.len, args := #[Operand.tmp 27], argTypes := #[60] }, type := 3, pos := "regs.go:150", after := #[{ on := 1, ground := Ground.data }], guard := none }
def top4_o3 : Oper := { dst := some 29, op := Op.binOp BinOp.sub 3 (Operand.tmp 28) (Operand.const (Value.int IntKind.i64 1)) 3, type := 3, pos := "regs.go:150", after := #[{ on := 2, ground := Ground.data }], guard := none }
def top4_o4 : Oper := { dst := some 30, op := Op.indexAddr 60 (Operand.tmp 26) (Operand.tmp 29), type := 0, pos := "regs.go:150", after := #[{ on := 0, ground := Ground.data }, { on := 3, ground := Ground.data }], guard := none }
def top4_o5 : Oper := { dst := some 31, op := Op.load 63 (Operand.tmp 30), type := 63, pos := "regs.go:150", after := #[{ on := 4, ground := Ground.data }], guard := none }
def top4_o6 : Oper := { dst := none, op := Op.store 63 (Operand.tmp 4) (Operand.tmp 31), type := 0, pos := "regs.go:150", after := #[{ on := 5, ground := Ground.data }, { on := 0, ground := Ground.phase }, { on := 1, ground := Ground.phase }, { on := 2, ground := Ground.phase }, { on := 3, ground := Ground.phase }, { on := 4, ground := Ground.phase }, { on := 5, ground := Ground.phase }], guard := none }
def top4_o7 : Oper := { dst := some 5, op := Op.assign (Operand.const (Value.bool true)), type := 4, pos := "regs.go:150", after := #[{ on := 6, ground := Ground.chain }, { on := 0, ground := Ground.phase }, { on := 1, ground := Ground.phase }, { on := 2, ground := Ground.phase }, { on := 3, ground := Ground.phase }, { on := 4, ground := Ground.phase }, { on := 5, ground := Ground.phase }, { on := 6, ground := Ground.phase }], guard := none }
def top4_ops : Array Oper := #[top4_o0, top4_o1, top4_o2, top4_o3, top4_o4, top4_o5, top4_o6, top4_o7]
set_option maxRecDepth 100000 in
set_option maxHeartbeats 4000000 in
theorem top4 {eb g o n lc d : Nat} {x : EnV} {w1 : World} (a : Act) (w : World) (Q : Exit → Act → World → Prop) (zz : a.tmps.size = 32)
    (t4 : a.tmps.getD 4 undef = .pointer (some ⟨eb, 0, none⟩))
    (t6 : a.tmps.getD 6 undef = .slice (some ⟨g, o, none⟩) n lc)
    (hd : d + 1 = n) (hs : n ≤ 9223372036854775800) (hi : d < n) (hm : n ≤ 9223372036854775807) (LX : ∀ W, W = w → (Instr.loadAt 63 (.pointer (some ⟨g, o + 37 * d, none⟩))).run Tryd.prog W = .ok x.a W) (ES : (Instr.storeAt 63 (.pointer (some ⟨eb, 0, none⟩)) x.a).run Tryd.prog w = .ok () w1)
    (h : ∀ (a' : Act) (w' : World), w' = w1 → a' = (((((((a).put (some 26) (.slice (some ⟨g, o, none⟩) n lc)).put (some 27) (.slice (some ⟨g, o, none⟩) n lc)).put (some 28) (.int .i64 (n : Int))).put (some 29) (.int .i64 (d : Int))).put (some 30) (.pointer (some ⟨g, o + 37 * d, none⟩))).put (some 31) (x.a)).put (some 5) (.bool true) → Q .normal a' w') :
    (Code.region 4 top4_ops false).wp Tryd.prog Q a w := by
  refine z0 rfl ?_
  refine zv rfl (exec_move rfl (zi t6 rfl)) ?_
  refine zv rfl (exec_move rfl (zi t6 rfl)) ?_
  refine zv rfl (exec_len rfl (zg zz rfl) (len_en _ _ _ _ _)) ?_
  refine zv (v := .int .i64 (d : Int)) rfl (exec_sub1 rfl (zg zz rfl) rfl hd hs) ?_
  refine zv rfl (exec_indexAt rfl (zg zz rfl) (zg zz rfl) (ix_en hi hm _)) ?_
  refine zv rfl (exec_load rfl (zg zz rfl) (LX _ rfl)) ?_
  refine zs rfl (exec_store rfl (zi t4 rfl) (zg zz rfl) ES) ?_
  refine zv rfl (exec_assign rfl rfl) ?_
  exact ze rfl (h _ _ (rfl) rfl)
end Go.Proofs.YtldlljobofnmmaaDoor
