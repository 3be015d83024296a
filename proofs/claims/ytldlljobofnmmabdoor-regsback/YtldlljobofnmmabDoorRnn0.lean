import Derived.Test.YtldlljobofnmmabDoorZr
import Derived.Test.YtldlljobofnmmabDoorRva
namespace Go.Proofs.YtldlljobofnmmabDoor
open Go.RowKit
set_option linter.unusedVariables false
set_option linter.unusedSimpArgs false

theorem exec_c5 {w : World} {a : Act} {o : Oper} {F : Nat} {ts : Array TypeId} {x1 x2 x3 x4 x5 : Operand} {v1 v2 v3 v4 v5 : Value} (ho : o.op = .call { callee := .value (.func F), args := #[x1, x2, x3, x4, x5], argTypes := ts }) (h1 : a.eval x1 = v1) (h2 : a.eval x2 = v2) (h3 : a.eval x3 = v3) (h4 : a.eval x4 = v4) (h5 : a.eval x5 = v5) (hf : (callFunc F #[v1, v2, v3, v4, v5]).run Tryd.prog w = .ok (.enter F #[v1, v2, v3, v4, v5]) w := by go_simp) : (execOp a.eval o).run Tryd.prog w = .ok (.enter F #[v1, v2, v3, v4, v5]) w := by
  have e0 : a.eval (.func F) = .func (.func F) #[] #[] := rfl
  unfold execOp; simp [ho, resolve, invoke, h1, h2, h3, h4, h5, e0, Deferred.ofValue, Result.andThen, hf]
theorem exec_bc1 {w : World} {a : Act} {o : Oper} {t : TypeId} {i : Nat} {v u : Value} (ho : o.op = .build t #[(i, .const v)]) (hl : (Instr.build t #[(i, v)]).run Tryd.prog w = .ok u w) : (execOp a.eval o).run Tryd.prog w = .ok (.value u) w := exec_build ho (by simp; rfl) hl
theorem exec_bc2 {w : World} {a : Act} {o : Oper} {t : TypeId} {i j : Nat} {v v2 u : Value} (ho : o.op = .build t #[(i, .const v), (j, .const v2)]) (hl : (Instr.build t #[(i, v), (j, v2)]).run Tryd.prog w = .ok u w) : (execOp a.eval o).run Tryd.prog w = .ok (.value u) w := exec_build ho (by simp; exact ⟨rfl, rfl⟩) hl
theorem ex_nei {w : World} {a : Act} {o : Oper} {x y : Operand} {c : Int} {t : TypeId} (ht : t = 3 ∨ t = 2) (ho : o.op = .binOp .neq t x y t) (hx : a.eval x = .int .i64 c) (hy : a.eval y = .int .i64 c) : (execOp a.eval o).run Tryd.prog w = .ok (.value (.bool false)) w := by
  rcases ht with rfl | rfl
  · refine exec_binOp ho hx hy ?_ ?_
    · kernel_rfl
    · have : (c != c) = false := by simp
      go_simp
  · refine exec_binOp ho hx hy ?_ ?_
    · kernel_rfl
    · have : (c != c) = false := by simp
      go_simp
theorem ex_nbk {w : World} {a : Act} {o : Oper} {x y : Operand} (ho : o.op = .binOp .neq 27 x y 27) (hx : a.eval x = .pointer none) (hy : a.eval y = .pointer none) : (execOp a.eval o).run Tryd.prog w = .ok (.value (.bool false)) w := by
  refine exec_binOp ho hx hy ?_ ?_
  · unfold eqGuard; simp
  · kernel_rfl
theorem ex_neqX {w : World} {a : Act} {o : Oper} {x y : Operand} {p : IdK} (hp : p.ok) (ho : o.op = .binOp .neq 32 x y 32) (hx : a.eval x = p.v) (hy : a.eval y = p.v) : (execOp a.eval o).run Tryd.prog w = .ok (.value (.bool false)) w := by
  have h := neq_idR p p hp hp w
  rw [show decide (p ≠ p) = false by simp] at h
  exact exec_binOp ho hx hy (guard_idR _ _ _ _ _ _) h
def live9_o0 : Oper := { dst := some 29, op := Op.move (Operand.tmp 7), type := 44, pos := "law.go:32", after := #[], guard := none }
def live9_o1 : Oper := { dst := some 30, op := Op.call { callee := Callee.builtin Builtin.len, args := #[Operand.tmp 29], argTypes := #[44] }, type := 3, pos := "law.go:32", after := #[{ on := 0, ground := Ground.data }], guard := none }
def live9_o2 : Oper := { dst := some 31, op := Op.binOp BinOp.neq 3 (Operand.tmp 30) (Operand.const (Value.int IntKind.i64 2)) 3, type := 4, pos := "law.go:32", after := #[{ on := 1, ground := Ground.data }], guard := none }
def live9_o3 : Oper := { dst := some 32, op := Op.move (Operand.tmp 31), type := 4, pos := "law.go:32", after := #[{ on := 2, ground := Ground.data }], guard := none }
def live9_o4 : Oper := { dst := some 33, op := Op.move (Operand.tmp 7), type := 44, pos := "law.go:32", after := #[{ on := 3, ground := Ground.guard }], guard := some (3, false) }
def live9_o5 : Oper := { dst := some 34, op := Op.indexAddr 44 (Operand.tmp 33) (Operand.const (Value.int IntKind.i64 0)), type := 0, pos := "law.go:32", after := #[{ on := 4, ground := Ground.data }, { on := 3, ground := Ground.guard }], guard := some (3, false) }
def live9_o6 : Oper := { dst := some 35, op := Op.fieldAddr 65 (Operand.tmp 34) 0, type := 0, pos := "law.go:32", after := #[{ on := 5, ground := Ground.data }, { on := 3, ground := Ground.guard }], guard := some (3, false) }
def live9_o7 : Oper := { dst := some 36, op := Op.load 32 (Operand.tmp 35), type := 32, pos := "law.go:32", after := #[{ on := 6, ground := Ground.data }, { on := 3, ground := Ground.guard }], guard := some (3, false) }
def live9_o8 : Oper := { dst := some 37, op := Op.load 32 (Operand.tmp 3), type := 32, pos := "law.go:32", after := #[{ on := 3, ground := Ground.guard }], guard := some (3, false) }
def live9_o9 : Oper := { dst := some 38, op := Op.binOp BinOp.neq 32 (Operand.tmp 36) (Operand.tmp 37) 32, type := 4, pos := "law.go:32", after := #[{ on := 7, ground := Ground.data }, { on := 8, ground := Ground.data }, { on := 3, ground := Ground.guard }], guard := some (3, false) }
def live9_o10 : Oper := { dst := some 39, op := Op.pick (Operand.tmp 32) (Operand.const (Value.bool true)) (Operand.tmp 38), type := 4, pos := "law.go:32", after := #[{ on := 3, ground := Ground.data }, { on := 9, ground := Ground.data }], guard := none }
def live9_o11 : Oper := { dst := some 40, op := Op.move (Operand.tmp 39), type := 4, pos := "law.go:32", after := #[{ on := 10, ground := Ground.data }, { on := 3, ground := Ground.chain }], guard := none }
def live9_o12 : Oper := { dst := some 41, op := Op.move (Operand.tmp 7), type := 44, pos := "law.go:32", after := #[{ on := 11, ground := Ground.guard }], guard := some (11, false) }
def live9_o13 : Oper := { dst := some 42, op := Op.indexAddr 44 (Operand.tmp 41) (Operand.const (Value.int IntKind.i64 0)), type := 0, pos := "law.go:32", after := #[{ on := 12, ground := Ground.data }, { on := 11, ground := Ground.guard }], guard := some (11, false) }
def live9_o14 : Oper := { dst := some 43, op := Op.fieldAddr 65 (Operand.tmp 42) 1, type := 0, pos := "law.go:32", after := #[{ on := 13, ground := Ground.data }, { on := 11, ground := Ground.guard }], guard := some (11, false) }
def live9_o15 : Oper := { dst := some 44, op := Op.fieldAddr 39 (Operand.tmp 43) 1, type := 0, pos := "law.go:32", after := #[{ on := 14, ground := Ground.data }, { on := 11, ground := Ground.guard }], guard := some (11, false) }
def live9_o16 : Oper := { dst := some 45, op := Op.load 2 (Operand.tmp 44), type := 2, pos := "law.go:32", after := #[{ on := 15, ground := Ground.data }, { on := 11, ground := Ground.guard }], guard := some (11, false) }
def live9_o17 : Oper := { dst := some 46, op := Op.binOp BinOp.neq 2 (Operand.tmp 45) (Operand.const (Value.int IntKind.i64 8)) 2, type := 4, pos := "law.go:32", after := #[{ on := 16, ground := Ground.data }, { on := 11, ground := Ground.guard }], guard := some (11, false) }
def live9_o18 : Oper := { dst := some 47, op := Op.pick (Operand.tmp 40) (Operand.const (Value.bool true)) (Operand.tmp 46), type := 4, pos := "law.go:32", after := #[{ on := 11, ground := Ground.data }, { on := 17, ground := Ground.data }], guard := none }
def live9_o19 : Oper := { dst := some 48, op := Op.move (Operand.tmp 47), type := 4, pos := "law.go:32", after := #[{ on := 18, ground := Ground.data }, { on := 11, ground := Ground.chain }], guard := none }
def live9_o20 : Oper := { dst := some 49, op := Op.move (Operand.tmp 7), type := 44, pos := "law.go:32", after := #[{ on := 19, ground := Ground.guard }], guard := some (19, false) }
def live9_o21 : Oper := { dst := some 50, op := Op.indexAddr 44 (Operand.tmp 49) (Operand.const (Value.int IntKind.i64 1)), type := 0, pos := "law.go:32", after := #[{ on := 20, ground := Ground.data }, { on := 19, ground := Ground.guard }], guard := some (19, false) }
def live9_o22 : Oper := { dst := some 51, op := Op.fieldAddr 65 (Operand.tmp 50) 0, type := 0, pos := "law.go:32", after := #[{ on := 21, ground := Ground.data }, { on := 19, ground := Ground.guard }], guard := some (19, false) }
def live9_o23 : Oper := { dst := some 52, op := Op.load 32 (Operand.tmp 51), type := 32, pos := "law.go:32", after := #[{ on := 22, ground := Ground.data }, { on := 19, ground := Ground.guard }], guard := some (19, false) }
def live9_o24 : Oper := { dst := some 53, op := Op.load 32 (Operand.tmp 4), type := 32, pos := "law.go:32", after := #[{ on := 19, ground := Ground.guard }], guard := some (19, false) }
def live9_o25 : Oper := { dst := some 54, op := Op.binOp BinOp.neq 32 (Operand.tmp 52) (Operand.tmp 53) 32, type := 4, pos := "law.go:32", after := #[{ on := 23, ground := Ground.data }, { on := 24, ground := Ground.data }, { on := 19, ground := Ground.guard }], guard := some (19, false) }
def live9_o26 : Oper := { dst := some 55, op := Op.pick (Operand.tmp 48) (Operand.const (Value.bool true)) (Operand.tmp 54), type := 4, pos := "law.go:32", after := #[{ on := 19, ground := Ground.data }, { on := 25, ground := Ground.data }], guard := none }
def live9_o27 : Oper := { dst := some 56, op := Op.move (Operand.tmp 55), type := 4, pos := "law.go:32", after := #[{ on := 26, ground := Ground.data }, { on := 19, ground := Ground.chain }], guard := none }
def live9_o28 : Oper := { dst := some 57, op := Op.move (Operand.tmp 1), type := 25, pos := "law.go:32", after := #[{ on := 27, ground := Ground.guard }], guard := some (27, false) }
def live9_o29 : Oper := { dst := some 58, op := Op.call { callee := Callee.value (Operand.func 11), args := #[Operand.tmp 57], argTypes := #[25] }, type := 3, pos := "law.go:32", after := #[{ on := 28, ground := Ground.data }, { on := 27, ground := Ground.chain }, { on := 27, ground := Ground.guard }], guard := some (27, false) }
def live9_o30 : Oper := { dst := some 59, op := Op.binOp BinOp.neq 3 (Operand.tmp 58) (Operand.const (Value.int IntKind.i64 1)) 3, type := 4, pos := "law.go:32", after := #[{ on := 29, ground := Ground.data }, { on := 27, ground := Ground.guard }], guard := some (27, false) }
def live9_o31 : Oper := { dst := some 60, op := Op.pick (Operand.tmp 56) (Operand.const (Value.bool true)) (Operand.tmp 59), type := 4, pos := "law.go:32", after := #[{ on := 27, ground := Ground.data }, { on := 30, ground := Ground.data }], guard := none }
def live9_ops : Array Oper := #[live9_o0, live9_o1, live9_o2, live9_o3, live9_o4, live9_o5, live9_o6, live9_o7, live9_o8, live9_o9, live9_o10, live9_o11, live9_o12, live9_o13, live9_o14, live9_o15, live9_o16, live9_o17, live9_o18, live9_o19, live9_o20, live9_o21, live9_o22, live9_o23, live9_o24, live9_o25, live9_o26, live9_o27, live9_o28, live9_o29, live9_o30, live9_o31]
set_option maxRecDepth 100000 in
set_option maxHeartbeats 4000000 in
theorem live9 {rb xb yb g o lc : Nat} {x y : IdK} (a : Act) (w : World) (Q : Exit → Act → World → Prop) (zz : a.tmps.size = 78)
    (t1 : a.tmps.getD 1 undef = .pointer (some ⟨rb, 0, none⟩))
    (t3 : a.tmps.getD 3 undef = .pointer (some ⟨xb, 0, none⟩))
    (t4 : a.tmps.getD 4 undef = .pointer (some ⟨yb, 0, none⟩))
    (t7 : a.tmps.getD 7 undef = .slice (some ⟨g, o, none⟩) 2 lc)
    (hx : x.ok) (hy : y.ok) (L1 : ∀ W, W = w.drew → (Instr.loadAt 32 (.pointer (some ⟨g, o + 37 * 0 + 0, none⟩))).run Tryd.prog W = .ok (x.v) W) (L2 : ∀ W, W = w.drew → (Instr.loadAt 32 (.pointer (some ⟨xb, 0, none⟩))).run Tryd.prog W = .ok (x.v) W) (L3 : ∀ W, W = w.drew → (Instr.loadAt 2 (.pointer (some ⟨g, o + 37 * 0 + 33 + 1, none⟩))).run Tryd.prog W = .ok (.int .i64 8) W) (L4 : ∀ W, W = w.drew → (Instr.loadAt 32 (.pointer (some ⟨g, o + 37 * 1 + 0, none⟩))).run Tryd.prog W = .ok (y.v) W) (L5 : ∀ W, W = w.drew → (Instr.loadAt 32 (.pointer (some ⟨yb, 0, none⟩))).run Tryd.prog W = .ok (y.v) W) (CL : Calls Tryd.prog 11 #[.pointer (some ⟨rb, 0, none⟩)] w.drew fun e w' => e = .returned (.int .i64 1) ∧ w' = w.drew)
    (h : ∀ (a' : Act) (w' : World), w' = w.drew → a' = ((((((((((((((((((((((((((((((((a).put (some 29) (.slice (some ⟨g, o, none⟩) 2 lc)).put (some 30) (.int .i64 (2 : Int))).put (some 31) (.bool false)).put (some 32) (.bool false)).put (some 33) (.slice (some ⟨g, o, none⟩) 2 lc)).put (some 34) (.pointer (some ⟨g, o + 37 * 0, none⟩))).put (some 35) (.pointer (some ⟨g, o + 37 * 0 + 0, none⟩))).put (some 36) (x.v)).put (some 37) (x.v)).put (some 38) (.bool false)).put (some 39) (.bool false)).put (some 40) (.bool false)).put (some 41) (.slice (some ⟨g, o, none⟩) 2 lc)).put (some 42) (.pointer (some ⟨g, o + 37 * 0, none⟩))).put (some 43) (.pointer (some ⟨g, o + 37 * 0 + 33, none⟩))).put (some 44) (.pointer (some ⟨g, o + 37 * 0 + 33 + 1, none⟩))).put (some 45) (.int .i64 8)).put (some 46) (.bool false)).put (some 47) (.bool false)).put (some 48) (.bool false)).put (some 49) (.slice (some ⟨g, o, none⟩) 2 lc)).put (some 50) (.pointer (some ⟨g, o + 37 * 1, none⟩))).put (some 51) (.pointer (some ⟨g, o + 37 * 1 + 0, none⟩))).put (some 52) (y.v)).put (some 53) (y.v)).put (some 54) (.bool false)).put (some 55) (.bool false)).put (some 56) (.bool false)).put (some 57) (.pointer (some ⟨rb, 0, none⟩))).put (some 58) (.int .i64 1)).put (some 59) (.bool false)).put (some 60) (.bool false) → Q .normal a' w') :
    (Code.region 9 live9_ops true).wp Tryd.prog Q a w := by
  refine y0 (fun w' => w' = w.drew) (rfl) (fun hHeld => ?_)
  refine yv 0 rfl rfl (fun w1 hw => exec_move rfl (zi t7 rfl)) hHeld ?_
  refine yv 1 rfl rfl (fun w1 hw => exec_len rfl (zg zz rfl) (len_en _ _ _ _ _)) hHeld ?_
  refine yv (v := .bool false) 2 rfl rfl (fun w1 hw => ex_nei (.inl rfl) rfl (zg zz rfl) rfl) hHeld ?_
  refine yv 3 rfl rfl (fun w1 hw => exec_move rfl (zg zz rfl)) hHeld ?_
  refine yv 4 rfl (zw zz rfl rfl rfl (zg zz rfl)) (fun w1 hw => exec_move rfl (zi t7 rfl)) hHeld ?_
  refine yv 5 rfl (zw zz rfl rfl rfl (zg zz rfl)) (fun w1 hw => exec_indexAt rfl (zg zz rfl) rfl (ix_en (i := 0) (m := 2) (by decide) (by decide) _)) hHeld ?_
  refine yv 6 rfl (zw zz rfl rfl rfl (zg zz rfl)) (fun w1 hw => exec_fieldAt rfl (zg zz rfl) (fg_65_0 _ _ _)) hHeld ?_
  refine yv 7 rfl (zw zz rfl rfl rfl (zg zz rfl)) (fun w1 hw => exec_load rfl (zg zz rfl) (L1 _ hw)) hHeld ?_
  refine yv 8 rfl (zw zz rfl rfl rfl (zg zz rfl)) (fun w1 hw => exec_load rfl (zi t3 rfl) (L2 _ hw)) hHeld ?_
  refine yv (v := .bool false) 9 rfl (zw zz rfl rfl rfl (zg zz rfl)) (fun w1 hw => ex_neqX hx rfl (zg zz rfl) (zg zz rfl)) hHeld ?_
  refine yv 10 rfl rfl (fun w1 hw => exec_pickF rfl (zg zz rfl) (zg zz rfl)) hHeld ?_
  refine yv 11 rfl rfl (fun w1 hw => exec_move rfl (zg zz rfl)) hHeld ?_
  refine yv 12 rfl (zw zz rfl rfl rfl (zg zz rfl)) (fun w1 hw => exec_move rfl (zi t7 rfl)) hHeld ?_
  refine yv 13 rfl (zw zz rfl rfl rfl (zg zz rfl)) (fun w1 hw => exec_indexAt rfl (zg zz rfl) rfl (ix_en (i := 0) (m := 2) (by decide) (by decide) _)) hHeld ?_
  refine yv 14 rfl (zw zz rfl rfl rfl (zg zz rfl)) (fun w1 hw => exec_fieldAt rfl (zg zz rfl) (fg_65_1 _ _ _)) hHeld ?_
  refine yv 15 rfl (zw zz rfl rfl rfl (zg zz rfl)) (fun w1 hw => exec_fieldAt rfl (zg zz rfl) (fg_39_1 _ _ _)) hHeld ?_
  refine yv 16 rfl (zw zz rfl rfl rfl (zg zz rfl)) (fun w1 hw => exec_load rfl (zg zz rfl) (L3 _ hw)) hHeld ?_
  refine yv (v := .bool false) 17 rfl (zw zz rfl rfl rfl (zg zz rfl)) (fun w1 hw => ex_nei (.inr rfl) rfl (zg zz rfl) rfl) hHeld ?_
  refine yv 18 rfl rfl (fun w1 hw => exec_pickF rfl (zg zz rfl) (zg zz rfl)) hHeld ?_
  refine yv 19 rfl rfl (fun w1 hw => exec_move rfl (zg zz rfl)) hHeld ?_
  refine yv 20 rfl (zw zz rfl rfl rfl (zg zz rfl)) (fun w1 hw => exec_move rfl (zi t7 rfl)) hHeld ?_
  refine yv 21 rfl (zw zz rfl rfl rfl (zg zz rfl)) (fun w1 hw => exec_indexAt rfl (zg zz rfl) rfl (ix_en (i := 1) (m := 2) (by decide) (by decide) _)) hHeld ?_
  refine yv 22 rfl (zw zz rfl rfl rfl (zg zz rfl)) (fun w1 hw => exec_fieldAt rfl (zg zz rfl) (fg_65_0 _ _ _)) hHeld ?_
  refine yv 23 rfl (zw zz rfl rfl rfl (zg zz rfl)) (fun w1 hw => exec_load rfl (zg zz rfl) (L4 _ hw)) hHeld ?_
  refine yv 24 rfl (zw zz rfl rfl rfl (zg zz rfl)) (fun w1 hw => exec_load rfl (zi t4 rfl) (L5 _ hw)) hHeld ?_
  refine yv (v := .bool false) 25 rfl (zw zz rfl rfl rfl (zg zz rfl)) (fun w1 hw => ex_neqX hy rfl (zg zz rfl) (zg zz rfl)) hHeld ?_
  refine yv 26 rfl rfl (fun w1 hw => exec_pickF rfl (zg zz rfl) (zg zz rfl)) hHeld ?_
  refine yv 27 rfl rfl (fun w1 hw => exec_move rfl (zg zz rfl)) hHeld ?_
  refine yv 28 rfl (zw zz rfl rfl rfl (zg zz rfl)) (fun w1 hw => exec_move rfl (zi t1 rfl)) hHeld ?_
  refine yc 29 rfl (zw zz rfl rfl rfl (zg zz rfl)) (exec_c1 rfl (zg zz rfl)) (CL) (fun e x29 hx => ?_)
  obtain ⟨rfl, S1⟩ := hx
  refine ⟨_, rfl, S1, fun hHeld => ?_⟩
  refine yv (v := .bool false) 30 rfl (zw zz rfl rfl rfl (zg zz rfl)) (fun w1 hw => ex_nei (.inl rfl) rfl (zg zz rfl) rfl) hHeld ?_
  refine yv 31 rfl rfl (fun w1 hw => exec_pickF rfl (zg zz rfl) (zg zz rfl)) hHeld ?_
  exact ye rfl (h _ _ (S1) rfl)
def live2_o0 : Oper := { dst := some 9, op := Op.build 34 #[(1, Operand.const (Value.string { data := #[97] }))], type := 34, pos := "law.go:25", after := #[], guard := none }
def live2_o1 : Oper := { dst := some 2, op := Op.alloc 34, type := 0, pos := "law.go:25", after := #[], guard := none }
def live2_o2 : Oper := { dst := none, op := Op.store 34 (Operand.tmp 2) (Operand.tmp 9), type := 0, pos := "law.go:25", after := #[{ on := 1, ground := Ground.data }, { on := 0, ground := Ground.data }, { on := 0, ground := Ground.phase }, { on := 1, ground := Ground.phase }], guard := none }
def live2_ops : Array Oper := #[live2_o0, live2_o1, live2_o2]
set_option maxRecDepth 100000 in
set_option maxHeartbeats 4000000 in
theorem live2 {b : Nat} {u : Value} {w1 w2 : World} (a : Act) (w : World) (Q : Exit → Act → World → Prop) (zz : a.tmps.size = 78)
    (BB : (Instr.build 34 #[(1, .string ⟨#[97]⟩)]).run Tryd.prog w = .ok u w) (EA : (Instr.alloc 34 true (.tuple #[])).run Tryd.prog w = .ok (.pointer (some ⟨b, 0, none⟩)) w1) (ES : (Instr.storeAt 34 (.pointer (some ⟨b, 0, none⟩)) u).run Tryd.prog w1 = .ok () w2)
    (h : ∀ (a' : Act) (w' : World), w' = w2 → a' = ((a).put (some 9) (u)).put (some 2) (.pointer (some ⟨b, 0, none⟩)) → Q .normal a' w') :
    (Code.region 2 live2_ops false).wp Tryd.prog Q a w := by
  refine z0 rfl ?_
  refine zv (v := u) rfl (exec_bc1 rfl BB) ?_
  refine zv (v := .pointer (some ⟨b, 0, none⟩)) rfl (exec_alloc rfl EA) ?_
  refine zs rfl (exec_store rfl (zg zz rfl) (zg zz rfl) ES) ?_
  exact ze rfl (h _ _ (rfl) rfl)
def live3_o0 : Oper := { dst := some 10, op := Op.build 32 #[(1, Operand.const (Value.int IntKind.i64 1))], type := 32, pos := "law.go:26", after := #[], guard := none }
def live3_o1 : Oper := { dst := some 3, op := Op.alloc 32, type := 0, pos := "law.go:26", after := #[], guard := none }
def live3_o2 : Oper := { dst := none, op := Op.store 32 (Operand.tmp 3) (Operand.tmp 10), type := 0, pos := "law.go:26", after := #[{ on := 1, ground := Ground.data }, { on := 0, ground := Ground.data }, { on := 0, ground := Ground.phase }, { on := 1, ground := Ground.phase }], guard := none }
def live3_ops : Array Oper := #[live3_o0, live3_o1, live3_o2]
set_option maxRecDepth 100000 in
set_option maxHeartbeats 4000000 in
theorem live3 {b : Nat} {u : Value} {w1 w2 : World} (a : Act) (w : World) (Q : Exit → Act → World → Prop) (zz : a.tmps.size = 78)
    (BB : (Instr.build 32 #[(1, .int .i64 1)]).run Tryd.prog w = .ok u w) (EA : (Instr.alloc 32 true (.tuple #[])).run Tryd.prog w = .ok (.pointer (some ⟨b, 0, none⟩)) w1) (ES : (Instr.storeAt 32 (.pointer (some ⟨b, 0, none⟩)) u).run Tryd.prog w1 = .ok () w2)
    (h : ∀ (a' : Act) (w' : World), w' = w2 → a' = ((a).put (some 10) (u)).put (some 3) (.pointer (some ⟨b, 0, none⟩)) → Q .normal a' w') :
    (Code.region 3 live3_ops false).wp Tryd.prog Q a w := by
  refine z0 rfl ?_
  refine zv (v := u) rfl (exec_bc1 rfl BB) ?_
  refine zv (v := .pointer (some ⟨b, 0, none⟩)) rfl (exec_alloc rfl EA) ?_
  refine zs rfl (exec_store rfl (zg zz rfl) (zg zz rfl) ES) ?_
  exact ze rfl (h _ _ (rfl) rfl)
def live4_o0 : Oper := { dst := some 11, op := Op.build 32 #[(1, Operand.const (Value.int IntKind.i64 2))], type := 32, pos := "law.go:27", after := #[], guard := none }
def live4_o1 : Oper := { dst := some 4, op := Op.alloc 32, type := 0, pos := "law.go:27", after := #[], guard := none }
def live4_o2 : Oper := { dst := none, op := Op.store 32 (Operand.tmp 4) (Operand.tmp 11), type := 0, pos := "law.go:27", after := #[{ on := 1, ground := Ground.data }, { on := 0, ground := Ground.data }, { on := 0, ground := Ground.phase }, { on := 1, ground := Ground.phase }], guard := none }
def live4_ops : Array Oper := #[live4_o0, live4_o1, live4_o2]
set_option maxRecDepth 100000 in
set_option maxHeartbeats 4000000 in
theorem live4 {b : Nat} {u : Value} {w1 w2 : World} (a : Act) (w : World) (Q : Exit → Act → World → Prop) (zz : a.tmps.size = 78)
    (BB : (Instr.build 32 #[(1, .int .i64 2)]).run Tryd.prog w = .ok u w) (EA : (Instr.alloc 32 true (.tuple #[])).run Tryd.prog w = .ok (.pointer (some ⟨b, 0, none⟩)) w1) (ES : (Instr.storeAt 32 (.pointer (some ⟨b, 0, none⟩)) u).run Tryd.prog w1 = .ok () w2)
    (h : ∀ (a' : Act) (w' : World), w' = w2 → a' = ((a).put (some 11) (u)).put (some 4) (.pointer (some ⟨b, 0, none⟩)) → Q .normal a' w') :
    (Code.region 4 live4_ops false).wp Tryd.prog Q a w := by
  refine z0 rfl ?_
  refine zv (v := u) rfl (exec_bc1 rfl BB) ?_
  refine zv (v := .pointer (some ⟨b, 0, none⟩)) rfl (exec_alloc rfl EA) ?_
  refine zs rfl (exec_store rfl (zg zz rfl) (zg zz rfl) ES) ?_
  exact ze rfl (h _ _ (rfl) rfl)
def live5_o0 : Oper := { dst := some 12, op := Op.move (Operand.tmp 1), type := 25, pos := "law.go:28", after := #[], guard := none }
def live5_o1 : Oper := { dst := some 13, op := Op.load 34 (Operand.tmp 2), type := 34, pos := "law.go:28", after := #[], guard := none }
def live5_o2 : Oper := { dst := some 14, op := Op.load 32 (Operand.tmp 3), type := 32, pos := "law.go:28", after := #[], guard := none }
def live5_o3 : Oper := { dst := some 15, op := Op.build 39 #[(0, Operand.const (Value.int IntKind.u8 7)), (1, Operand.const (Value.int IntKind.i64 5))], type := 39, pos := "law.go:28", after := #[], guard := none }
def live5_o4 : Oper := { dst := some 16, op := Op.call { callee := Callee.value (Operand.func 15), args := #[Operand.tmp 12, Operand.tmp 13, Operand.tmp 14, Operand.tmp 15, Operand.const Value.nilFunc], argTypes := #[25, 34, 32, 39, 63] }, type := 27, pos := "law.go:28", after := #[{ on := 0, ground := Ground.data }, { on := 1, ground := Ground.data }, { on := 2, ground := Ground.data }, { on := 3, ground := Ground.data }], guard := none }
def live5_o5 : Oper := { dst := some 5, op := Op.assign (Operand.tmp 16), type := 27, pos := "law.go:28", after := #[{ on := 4, ground := Ground.data }, { on := 4, ground := Ground.chain }, { on := 0, ground := Ground.phase }, { on := 1, ground := Ground.phase }, { on := 2, ground := Ground.phase }, { on := 3, ground := Ground.phase }, { on := 4, ground := Ground.phase }], guard := none }
def live5_ops : Array Oper := #[live5_o0, live5_o1, live5_o2, live5_o3, live5_o4, live5_o5]
set_option maxRecDepth 100000 in
set_option maxHeartbeats 4000000 in
theorem live5 {rb pb xb : Nat} {p : PlK} {x : IdK} {v : VaV} (Fin : Nat → World → Prop) (a : Act) (w : World) (Q : Exit → Act → World → Prop) (zz : a.tmps.size = 78)
    (t1 : a.tmps.getD 1 undef = .pointer (some ⟨rb, 0, none⟩))
    (t2 : a.tmps.getD 2 undef = .pointer (some ⟨pb, 0, none⟩))
    (t3 : a.tmps.getD 3 undef = .pointer (some ⟨xb, 0, none⟩))
    (BB : (Instr.build 39 #[(0, .int .u8 7), (1, .int .i64 5)]).run Tryd.prog w = .ok v.v w) (LP : ∀ W, W = w → (Instr.loadAt 34 (.pointer (some ⟨pb, 0, none⟩))).run Tryd.prog W = .ok (p.v) W) (LX : ∀ W, W = w → (Instr.loadAt 32 (.pointer (some ⟨xb, 0, none⟩))).run Tryd.prog W = .ok (x.v) W) (CP : Calls Tryd.prog 15 #[.pointer (some ⟨rb, 0, none⟩), p.v, x.v, v.v, .nilFunc] w fun e w' => ∃ bk, e = .returned (.pointer (some ⟨bk, 0, none⟩)) ∧ Fin bk w')
    (h : ∀ (bk : Nat) (a' : Act) (w' : World), Fin bk w' → a' = ((((((a).put (some 12) (.pointer (some ⟨rb, 0, none⟩))).put (some 13) (p.v)).put (some 14) (x.v)).put (some 15) (v.v)).put (some 16) (.pointer (some ⟨bk, 0, none⟩))).put (some 5) (.pointer (some ⟨bk, 0, none⟩)) → Q .normal a' w') :
    (Code.region 5 live5_ops false).wp Tryd.prog Q a w := by
  refine z0 rfl ?_
  refine zv rfl (exec_move rfl (zi t1 rfl)) ?_
  refine zv rfl (exec_load rfl (zi t2 rfl) (LP _ rfl)) ?_
  refine zv rfl (exec_load rfl (zi t3 rfl) (LX _ rfl)) ?_
  refine zv (v := v.v) rfl (exec_bc2 rfl BB) ?_
  refine zc rfl (exec_c5 rfl (zg zz rfl) (zg zz rfl) (zg zz rfl) (zg zz rfl) rfl) (CP) (fun e x4 hx => ?_)
  obtain ⟨bk, rfl, HF⟩ := hx
  replace h := h bk
  refine ⟨_, rfl, ?_⟩
  refine zv rfl (exec_assign rfl (zg zz rfl)) ?_
  exact ze rfl (h _ _ (HF) rfl)
def live7_o0 : Oper := { dst := some 21, op := Op.move (Operand.tmp 1), type := 25, pos := "law.go:30", after := #[], guard := none }
def live7_o1 : Oper := { dst := some 22, op := Op.load 34 (Operand.tmp 2), type := 34, pos := "law.go:30", after := #[], guard := none }
def live7_o2 : Oper := { dst := some 23, op := Op.load 32 (Operand.tmp 4), type := 32, pos := "law.go:30", after := #[], guard := none }
def live7_o3 : Oper := { dst := some 24, op := Op.build 39 #[], type := 39, pos := "law.go:30", after := #[], guard := none }
def live7_o4 : Oper := { dst := some 25, op := Op.call { callee := Callee.value (Operand.func 15), args := #[Operand.tmp 21, Operand.tmp 22, Operand.tmp 23, Operand.tmp 24, Operand.const Value.nilFunc], argTypes := #[25, 34, 32, 39, 63] }, type := 27, pos := "law.go:30", after := #[{ on := 0, ground := Ground.data }, { on := 1, ground := Ground.data }, { on := 2, ground := Ground.data }, { on := 3, ground := Ground.data }], guard := none }
def live7_o5 : Oper := { dst := some 6, op := Op.assign (Operand.tmp 25), type := 27, pos := "law.go:30", after := #[{ on := 4, ground := Ground.data }, { on := 4, ground := Ground.chain }, { on := 0, ground := Ground.phase }, { on := 1, ground := Ground.phase }, { on := 2, ground := Ground.phase }, { on := 3, ground := Ground.phase }, { on := 4, ground := Ground.phase }], guard := none }
def live7_ops : Array Oper := #[live7_o0, live7_o1, live7_o2, live7_o3, live7_o4, live7_o5]
set_option maxRecDepth 100000 in
set_option maxHeartbeats 4000000 in
theorem live7 {rb pb xb : Nat} {p : PlK} {x : IdK} {v : VaV} (Fin : Nat → World → Prop) (a : Act) (w : World) (Q : Exit → Act → World → Prop) (zz : a.tmps.size = 78)
    (t1 : a.tmps.getD 1 undef = .pointer (some ⟨rb, 0, none⟩))
    (t2 : a.tmps.getD 2 undef = .pointer (some ⟨pb, 0, none⟩))
    (t4 : a.tmps.getD 4 undef = .pointer (some ⟨xb, 0, none⟩))
    (BB : (Instr.build 39 #[]).run Tryd.prog w = .ok v.v w) (LP : ∀ W, W = w → (Instr.loadAt 34 (.pointer (some ⟨pb, 0, none⟩))).run Tryd.prog W = .ok (p.v) W) (LX : ∀ W, W = w → (Instr.loadAt 32 (.pointer (some ⟨xb, 0, none⟩))).run Tryd.prog W = .ok (x.v) W) (CP : Calls Tryd.prog 15 #[.pointer (some ⟨rb, 0, none⟩), p.v, x.v, v.v, .nilFunc] w fun e w' => ∃ bk, e = .returned (.pointer (some ⟨bk, 0, none⟩)) ∧ Fin bk w')
    (h : ∀ (bk : Nat) (a' : Act) (w' : World), Fin bk w' → a' = ((((((a).put (some 21) (.pointer (some ⟨rb, 0, none⟩))).put (some 22) (p.v)).put (some 23) (x.v)).put (some 24) (v.v)).put (some 25) (.pointer (some ⟨bk, 0, none⟩))).put (some 6) (.pointer (some ⟨bk, 0, none⟩)) → Q .normal a' w') :
    (Code.region 7 live7_ops false).wp Tryd.prog Q a w := by
  refine z0 rfl ?_
  refine zv rfl (exec_move rfl (zi t1 rfl)) ?_
  refine zv rfl (exec_load rfl (zi t2 rfl) (LP _ rfl)) ?_
  refine zv rfl (exec_load rfl (zi t4 rfl) (LX _ rfl)) ?_
  refine zv rfl (exec_build0 rfl BB) ?_
  refine zc rfl (exec_c5 rfl (zg zz rfl) (zg zz rfl) (zg zz rfl) (zg zz rfl) rfl) (CP) (fun e x4 hx => ?_)
  obtain ⟨bk, rfl, HF⟩ := hx
  replace h := h bk
  refine ⟨_, rfl, ?_⟩
  refine zv rfl (exec_assign rfl (zg zz rfl)) ?_
  exact ze rfl (h _ _ (HF) rfl)
def live6_o0 : Oper := { dst := some 17, op := Op.move (Operand.tmp 1), type := 25, pos := "law.go:29", after := #[], guard := none }
def live6_o1 : Oper := { dst := some 18, op := Op.load 34 (Operand.tmp 2), type := 34, pos := "law.go:29", after := #[], guard := none }
def live6_o2 : Oper := { dst := some 19, op := Op.makeFunc (Fn.func 17) #[] #[Operand.tmp 3], type := 63, pos := "law.go:29", after := #[], guard := none }
def live6_o3 : Oper := { dst := some 20, op := Op.call { callee := Callee.value (Operand.func 16), args := #[Operand.tmp 17, Operand.tmp 18, Operand.const (Value.int IntKind.i64 3), Operand.tmp 19], argTypes := #[25, 34, 2, 63] }, type := 27, pos := "law.go:29", after := #[{ on := 0, ground := Ground.data }, { on := 1, ground := Ground.data }, { on := 2, ground := Ground.data }], guard := none }
def live6_ops : Array Oper := #[live6_o0, live6_o1, live6_o2, live6_o3]
set_option maxRecDepth 100000 in
set_option maxHeartbeats 4000000 in
theorem live6 {rb pb xb : Nat} {p : PlK} (Fin : Nat → World → Prop) (a : Act) (w : World) (Q : Exit → Act → World → Prop) (zz : a.tmps.size = 78)
    (t1 : a.tmps.getD 1 undef = .pointer (some ⟨rb, 0, none⟩))
    (t2 : a.tmps.getD 2 undef = .pointer (some ⟨pb, 0, none⟩))
    (t3 : a.tmps.getD 3 undef = .pointer (some ⟨xb, 0, none⟩))
    (LP : ∀ W, W = w → (Instr.loadAt 34 (.pointer (some ⟨pb, 0, none⟩))).run Tryd.prog W = .ok (p.v) W) (CP : Calls Tryd.prog 16 #[.pointer (some ⟨rb, 0, none⟩), p.v, .int .i64 3, .func (.func 17) #[] #[.pointer (some ⟨xb, 0, none⟩)]] w fun e w' => ∃ bk, e = .returned (.pointer (some ⟨bk, 0, none⟩)) ∧ Fin bk w')
    (h : ∀ (bk : Nat) (a' : Act) (w' : World), Fin bk w' → a' = ((((a).put (some 17) (.pointer (some ⟨rb, 0, none⟩))).put (some 18) (p.v)).put (some 19) (.func (.func 17) #[] #[.pointer (some ⟨xb, 0, none⟩)])).put (some 20) (.pointer (some ⟨bk, 0, none⟩)) → Q .normal a' w') :
    (Code.region 6 live6_ops false).wp Tryd.prog Q a w := by
  refine z0 rfl ?_
  refine zv rfl (exec_move rfl (zi t1 rfl)) ?_
  refine zv rfl (exec_load rfl (zi t2 rfl) (LP _ rfl)) ?_
  refine zv (v := .func (.func 17) #[] #[.pointer (some ⟨xb, 0, none⟩)]) rfl (exec_mkf1 rfl (zi t3 rfl)) ?_
  refine zc rfl (exec_c4 rfl (zg zz rfl) (zg zz rfl) rfl (zg zz rfl)) (CP) (fun e x3 hx => ?_)
  obtain ⟨bk, rfl, HF⟩ := hx
  replace h := h bk
  refine ⟨_, rfl, ?_⟩
  exact ze rfl (h _ _ (HF) rfl)
def live8_o0 : Oper := { dst := some 26, op := Op.move (Operand.tmp 1), type := 25, pos := "law.go:31", after := #[], guard := none }
def live8_o1 : Oper := { dst := some 27, op := Op.load 34 (Operand.tmp 2), type := 34, pos := "law.go:31", after := #[], guard := none }
def live8_o2 : Oper := { dst := some 28, op := Op.call { callee := Callee.value (Operand.func 10), args := #[Operand.tmp 26, Operand.tmp 27], argTypes := #[25, 34] }, type := 44, pos := "law.go:31", after := #[{ on := 0, ground := Ground.data }, { on := 1, ground := Ground.data }], guard := none }
def live8_o3 : Oper := { dst := some 7, op := Op.assign (Operand.tmp 28), type := 44, pos := "law.go:31", after := #[{ on := 2, ground := Ground.data }, { on := 2, ground := Ground.chain }, { on := 0, ground := Ground.phase }, { on := 1, ground := Ground.phase }, { on := 2, ground := Ground.phase }], guard := none }
def live8_ops : Array Oper := #[live8_o0, live8_o1, live8_o2, live8_o3]
set_option maxRecDepth 100000 in
set_option maxHeartbeats 4000000 in
theorem live8 {rb pb : Nat} {p : PlK} (Fin : Value → World → Prop) (a : Act) (w : World) (Q : Exit → Act → World → Prop) (zz : a.tmps.size = 78)
    (t1 : a.tmps.getD 1 undef = .pointer (some ⟨rb, 0, none⟩))
    (t2 : a.tmps.getD 2 undef = .pointer (some ⟨pb, 0, none⟩))
    (LP : ∀ W, W = w → (Instr.loadAt 34 (.pointer (some ⟨pb, 0, none⟩))).run Tryd.prog W = .ok (p.v) W) (CP : Calls Tryd.prog 10 #[.pointer (some ⟨rb, 0, none⟩), p.v] w fun e w' => ∃ u, e = .returned u ∧ Fin u w')
    (h : ∀ (u : Value) (a' : Act) (w' : World), Fin u w' → a' = ((((a).put (some 26) (.pointer (some ⟨rb, 0, none⟩))).put (some 27) (p.v)).put (some 28) (u)).put (some 7) (u) → Q .normal a' w') :
    (Code.region 8 live8_ops false).wp Tryd.prog Q a w := by
  refine z0 rfl ?_
  refine zv rfl (exec_move rfl (zi t1 rfl)) ?_
  refine zv rfl (exec_load rfl (zi t2 rfl) (LP _ rfl)) ?_
  refine zc rfl (exec_c2 rfl (zg zz rfl) (zg zz rfl)) (CP) (fun e x2 hx => ?_)
  obtain ⟨u, rfl, HF⟩ := hx
  replace h := h u
  refine ⟨_, rfl, ?_⟩
  refine zv rfl (exec_assign rfl (zg zz rfl)) ?_
  exact ze rfl (h _ _ (HF) rfl)
end Go.Proofs.YtldlljobofnmmabDoor
