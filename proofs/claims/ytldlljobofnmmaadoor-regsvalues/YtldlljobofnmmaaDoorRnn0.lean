import Derived.Test.YtldlljobofnmmaaDoorZr
import Derived.Test.YtldlljobofnmmaaDoorRva
namespace Go.Proofs.YtldlljobofnmmaaDoor
open Go.RowKit
set_option linter.unusedVariables false
set_option linter.unusedSimpArgs false

theorem fg_45_0 (b o : Nat) (w : World) : (Instr.fieldAt 45 (.pointer (some ⟨b, o, none⟩)) 0).run Tryd.prog w = .ok (.pointer (some ⟨b, o + 0, none⟩)) w := by go_simp
theorem fg_45_1 (b o : Nat) (w : World) : (Instr.fieldAt 45 (.pointer (some ⟨b, o, none⟩)) 1).run Tryd.prog w = .ok (.pointer (some ⟨b, o + 1, none⟩)) w := by go_simp
theorem fg_45_2 (b o : Nat) (w : World) : (Instr.fieldAt 45 (.pointer (some ⟨b, o, none⟩)) 2).run Tryd.prog w = .ok (.pointer (some ⟨b, o + 2, none⟩)) w := by go_simp
theorem fg_45_3 (b o : Nat) (w : World) : (Instr.fieldAt 45 (.pointer (some ⟨b, o, none⟩)) 3).run Tryd.prog w = .ok (.pointer (some ⟨b, o + 35, none⟩)) w := by go_simp
theorem fg_45_4 (b o : Nat) (w : World) : (Instr.fieldAt 45 (.pointer (some ⟨b, o, none⟩)) 4).run Tryd.prog w = .ok (.pointer (some ⟨b, o + 39, none⟩)) w := by go_simp
theorem fg_45_5 (b o : Nat) (w : World) : (Instr.fieldAt 45 (.pointer (some ⟨b, o, none⟩)) 5).run Tryd.prog w = .ok (.pointer (some ⟨b, o + 40, none⟩)) w := by go_simp
theorem fg_45_6 (b o : Nat) (w : World) : (Instr.fieldAt 45 (.pointer (some ⟨b, o, none⟩)) 6).run Tryd.prog w = .ok (.pointer (some ⟨b, o + 41, none⟩)) w := by go_simp
theorem ix_opR {b o m c i : Nat} (hi : i < m) (hm : m ≤ 9223372036854775807) (W : World) : (Instr.indexAt 23 (.slice (some ⟨b, o, none⟩) m c) (.int .i64 (i : Int))).run Tryd.prog W = .ok (.pointer (some ⟨b, o + 42 * i, none⟩)) W := by
  rw [Nat.mul_comm]
  go_simp
theorem exec_c5 {w : World} {a : Act} {o : Oper} {F : Nat} {ts : Array TypeId} {x1 x2 x3 x4 x5 : Operand} {v1 v2 v3 v4 v5 : Value} (ho : o.op = .call { callee := .value (.func F), args := #[x1, x2, x3, x4, x5], argTypes := ts }) (h1 : a.eval x1 = v1) (h2 : a.eval x2 = v2) (h3 : a.eval x3 = v3) (h4 : a.eval x4 = v4) (h5 : a.eval x5 = v5) (hf : (callFunc F #[v1, v2, v3, v4, v5]).run Tryd.prog w = .ok (.enter F #[v1, v2, v3, v4, v5]) w := by go_simp) : (execOp a.eval o).run Tryd.prog w = .ok (.enter F #[v1, v2, v3, v4, v5]) w := by
  have e0 : a.eval (.func F) = .func (.func F) #[] #[] := rfl
  unfold execOp; simp [ho, resolve, invoke, h1, h2, h3, h4, h5, e0, Deferred.ofValue, Result.andThen, hf]
theorem exec_bc1 {w : World} {a : Act} {o : Oper} {t : TypeId} {i : Nat} {v u : Value} (ho : o.op = .build t #[(i, .const v)]) (hl : (Instr.build t #[(i, v)]).run Tryd.prog w = .ok u w) : (execOp a.eval o).run Tryd.prog w = .ok (.value u) w := exec_build ho (by simp; rfl) hl
theorem exec_bc2 {w : World} {a : Act} {o : Oper} {t : TypeId} {i j : Nat} {v v2 u : Value} (ho : o.op = .build t #[(i, .const v), (j, .const v2)]) (hl : (Instr.build t #[(i, v), (j, v2)]).run Tryd.prog w = .ok u w) : (execOp a.eval o).run Tryd.prog w = .ok (.value u) w := exec_build ho (by simp; exact ⟨rfl, rfl⟩) hl
theorem ex_nei {w : World} {a : Act} {o : Oper} {x y : Operand} {c : Int} {t : TypeId} (ht : t = 3 ∨ t = 2) (ho : o.op = .binOp .neq t x y t) (hx : a.eval x = .int .i64 c) (hy : a.eval y = .int .i64 c) : (execOp a.eval o).run Tryd.prog w = .ok (.value (.bool false)) w := by
  rcases ht with rfl | rfl
  · refine exec_binOp ho hx hy ?_ ?_
    · kernel_rfl
    · have : (c != c) = false := by simp
      go_simp
  · refine exec_binOp ho hx hy ?_ ?_
    · kernel_rfl
    · have : (c != c) = false := by simp
      go_simp
theorem ex_nbk {w : World} {a : Act} {o : Oper} {x y : Operand} (ho : o.op = .binOp .neq 54 x y 54) (hx : a.eval x = .pointer none) (hy : a.eval y = .pointer none) : (execOp a.eval o).run Tryd.prog w = .ok (.value (.bool false)) w := by
  refine exec_binOp ho hx hy ?_ ?_
  · unfold eqGuard; simp
  · kernel_rfl
theorem ex_neqX {w : World} {a : Act} {o : Oper} {x y : Operand} {p : IdK} (hp : p.ok) (ho : o.op = .binOp .neq 38 x y 38) (hx : a.eval x = p.v) (hy : a.eval y = p.v) : (execOp a.eval o).run Tryd.prog w = .ok (.value (.bool false)) w := by
  have h := neq_idR p p hp hp w
  rw [show decide (p ≠ p) = false by simp] at h
  exact exec_binOp ho hx hy (guard_idR _ _ _ _ _ _) h
theorem len_st0 (w : World) : (Builtin.len_ #[67] 3 #[.slice none 0 0]).run Tryd.prog w = .ok (.int .i64 0) w := by go_simp
theorem ex_ne58 {w : World} {a : Act} {o : Oper} {x y : Operand} {c : Int} (ho : o.op = .binOp .neq 58 x y 58) (hx : a.eval x = .int .i64 c) (hy : a.eval y = .int .i64 c) : (execOp a.eval o).run Tryd.prog w = .ok (.value (.bool false)) w := by
  refine exec_binOp ho hx hy ?_ ?_
  · kernel_rfl
  · have : (c != c) = false := by simp
    go_simp
def live9_o0 : Oper := { dst := some 29, op := Op.move (Operand.tmp 7), type := 60, pos := "law.go:32", after := #[], guard := none }
def live9_o1 : Oper := { dst := some 30, op := Op.call { callee := Callee.builtin Builtin.len, args := #[Operand.tmp 29], argTypes := #[60] }, type := 3, pos := "law.go:32", after := #[{ on := 0, ground := Ground.data }], guard := none }
def live9_o2 : Oper := { dst := some 31, op := Op.binOp BinOp.neq 3 (Operand.tmp 30) (Operand.const (Value.int IntKind.i64 2)) 3, type := 4, pos := "law.go:32", after := #[{ on := 1, ground := Ground.data }], guard := none }
def live9_o3 : Oper := { dst := some 32, op := Op.move (Operand.tmp 31), type := 4, pos := "law.go:32", after := #[{ on := 2, ground := Ground.data }], guard := none }
def live9_o4 : Oper := { dst := some 33, op := Op.move (Operand.tmp 7), type := 60, pos := "law.go:32", after := #[{ on := 3, ground := Ground.guard }], guard := some (3, false) }
def live9_o5 : Oper := { dst := some 34, op := Op.indexAddr 60 (Operand.tmp 33) (Operand.const (Value.int IntKind.i64 0)), type := 0, pos := "law.go:32", after := #[{ on := 4, ground := Ground.data }, { on := 3, ground := Ground.guard }], guard := some (3, false) }
def live9_o6 : Oper := { dst := some 35, op := Op.fieldAddr 63 (Operand.tmp 34) 0, type := 0, pos := "law.go:32", after := #[{ on := 5, ground := Ground.data }, { on := 3, ground := Ground.guard }], guard := some (3, false) }
def live9_o7 : Oper := { dst := some 36, op := Op.load 38 (Operand.tmp 35), type := 38, pos := "law.go:32", after := #[{ on := 6, ground := Ground.data }, { on := 3, ground := Ground.guard }], guard := some (3, false) }
def live9_o8 : Oper := { dst := some 37, op := Op.load 38 (Operand.tmp 3), type := 38, pos := "law.go:32", after := #[{ on := 3, ground := Ground.guard }], guard := some (3, false) }
def live9_o9 : Oper := { dst := some 38, op := Op.binOp BinOp.neq 38 (Operand.tmp 36) (Operand.tmp 37) 38, type := 4, pos := "law.go:32", after := #[{ on := 7, ground := Ground.data }, { on := 8, ground := Ground.data }, { on := 3, ground := Ground.guard }], guard := some (3, false) }
def live9_o10 : Oper := { dst := some 39, op := Op.pick (Operand.tmp 32) (Operand.const (Value.bool true)) (Operand.tmp 38), type := 4, pos := "law.go:32", after := #[{ on := 3, ground := Ground.data }, { on := 9, ground := Ground.data }], guard := none }
def live9_o11 : Oper := { dst := some 40, op := Op.move (Operand.tmp 39), type := 4, pos := "law.go:32", after := #[{ on := 10, ground := Ground.data }, { on := 3, ground := Ground.chain }], guard := none }
def live9_o12 : Oper := { dst := some 41, op := Op.move (Operand.tmp 7), type := 60, pos := "law.go:32", after := #[{ on := 11, ground := Ground.guard }], guard := some (11, false) }
def live9_o13 : Oper := { dst := some 42, op := Op.indexAddr 60 (Operand.tmp 41) (Operand.const (Value.int IntKind.i64 0)), type := 0, pos := "law.go:32", after := #[{ on := 12, ground := Ground.data }, { on := 11, ground := Ground.guard }], guard := some (11, false) }
def live9_o14 : Oper := { dst := some 43, op := Op.fieldAddr 63 (Operand.tmp 42) 1, type := 0, pos := "law.go:32", after := #[{ on := 13, ground := Ground.data }, { on := 11, ground := Ground.guard }], guard := some (11, false) }
def live9_o15 : Oper := { dst := some 44, op := Op.fieldAddr 42 (Operand.tmp 43) 1, type := 0, pos := "law.go:32", after := #[{ on := 14, ground := Ground.data }, { on := 11, ground := Ground.guard }], guard := some (11, false) }
def live9_o16 : Oper := { dst := some 45, op := Op.load 2 (Operand.tmp 44), type := 2, pos := "law.go:32", after := #[{ on := 15, ground := Ground.data }, { on := 11, ground := Ground.guard }], guard := some (11, false) }
def live9_o17 : Oper := { dst := some 46, op := Op.binOp BinOp.neq 2 (Operand.tmp 45) (Operand.const (Value.int IntKind.i64 8)) 2, type := 4, pos := "law.go:32", after := #[{ on := 16, ground := Ground.data }, { on := 11, ground := Ground.guard }], guard := some (11, false) }
def live9_o18 : Oper := { dst := some 47, op := Op.pick (Operand.tmp 40) (Operand.const (Value.bool true)) (Operand.tmp 46), type := 4, pos := "law.go:32", after := #[{ on := 11, ground := Ground.data }, { on := 17, ground := Ground.data }], guard := none }
def live9_o19 : Oper := { dst := some 48, op := Op.move (Operand.tmp 47), type := 4, pos := "law.go:32", after := #[{ on := 18, ground := Ground.data }, { on := 11, ground := Ground.chain }], guard := none }
def live9_o20 : Oper := { dst := some 49, op := Op.move (Operand.tmp 7), type := 60, pos := "law.go:32", after := #[{ on := 19, ground := Ground.guard }], guard := some (19, false) }
def live9_o21 : Oper := { dst := some 50, op := Op.indexAddr 60 (Operand.tmp 49) (Operand.const (Value.int IntKind.i64 1)), type := 0, pos := "law.go:32", after := #[{ on := 20, ground := Ground.data }, { on := 19, ground := Ground.guard }], guard := some (19, false) }
def live9_o22 : Oper := { dst := some 51, op := Op.fieldAddr 63 (Operand.tmp 50) 0, type := 0, pos := "law.go:32", after := #[{ on := 21, ground := Ground.data }, { on := 19, ground := Ground.guard }], guard := some (19, false) }
def live9_o23 : Oper := { dst := some 52, op := Op.load 38 (Operand.tmp 51), type := 38, pos := "law.go:32", after := #[{ on := 22, ground := Ground.data }, { on := 19, ground := Ground.guard }], guard := some (19, false) }
def live9_o24 : Oper := { dst := some 53, op := Op.load 38 (Operand.tmp 4), type := 38, pos := "law.go:32", after := #[{ on := 19, ground := Ground.guard }], guard := some (19, false) }
def live9_o25 : Oper := { dst := some 54, op := Op.binOp BinOp.neq 38 (Operand.tmp 52) (Operand.tmp 53) 38, type := 4, pos := "law.go:32", after := #[{ on := 23, ground := Ground.data }, { on := 24, ground := Ground.data }, { on := 19, ground := Ground.guard }], guard := some (19, false) }
def live9_o26 : Oper := { dst := some 55, op := Op.pick (Operand.tmp 48) (Operand.const (Value.bool true)) (Operand.tmp 54), type := 4, pos := "law.go:32", after := #[{ on := 19, ground := Ground.data }, { on := 25, ground := Ground.data }], guard := none }
def live9_o27 : Oper := { dst := some 56, op := Op.move (Operand.tmp 55), type := 4, pos := "law.go:32", after := #[{ on := 26, ground := Ground.data }, { on := 19, ground := Ground.chain }], guard := none }
def live9_o28 : Oper := { dst := some 57, op := Op.move (Operand.tmp 1), type := 26, pos := "law.go:32", after := #[{ on := 27, ground := Ground.guard }], guard := some (27, false) }
def live9_o29 : Oper := { dst := some 58, op := Op.call { callee := Callee.value (Operand.func 24), args := #[Operand.tmp 57], argTypes := #[26] }, type := 3, pos := "law.go:32", after := #[{ on := 28, ground := Ground.data }, { on := 27, ground := Ground.chain }, { on := 27, ground := Ground.guard }], guard := some (27, false) }
def live9_o30 : Oper := { dst := some 59, op := Op.binOp BinOp.neq 3 (Operand.tmp 58) (Operand.const (Value.int IntKind.i64 1)) 3, type := 4, pos := "law.go:32", after := #[{ on := 29, ground := Ground.data }, { on := 27, ground := Ground.guard }], guard := some (27, false) }
def live9_o31 : Oper := { dst := some 60, op := Op.pick (Operand.tmp 56) (Operand.const (Value.bool true)) (Operand.tmp 59), type := 4, pos := "law.go:32", after := #[{ on := 27, ground := Ground.data }, { on := 30, ground := Ground.data }], guard := none }
def live9_ops : Array Oper := #[live9_o0, live9_o1, live9_o2, live9_o3, live9_o4, live9_o5, live9_o6, live9_o7, live9_o8, live9_o9, live9_o10, live9_o11, live9_o12, live9_o13, live9_o14, live9_o15, live9_o16, live9_o17, live9_o18, live9_o19, live9_o20, live9_o21, live9_o22, live9_o23, live9_o24, live9_o25, live9_o26, live9_o27, live9_o28, live9_o29, live9_o30, live9_o31]
set_option maxRecDepth 100000 in
set_option maxHeartbeats 4000000 in
theorem live9 {rb xb yb g o lc : Nat} {x y : IdK} (a : Act) (w : World) (Q : Exit → Act → World → Prop) (zz : a.tmps.size = 78)
    (t1 : a.tmps.getD 1 undef = .pointer (some ⟨rb, 0, none⟩))
    (t3 : a.tmps.getD 3 undef = .pointer (some ⟨xb, 0, none⟩))
    (t4 : a.tmps.getD 4 undef = .pointer (some ⟨yb, 0, none⟩))
    (t7 : a.tmps.getD 7 undef = .slice (some ⟨g, o, none⟩) 2 lc)
    (hx : x.ok) (hy : y.ok) (L1 : ∀ W, W = w.drew → (Instr.loadAt 38 (.pointer (some ⟨g, o + 37 * 0 + 0, none⟩))).run Tryd.prog W = .ok (x.v) W) (L2 : ∀ W, W = w.drew → (Instr.loadAt 38 (.pointer (some ⟨xb, 0, none⟩))).run Tryd.prog W = .ok (x.v) W) (L3 : ∀ W, W = w.drew → (Instr.loadAt 2 (.pointer (some ⟨g, o + 37 * 0 + 33 + 1, none⟩))).run Tryd.prog W = .ok (.int .i64 8) W) (L4 : ∀ W, W = w.drew → (Instr.loadAt 38 (.pointer (some ⟨g, o + 37 * 1 + 0, none⟩))).run Tryd.prog W = .ok (y.v) W) (L5 : ∀ W, W = w.drew → (Instr.loadAt 38 (.pointer (some ⟨yb, 0, none⟩))).run Tryd.prog W = .ok (y.v) W) (CL : Calls Tryd.prog 24 #[.pointer (some ⟨rb, 0, none⟩)] w.drew fun e w' => e = .returned (.int .i64 1) ∧ w' = w.drew)
    (h : ∀ (a' : Act) (w' : World), w' = w.drew → a' = ((((((((((((((((((((((((((((((((a).put (some 29) (.slice (some ⟨g, o, none⟩) 2 lc)).put (some 30) (.int .i64 (2 : Int))).put (some 31) (.bool false)).put (some 32) (.bool false)).put (some 33) (.slice (some ⟨g, o, none⟩) 2 lc)).put (some 34) (.pointer (some ⟨g, o + 37 * 0, none⟩))).put (some 35) (.pointer (some ⟨g, o + 37 * 0 + 0, none⟩))).put (some 36) (x.v)).put (some 37) (x.v)).put (some 38) (.bool false)).put (some 39) (.bool false)).put (some 40) (.bool false)).put (some 41) (.slice (some ⟨g, o, none⟩) 2 lc)).put (some 42) (.pointer (some ⟨g, o + 37 * 0, none⟩))).put (some 43) (.pointer (some ⟨g, o + 37 * 0 + 33, none⟩))).put (some 44) (.pointer (some ⟨g, o + 37 * 0 + 33 + 1, none⟩))).put (some 45) (.int .i64 8)).put (some 46) (.bool false)).put (some 47) (.bool false)).put (some 48) (.bool false)).put (some 49) (.slice (some ⟨g, o, none⟩) 2 lc)).put (some 50) (.pointer (some ⟨g, o + 37 * 1, none⟩))).put (some 51) (.pointer (some ⟨g, o + 37 * 1 + 0, none⟩))).put (some 52) (y.v)).put (some 53) (y.v)).put (some 54) (.bool false)).put (some 55) (.bool false)).put (some 56) (.bool false)).put (some 57) (.pointer (some ⟨rb, 0, none⟩))).put (some 58) (.int .i64 1)).put (some 59) (.bool false)).put (some 60) (.bool false) → Q .normal a' w') :
    (Code.region 9 live9_ops true).wp Tryd.prog Q a w := by
  refine y0 (fun w' => w' = w.drew) (rfl) (fun hHeld => ?_)
  refine yv 0 rfl rfl (fun w1 hw => exec_move rfl (zi t7 rfl)) hHeld ?_
  refine yv 1 rfl rfl (fun w1 hw => exec_len rfl (zg zz rfl) (len_en _ _ _ _ _)) hHeld ?_
  refine yv (v := .bool false) 2 rfl rfl (fun w1 hw => ex_nei (.inl rfl) rfl (zg zz rfl) rfl) hHeld ?_
  refine yv 3 rfl rfl (fun w1 hw => exec_move rfl (zg zz rfl)) hHeld ?_
  refine yv 4 rfl (zw zz rfl rfl rfl (zg zz rfl)) (fun w1 hw => exec_move rfl (zi t7 rfl)) hHeld ?_
  refine yv 5 rfl (zw zz rfl rfl rfl (zg zz rfl)) (fun w1 hw => exec_indexAt rfl (zg zz rfl) rfl (ix_en (i := 0) (m := 2) (by decide) (by decide) _)) hHeld ?_
  refine yv 6 rfl (zw zz rfl rfl rfl (zg zz rfl)) (fun w1 hw => exec_fieldAt rfl (zg zz rfl) (fg_63_0 _ _ _)) hHeld ?_
  refine yv 7 rfl (zw zz rfl rfl rfl (zg zz rfl)) (fun w1 hw => exec_load rfl (zg zz rfl) (L1 _ hw)) hHeld ?_
  refine yv 8 rfl (zw zz rfl rfl rfl (zg zz rfl)) (fun w1 hw => exec_load rfl (zi t3 rfl) (L2 _ hw)) hHeld ?_
  refine yv (v := .bool false) 9 rfl (zw zz rfl rfl rfl (zg zz rfl)) (fun w1 hw => ex_neqX hx rfl (zg zz rfl) (zg zz rfl)) hHeld ?_
  refine yv 10 rfl rfl (fun w1 hw => exec_pickF rfl (zg zz rfl) (zg zz rfl)) hHeld ?_
  refine yv 11 rfl rfl (fun w1 hw => exec_move rfl (zg zz rfl)) hHeld ?_
  refine yv 12 rfl (zw zz rfl rfl rfl (zg zz rfl)) (fun w1 hw => exec_move rfl (zi t7 rfl)) hHeld ?_
  refine yv 13 rfl (zw zz rfl rfl rfl (zg zz rfl)) (fun w1 hw => exec_indexAt rfl (zg zz rfl) rfl (ix_en (i := 0) (m := 2) (by decide) (by decide) _)) hHeld ?_
  refine yv 14 rfl (zw zz rfl rfl rfl (zg zz rfl)) (fun w1 hw => exec_fieldAt rfl (zg zz rfl) (fg_63_1 _ _ _)) hHeld ?_
  refine yv 15 rfl (zw zz rfl rfl rfl (zg zz rfl)) (fun w1 hw => exec_fieldAt rfl (zg zz rfl) (fg_42_1 _ _ _)) hHeld ?_
  refine yv 16 rfl (zw zz rfl rfl rfl (zg zz rfl)) (fun w1 hw => exec_load rfl (zg zz rfl) (L3 _ hw)) hHeld ?_
  refine yv (v := .bool false) 17 rfl (zw zz rfl rfl rfl (zg zz rfl)) (fun w1 hw => ex_nei (.inr rfl) rfl (zg zz rfl) rfl) hHeld ?_
  refine yv 18 rfl rfl (fun w1 hw => exec_pickF rfl (zg zz rfl) (zg zz rfl)) hHeld ?_
  refine yv 19 rfl rfl (fun w1 hw => exec_move rfl (zg zz rfl)) hHeld ?_
  refine yv 20 rfl (zw zz rfl rfl rfl (zg zz rfl)) (fun w1 hw => exec_move rfl (zi t7 rfl)) hHeld ?_
  refine yv 21 rfl (zw zz rfl rfl rfl (zg zz rfl)) (fun w1 hw => exec_indexAt rfl (zg zz rfl) rfl (ix_en (i := 1) (m := 2) (by decide) (by decide) _)) hHeld ?_
  refine yv 22 rfl (zw zz rfl rfl rfl (zg zz rfl)) (fun w1 hw => exec_fieldAt rfl (zg zz rfl) (fg_63_0 _ _ _)) hHeld ?_
  refine yv 23 rfl (zw zz rfl rfl rfl (zg zz rfl)) (fun w1 hw => exec_load rfl (zg zz rfl) (L4 _ hw)) hHeld ?_
  refine yv 24 rfl (zw zz rfl rfl rfl (zg zz rfl)) (fun w1 hw => exec_load rfl (zi t4 rfl) (L5 _ hw)) hHeld ?_
  refine yv (v := .bool false) 25 rfl (zw zz rfl rfl rfl (zg zz rfl)) (fun w1 hw => ex_neqX hy rfl (zg zz rfl) (zg zz rfl)) hHeld ?_
  refine yv 26 rfl rfl (fun w1 hw => exec_pickF rfl (zg zz rfl) (zg zz rfl)) hHeld ?_
  refine yv 27 rfl rfl (fun w1 hw => exec_move rfl (zg zz rfl)) hHeld ?_
  refine yv 28 rfl (zw zz rfl rfl rfl (zg zz rfl)) (fun w1 hw => exec_move rfl (zi t1 rfl)) hHeld ?_
  refine yc 29 rfl (zw zz rfl rfl rfl (zg zz rfl)) (exec_c1 rfl (zg zz rfl)) (CL) (fun e x29 hx => ?_)
  obtain ⟨rfl, S1⟩ := hx
  refine ⟨_, rfl, S1, fun hHeld => ?_⟩
  refine yv (v := .bool false) 30 rfl (zw zz rfl rfl rfl (zg zz rfl)) (fun w1 hw => ex_nei (.inl rfl) rfl (zg zz rfl) rfl) hHeld ?_
  refine yv 31 rfl rfl (fun w1 hw => exec_pickF rfl (zg zz rfl) (zg zz rfl)) hHeld ?_
  exact ye rfl (h _ _ (S1) rfl)
def live2_o0 : Oper := { dst := some 9, op := Op.build 52 #[(1, Operand.const (Value.string { data := #[97] }))], type := 52, pos := "law.go:25", after := #[], guard := none }
def live2_o1 : Oper := { dst := some 2, op := Op.alloc 52, type := 0, pos := "law.go:25", after := #[], guard := none }
def live2_o2 : Oper := { dst := none, op := Op.store 52 (Operand.tmp 2) (Operand.tmp 9), type := 0, pos := "law.go:25", after := #[{ on := 1, ground := Ground.data }, { on := 0, ground := Ground.data }, { on := 0, ground := Ground.phase }, { on := 1, ground := Ground.phase }], guard := none }
def live2_ops : Array Oper := #[live2_o0, live2_o1, live2_o2]
set_option maxRecDepth 100000 in
set_option maxHeartbeats 4000000 in
theorem live2 {b : Nat} {u : Value} {w1 w2 : World} (a : Act) (w : World) (Q : Exit → Act → World → Prop) (zz : a.tmps.size = 78)
    (BB : (Instr.build 52 #[(1, .string ⟨#[97]⟩)]).run Tryd.prog w = .ok u w) (EA : (Instr.alloc 52 true (.tuple #[])).run Tryd.prog w = .ok (.pointer (some ⟨b, 0, none⟩)) w1) (ES : (Instr.storeAt 52 (.pointer (some ⟨b, 0, none⟩)) u).run Tryd.prog w1 = .ok () w2)
    (h : ∀ (a' : Act) (w' : World), w' = w2 → a' = ((a).put (some 9) (u)).put (some 2) (.pointer (some ⟨b, 0, none⟩)) → Q .normal a' w') :
    (Code.region 2 live2_ops false).wp Tryd.prog Q a w := by
  refine z0 rfl ?_
  refine zv (v := u) rfl (exec_bc1 rfl BB) ?_
  refine zv (v := .pointer (some ⟨b, 0, none⟩)) rfl (exec_alloc rfl EA) ?_
  refine zs rfl (exec_store rfl (zg zz rfl) (zg zz rfl) ES) ?_
  exact ze rfl (h _ _ (rfl) rfl)
def live3_o0 : Oper := { dst := some 10, op := Op.build 38 #[(1, Operand.const (Value.int IntKind.i64 1))], type := 38, pos := "law.go:26", after := #[], guard := none }
def live3_o1 : Oper := { dst := some 3, op := Op.alloc 38, type := 0, pos := "law.go:26", after := #[], guard := none }
def live3_o2 : Oper := { dst := none, op := Op.store 38 (Operand.tmp 3) (Operand.tmp 10), type := 0, pos := "law.go:26", after := #[{ on := 1, ground := Ground.data }, { on := 0, ground := Ground.data }, { on := 0, ground := Ground.phase }, { on := 1, ground := Ground.phase }], guard := none }
def live3_ops : Array Oper := #[live3_o0, live3_o1, live3_o2]
set_option maxRecDepth 100000 in
set_option maxHeartbeats 4000000 in
theorem live3 {b : Nat} {u : Value} {w1 w2 : World} (a : Act) (w : World) (Q : Exit → Act → World → Prop) (zz : a.tmps.size = 78)
    (BB : (Instr.build 38 #[(1, .int .i64 1)]).run Tryd.prog w = .ok u w) (EA : (Instr.alloc 38 true (.tuple #[])).run Tryd.prog w = .ok (.pointer (some ⟨b, 0, none⟩)) w1) (ES : (Instr.storeAt 38 (.pointer (some ⟨b, 0, none⟩)) u).run Tryd.prog w1 = .ok () w2)
    (h : ∀ (a' : Act) (w' : World), w' = w2 → a' = ((a).put (some 10) (u)).put (some 3) (.pointer (some ⟨b, 0, none⟩)) → Q .normal a' w') :
    (Code.region 3 live3_ops false).wp Tryd.prog Q a w := by
  refine z0 rfl ?_
  refine zv (v := u) rfl (exec_bc1 rfl BB) ?_
  refine zv (v := .pointer (some ⟨b, 0, none⟩)) rfl (exec_alloc rfl EA) ?_
  refine zs rfl (exec_store rfl (zg zz rfl) (zg zz rfl) ES) ?_
  exact ze rfl (h _ _ (rfl) rfl)
def live4_o0 : Oper := { dst := some 11, op := Op.build 38 #[(1, Operand.const (Value.int IntKind.i64 2))], type := 38, pos := "law.go:27", after := #[], guard := none }
def live4_o1 : Oper := { dst := some 4, op := Op.alloc 38, type := 0, pos := "law.go:27", after := #[], guard := none }
def live4_o2 : Oper := { dst := none, op := Op.store 38 (Operand.tmp 4) (Operand.tmp 11), type := 0, pos := "law.go:27", after := #[{ on := 1, ground := Ground.data }, { on := 0, ground := Ground.data }, { on := 0, ground := Ground.phase }, { on := 1, ground := Ground.phase }], guard := none }
def live4_ops : Array Oper := #[live4_o0, live4_o1, live4_o2]
set_option maxRecDepth 100000 in
set_option maxHeartbeats 4000000 in
theorem live4 {b : Nat} {u : Value} {w1 w2 : World} (a : Act) (w : World) (Q : Exit → Act → World → Prop) (zz : a.tmps.size = 78)
    (BB : (Instr.build 38 #[(1, .int .i64 2)]).run Tryd.prog w = .ok u w) (EA : (Instr.alloc 38 true (.tuple #[])).run Tryd.prog w = .ok (.pointer (some ⟨b, 0, none⟩)) w1) (ES : (Instr.storeAt 38 (.pointer (some ⟨b, 0, none⟩)) u).run Tryd.prog w1 = .ok () w2)
    (h : ∀ (a' : Act) (w' : World), w' = w2 → a' = ((a).put (some 11) (u)).put (some 4) (.pointer (some ⟨b, 0, none⟩)) → Q .normal a' w') :
    (Code.region 4 live4_ops false).wp Tryd.prog Q a w := by
  refine z0 rfl ?_
  refine zv (v := u) rfl (exec_bc1 rfl BB) ?_
  refine zv (v := .pointer (some ⟨b, 0, none⟩)) rfl (exec_alloc rfl EA) ?_
  refine zs rfl (exec_store rfl (zg zz rfl) (zg zz rfl) ES) ?_
  exact ze rfl (h _ _ (rfl) rfl)
def live5_o0 : Oper := { dst := some 12, op := Op.move (Operand.tmp 1), type := 26, pos := "law.go:28", after := #[], guard := none }
def live5_o1 : Oper := { dst := some 13, op := Op.load 52 (Operand.tmp 2), type := 52, pos := "law.go:28", after := #[], guard := none }
def live5_o2 : Oper := { dst := some 14, op := Op.load 38 (Operand.tmp 3), type := 38, pos := "law.go:28", after := #[], guard := none }
def live5_o3 : Oper := { dst := some 15, op := Op.build 42 #[(0, Operand.const (Value.int IntKind.u8 7)), (1, Operand.const (Value.int IntKind.i64 5))], type := 42, pos := "law.go:28", after := #[], guard := none }
def live5_o4 : Oper := { dst := some 16, op := Op.call { callee := Callee.value (Operand.func 16), args := #[Operand.tmp 12, Operand.tmp 13, Operand.tmp 14, Operand.tmp 15, Operand.const Value.nilFunc], argTypes := #[26, 52, 38, 42, 80] }, type := 54, pos := "law.go:28", after := #[{ on := 0, ground := Ground.data }, { on := 1, ground := Ground.data }, { on := 2, ground := Ground.data }, { on := 3, ground := Ground.data }], guard := none }
def live5_o5 : Oper := { dst := some 5, op := Op.assign (Operand.tmp 16), type := 54, pos := "law.go:28", after := #[{ on := 4, ground := Ground.data }, { on := 4, ground := Ground.chain }, { on := 0, ground := Ground.phase }, { on := 1, ground := Ground.phase }, { on := 2, ground := Ground.phase }, { on := 3, ground := Ground.phase }, { on := 4, ground := Ground.phase }], guard := none }
def live5_ops : Array Oper := #[live5_o0, live5_o1, live5_o2, live5_o3, live5_o4, live5_o5]
set_option maxRecDepth 100000 in
set_option maxHeartbeats 4000000 in
theorem live5 {rb pb xb : Nat} {p : PlK} {x : IdK} {v : VaV} (Fin : Nat → World → Prop) (a : Act) (w : World) (Q : Exit → Act → World → Prop) (zz : a.tmps.size = 78)
    (t1 : a.tmps.getD 1 undef = .pointer (some ⟨rb, 0, none⟩))
    (t2 : a.tmps.getD 2 undef = .pointer (some ⟨pb, 0, none⟩))
    (t3 : a.tmps.getD 3 undef = .pointer (some ⟨xb, 0, none⟩))
    (BB : (Instr.build 42 #[(0, .int .u8 7), (1, .int .i64 5)]).run Tryd.prog w = .ok v.v w) (LP : ∀ W, W = w → (Instr.loadAt 52 (.pointer (some ⟨pb, 0, none⟩))).run Tryd.prog W = .ok (p.v) W) (LX : ∀ W, W = w → (Instr.loadAt 38 (.pointer (some ⟨xb, 0, none⟩))).run Tryd.prog W = .ok (x.v) W) (CP : Calls Tryd.prog 16 #[.pointer (some ⟨rb, 0, none⟩), p.v, x.v, v.v, .nilFunc] w fun e w' => ∃ bk, e = .returned (.pointer (some ⟨bk, 0, none⟩)) ∧ Fin bk w')
    (h : ∀ (bk : Nat) (a' : Act) (w' : World), Fin bk w' → a' = ((((((a).put (some 12) (.pointer (some ⟨rb, 0, none⟩))).put (some 13) (p.v)).put (some 14) (x.v)).put (some 15) (v.v)).put (some 16) (.pointer (some ⟨bk, 0, none⟩))).put (some 5) (.pointer (some ⟨bk, 0, none⟩)) → Q .normal a' w') :
    (Code.region 5 live5_ops false).wp Tryd.prog Q a w := by
  refine z0 rfl ?_
  refine zv rfl (exec_move rfl (zi t1 rfl)) ?_
  refine zv rfl (exec_load rfl (zi t2 rfl) (LP _ rfl)) ?_
  refine zv rfl (exec_load rfl (zi t3 rfl) (LX _ rfl)) ?_
  refine zv (v := v.v) rfl (exec_bc2 rfl BB) ?_
  refine zc rfl (exec_c5 rfl (zg zz rfl) (zg zz rfl) (zg zz rfl) (zg zz rfl) rfl) (CP) (fun e x4 hx => ?_)
  obtain ⟨bk, rfl, HF⟩ := hx
  replace h := h bk
  refine ⟨_, rfl, ?_⟩
  refine zv rfl (exec_assign rfl (zg zz rfl)) ?_
  exact ze rfl (h _ _ (HF) rfl)
def live7_o0 : Oper := { dst := some 21, op := Op.move (Operand.tmp 1), type := 26, pos := "law.go:30", after := #[], guard := none }
def live7_o1 : Oper := { dst := some 22, op := Op.load 52 (Operand.tmp 2), type := 52, pos := "law.go:30", after := #[], guard := none }
def live7_o2 : Oper := { dst := some 23, op := Op.load 38 (Operand.tmp 4), type := 38, pos := "law.go:30", after := #[], guard := none }
def live7_o3 : Oper := { dst := some 24, op := Op.build 42 #[], type := 42, pos := "law.go:30", after := #[], guard := none }
def live7_o4 : Oper := { dst := some 25, op := Op.call { callee := Callee.value (Operand.func 16), args := #[Operand.tmp 21, Operand.tmp 22, Operand.tmp 23, Operand.tmp 24, Operand.const Value.nilFunc], argTypes := #[26, 52, 38, 42, 80] }, type := 54, pos := "law.go:30", after := #[{ on := 0, ground := Ground.data }, { on := 1, ground := Ground.data }, { on := 2, ground := Ground.data }, { on := 3, ground := Ground.data }], guard := none }
def live7_o5 : Oper := { dst := some 6, op := Op.assign (Operand.tmp 25), type := 54, pos := "law.go:30", after := #[{ on := 4, ground := Ground.data }, { on := 4, ground := Ground.chain }, { on := 0, ground := Ground.phase }, { on := 1, ground := Ground.phase }, { on := 2, ground := Ground.phase }, { on := 3, ground := Ground.phase }, { on := 4, ground := Ground.phase }], guard := none }
def live7_ops : Array Oper := #[live7_o0, live7_o1, live7_o2, live7_o3, live7_o4, live7_o5]
set_option maxRecDepth 100000 in
set_option maxHeartbeats 4000000 in
theorem live7 {rb pb xb : Nat} {p : PlK} {x : IdK} {v : VaV} (Fin : Nat → World → Prop) (a : Act) (w : World) (Q : Exit → Act → World → Prop) (zz : a.tmps.size = 78)
    (t1 : a.tmps.getD 1 undef = .pointer (some ⟨rb, 0, none⟩))
    (t2 : a.tmps.getD 2 undef = .pointer (some ⟨pb, 0, none⟩))
    (t4 : a.tmps.getD 4 undef = .pointer (some ⟨xb, 0, none⟩))
    (BB : (Instr.build 42 #[]).run Tryd.prog w = .ok v.v w) (LP : ∀ W, W = w → (Instr.loadAt 52 (.pointer (some ⟨pb, 0, none⟩))).run Tryd.prog W = .ok (p.v) W) (LX : ∀ W, W = w → (Instr.loadAt 38 (.pointer (some ⟨xb, 0, none⟩))).run Tryd.prog W = .ok (x.v) W) (CP : Calls Tryd.prog 16 #[.pointer (some ⟨rb, 0, none⟩), p.v, x.v, v.v, .nilFunc] w fun e w' => ∃ bk, e = .returned (.pointer (some ⟨bk, 0, none⟩)) ∧ Fin bk w')
    (h : ∀ (bk : Nat) (a' : Act) (w' : World), Fin bk w' → a' = ((((((a).put (some 21) (.pointer (some ⟨rb, 0, none⟩))).put (some 22) (p.v)).put (some 23) (x.v)).put (some 24) (v.v)).put (some 25) (.pointer (some ⟨bk, 0, none⟩))).put (some 6) (.pointer (some ⟨bk, 0, none⟩)) → Q .normal a' w') :
    (Code.region 7 live7_ops false).wp Tryd.prog Q a w := by
  refine z0 rfl ?_
  refine zv rfl (exec_move rfl (zi t1 rfl)) ?_
  refine zv rfl (exec_load rfl (zi t2 rfl) (LP _ rfl)) ?_
  refine zv rfl (exec_load rfl (zi t4 rfl) (LX _ rfl)) ?_
  refine zv rfl (exec_build0 rfl BB) ?_
  refine zc rfl (exec_c5 rfl (zg zz rfl) (zg zz rfl) (zg zz rfl) (zg zz rfl) rfl) (CP) (fun e x4 hx => ?_)
  obtain ⟨bk, rfl, HF⟩ := hx
  replace h := h bk
  refine ⟨_, rfl, ?_⟩
  refine zv rfl (exec_assign rfl (zg zz rfl)) ?_
  exact ze rfl (h _ _ (HF) rfl)
def live6_o0 : Oper := { dst := some 17, op := Op.move (Operand.tmp 1), type := 26, pos := "law.go:29", after := #[], guard := none }
def live6_o1 : Oper := { dst := some 18, op := Op.load 52 (Operand.tmp 2), type := 52, pos := "law.go:29", after := #[], guard := none }
def live6_o2 : Oper := { dst := some 19, op := Op.makeFunc (Fn.func 31) #[] #[Operand.tmp 3], type := 80, pos := "law.go:29", after := #[], guard := none }
def live6_o3 : Oper := { dst := some 20, op := Op.call { callee := Callee.value (Operand.func 18), args := #[Operand.tmp 17, Operand.tmp 18, Operand.const (Value.int IntKind.i64 3), Operand.tmp 19], argTypes := #[26, 52, 2, 80] }, type := 54, pos := "law.go:29", after := #[{ on := 0, ground := Ground.data }, { on := 1, ground := Ground.data }, { on := 2, ground := Ground.data }], guard := none }
def live6_ops : Array Oper := #[live6_o0, live6_o1, live6_o2, live6_o3]
set_option maxRecDepth 100000 in
set_option maxHeartbeats 4000000 in
theorem live6 {rb pb xb : Nat} {p : PlK} (Fin : Nat → World → Prop) (a : Act) (w : World) (Q : Exit → Act → World → Prop) (zz : a.tmps.size = 78)
    (t1 : a.tmps.getD 1 undef = .pointer (some ⟨rb, 0, none⟩))
    (t2 : a.tmps.getD 2 undef = .pointer (some ⟨pb, 0, none⟩))
    (t3 : a.tmps.getD 3 undef = .pointer (some ⟨xb, 0, none⟩))
    (LP : ∀ W, W = w → (Instr.loadAt 52 (.pointer (some ⟨pb, 0, none⟩))).run Tryd.prog W = .ok (p.v) W) (CP : Calls Tryd.prog 18 #[.pointer (some ⟨rb, 0, none⟩), p.v, .int .i64 3, .func (.func 31) #[] #[.pointer (some ⟨xb, 0, none⟩)]] w fun e w' => ∃ bk, e = .returned (.pointer (some ⟨bk, 0, none⟩)) ∧ Fin bk w')
    (h : ∀ (bk : Nat) (a' : Act) (w' : World), Fin bk w' → a' = ((((a).put (some 17) (.pointer (some ⟨rb, 0, none⟩))).put (some 18) (p.v)).put (some 19) (.func (.func 31) #[] #[.pointer (some ⟨xb, 0, none⟩)])).put (some 20) (.pointer (some ⟨bk, 0, none⟩)) → Q .normal a' w') :
    (Code.region 6 live6_ops false).wp Tryd.prog Q a w := by
  refine z0 rfl ?_
  refine zv rfl (exec_move rfl (zi t1 rfl)) ?_
  refine zv rfl (exec_load rfl (zi t2 rfl) (LP _ rfl)) ?_
  refine zv (v := .func (.func 31) #[] #[.pointer (some ⟨xb, 0, none⟩)]) rfl (exec_mkf1 rfl (zi t3 rfl)) ?_
  refine zc rfl (exec_c4 rfl (zg zz rfl) (zg zz rfl) rfl (zg zz rfl)) (CP) (fun e x3 hx => ?_)
  obtain ⟨bk, rfl, HF⟩ := hx
  replace h := h bk
  refine ⟨_, rfl, ?_⟩
  exact ze rfl (h _ _ (HF) rfl)
def live8_o0 : Oper := { dst := some 26, op := Op.move (Operand.tmp 1), type := 26, pos := "law.go:31", after := #[], guard := none }
def live8_o1 : Oper := { dst := some 27, op := Op.load 52 (Operand.tmp 2), type := 52, pos := "law.go:31", after := #[], guard := none }
def live8_o2 : Oper := { dst := some 28, op := Op.call { callee := Callee.value (Operand.func 20), args := #[Operand.tmp 26, Operand.tmp 27], argTypes := #[26, 52] }, type := 60, pos := "law.go:31", after := #[{ on := 0, ground := Ground.data }, { on := 1, ground := Ground.data }], guard := none }
def live8_o3 : Oper := { dst := some 7, op := Op.assign (Operand.tmp 28), type := 60, pos := "law.go:31", after := #[{ on := 2, ground := Ground.data }, { on := 2, ground := Ground.chain }, { on := 0, ground := Ground.phase }, { on := 1, ground := Ground.phase }, { on := 2, ground := Ground.phase }], guard := none }
def live8_ops : Array Oper := #[live8_o0, live8_o1, live8_o2, live8_o3]
set_option maxRecDepth 100000 in
set_option maxHeartbeats 4000000 in
theorem live8 {rb pb : Nat} {p : PlK} (Fin : Value → World → Prop) (a : Act) (w : World) (Q : Exit → Act → World → Prop) (zz : a.tmps.size = 78)
    (t1 : a.tmps.getD 1 undef = .pointer (some ⟨rb, 0, none⟩))
    (t2 : a.tmps.getD 2 undef = .pointer (some ⟨pb, 0, none⟩))
    (LP : ∀ W, W = w → (Instr.loadAt 52 (.pointer (some ⟨pb, 0, none⟩))).run Tryd.prog W = .ok (p.v) W) (CP : Calls Tryd.prog 20 #[.pointer (some ⟨rb, 0, none⟩), p.v] w fun e w' => ∃ u, e = .returned u ∧ Fin u w')
    (h : ∀ (u : Value) (a' : Act) (w' : World), Fin u w' → a' = ((((a).put (some 26) (.pointer (some ⟨rb, 0, none⟩))).put (some 27) (p.v)).put (some 28) (u)).put (some 7) (u) → Q .normal a' w') :
    (Code.region 8 live8_ops false).wp Tryd.prog Q a w := by
  refine z0 rfl ?_
  refine zv rfl (exec_move rfl (zi t1 rfl)) ?_
  refine zv rfl (exec_load rfl (zi t2 rfl) (LP _ rfl)) ?_
  refine zc rfl (exec_c2 rfl (zg zz rfl) (zg zz rfl)) (CP) (fun e x2 hx => ?_)
  obtain ⟨u, rfl, HF⟩ := hx
  replace h := h u
  refine ⟨_, rfl, ?_⟩
  refine zv rfl (exec_assign rfl (zg zz rfl)) ?_
  exact ze rfl (h _ _ (HF) rfl)
def none9_o0 : Oper := { dst := some 29, op := Op.move (Operand.tmp 6), type := 26, pos := "law.go:204", after := #[], guard := none }
def none9_o1 : Oper := { dst := some 30, op := Op.load 52 (Operand.tmp 8), type := 52, pos := "law.go:204", after := #[], guard := none }
def none9_o2 : Oper := { dst := some 31, op := Op.move (Operand.tmp 1), type := 23, pos := "law.go:204", after := #[], guard := none }
def none9_o3 : Oper := { dst := some 32, op := Op.move (Operand.tmp 7), type := 3, pos := "law.go:204", after := #[], guard := none }
def none9_o4 : Oper := { dst := some 33, op := Op.indexAddr 23 (Operand.tmp 31) (Operand.tmp 32), type := 0, pos := "law.go:204", after := #[{ on := 2, ground := Ground.data }, { on := 3, ground := Ground.data }], guard := none }
def none9_o5 : Oper := { dst := some 34, op := Op.fieldAddr 45 (Operand.tmp 33) 2, type := 0, pos := "law.go:204", after := #[{ on := 4, ground := Ground.data }], guard := none }
def none9_o6 : Oper := { dst := some 35, op := Op.load 38 (Operand.tmp 34), type := 38, pos := "law.go:204", after := #[{ on := 5, ground := Ground.data }], guard := none }
def none9_o7 : Oper := { dst := some 36, op := Op.move (Operand.tmp 1), type := 23, pos := "law.go:204", after := #[], guard := none }
def none9_o8 : Oper := { dst := some 37, op := Op.move (Operand.tmp 7), type := 3, pos := "law.go:204", after := #[], guard := none }
def none9_o9 : Oper := { dst := some 38, op := Op.indexAddr 23 (Operand.tmp 36) (Operand.tmp 37), type := 0, pos := "law.go:204", after := #[{ on := 7, ground := Ground.data }, { on := 8, ground := Ground.data }], guard := none }
def none9_o10 : Oper := { dst := some 39, op := Op.fieldAddr 45 (Operand.tmp 38) 3, type := 0, pos := "law.go:204", after := #[{ on := 9, ground := Ground.data }], guard := none }
def none9_o11 : Oper := { dst := some 40, op := Op.load 42 (Operand.tmp 39), type := 42, pos := "law.go:204", after := #[{ on := 10, ground := Ground.data }], guard := none }
def none9_o12 : Oper := { dst := some 41, op := Op.call { callee := Callee.value (Operand.func 16), args := #[Operand.tmp 29, Operand.tmp 30, Operand.tmp 35, Operand.tmp 40, Operand.const Value.nilFunc], argTypes := #[26, 52, 38, 42, 80] }, type := 54, pos := "law.go:204", after := #[{ on := 0, ground := Ground.data }, { on := 1, ground := Ground.data }, { on := 6, ground := Ground.data }, { on := 11, ground := Ground.data }], guard := none }
def none9_o13 : Oper := { dst := some 9, op := Op.assign (Operand.tmp 41), type := 54, pos := "law.go:204", after := #[{ on := 12, ground := Ground.data }, { on := 12, ground := Ground.chain }, { on := 0, ground := Ground.phase }, { on := 1, ground := Ground.phase }, { on := 2, ground := Ground.phase }, { on := 3, ground := Ground.phase }, { on := 4, ground := Ground.phase }, { on := 5, ground := Ground.phase }, { on := 6, ground := Ground.phase }, { on := 7, ground := Ground.phase }, { on := 8, ground := Ground.phase }, { on := 9, ground := Ground.phase }, { on := 10, ground := Ground.phase }, { on := 11, ground := Ground.phase }, { on := 12, ground := Ground.phase }], guard := none }
def none9_ops : Array Oper := #[none9_o0, none9_o1, none9_o2, none9_o3, none9_o4, none9_o5, none9_o6, none9_o7, none9_o8, none9_o9, none9_o10, none9_o11, none9_o12, none9_o13]
set_option maxRecDepth 100000 in
set_option maxHeartbeats 4000000 in
theorem none9 {rb pb g o n c i : Nat} {p : PlK} {x : OpR} (S : World → Prop) (Fin : Nat → World → Prop) (a : Act) (w : World) (Q : Exit → Act → World → Prop) (zz : a.tmps.size = 152)
    (t1 : a.tmps.getD 1 undef = .slice (some ⟨g, o, none⟩) n c)
    (t7 : a.tmps.getD 7 undef = .int .i64 (i : Int))
    (t8 : a.tmps.getD 8 undef = .pointer (some ⟨pb, 0, none⟩))
    (t6 : a.tmps.getD 6 undef = .pointer (some ⟨rb, 0, none⟩))
    (hi : i < n) (hm : n ≤ 9223372036854775807) (h0 : S w.drew) (LP : ∀ W, S W → (Instr.loadAt 52 (.pointer (some ⟨pb, 0, none⟩))).run Tryd.prog W = .ok (p.v) W) (LI : ∀ W, S W → (Instr.loadAt 38 (.pointer (some ⟨g, o + 42 * i + 2, none⟩))).run Tryd.prog W = .ok (x.id.v) W) (LV : ∀ W, S W → (Instr.loadAt 42 (.pointer (some ⟨g, o + 42 * i + 35, none⟩))).run Tryd.prog W = .ok (x.v.v) W) (CP : Calls Tryd.prog 16 #[.pointer (some ⟨rb, 0, none⟩), p.v, x.id.v, x.v.v, .nilFunc] w.drew fun e w' => ∃ bk, e = .returned (.pointer (some ⟨bk, 0, none⟩)) ∧ S w' ∧ Fin bk w')
    (h : ∀ (bk : Nat) (a' : Act) (w' : World), Fin bk w' → a' = ((((((((((((((a).put (some 29) (.pointer (some ⟨rb, 0, none⟩))).put (some 30) (p.v)).put (some 31) (.slice (some ⟨g, o, none⟩) n c)).put (some 32) (.int .i64 (i : Int))).put (some 33) (.pointer (some ⟨g, o + 42 * i, none⟩))).put (some 34) (.pointer (some ⟨g, o + 42 * i + 2, none⟩))).put (some 35) (x.id.v)).put (some 36) (.slice (some ⟨g, o, none⟩) n c)).put (some 37) (.int .i64 (i : Int))).put (some 38) (.pointer (some ⟨g, o + 42 * i, none⟩))).put (some 39) (.pointer (some ⟨g, o + 42 * i + 35, none⟩))).put (some 40) (x.v.v)).put (some 41) (.pointer (some ⟨bk, 0, none⟩))).put (some 9) (.pointer (some ⟨bk, 0, none⟩)) → Q .normal a' w') :
    (Code.region 9 none9_ops true).wp Tryd.prog Q a w := by
  refine y0 (fun w' => S w') (h0) (fun hHeld => ?_)
  refine yv 0 rfl rfl (fun w1 hw => exec_move rfl (zi t6 rfl)) hHeld ?_
  refine yv 1 rfl rfl (fun w1 hw => exec_load rfl (zi t8 rfl) (LP _ hw)) hHeld ?_
  refine yv 2 rfl rfl (fun w1 hw => exec_move rfl (zi t1 rfl)) hHeld ?_
  refine yv 3 rfl rfl (fun w1 hw => exec_move rfl (zi t7 rfl)) hHeld ?_
  refine yv 4 rfl rfl (fun w1 hw => exec_indexAt rfl (zg zz rfl) (zg zz rfl) (ix_opR hi hm _)) hHeld ?_
  refine yv 5 rfl rfl (fun w1 hw => exec_fieldAt rfl (zg zz rfl) (fg_45_2 _ _ _)) hHeld ?_
  refine yv 6 rfl rfl (fun w1 hw => exec_load rfl (zg zz rfl) (LI _ hw)) hHeld ?_
  refine yv 7 rfl rfl (fun w1 hw => exec_move rfl (zi t1 rfl)) hHeld ?_
  refine yv 8 rfl rfl (fun w1 hw => exec_move rfl (zi t7 rfl)) hHeld ?_
  refine yv 9 rfl rfl (fun w1 hw => exec_indexAt rfl (zg zz rfl) (zg zz rfl) (ix_opR hi hm _)) hHeld ?_
  refine yv 10 rfl rfl (fun w1 hw => exec_fieldAt rfl (zg zz rfl) (fg_45_3 _ _ _)) hHeld ?_
  refine yv 11 rfl rfl (fun w1 hw => exec_load rfl (zg zz rfl) (LV _ hw)) hHeld ?_
  refine yc 12 rfl rfl (exec_c5 rfl (zg zz rfl) (zg zz rfl) (zg zz rfl) (zg zz rfl) rfl) (CP) (fun e x12 hx => ?_)
  obtain ⟨bk, rfl, S1, HF⟩ := hx
  replace h := h bk
  refine ⟨_, rfl, S1, fun hHeld => ?_⟩
  refine yv 13 rfl rfl (fun w1 hw => exec_assign rfl (zg zz rfl)) hHeld ?_
  exact ye rfl (h _ _ (HF) rfl)
def none13_o0 : Oper := { dst := some 80, op := Op.move (Operand.tmp 10), type := 26, pos := "law.go:209", after := #[], guard := none }
def none13_o1 : Oper := { dst := some 81, op := Op.load 52 (Operand.tmp 8), type := 52, pos := "law.go:209", after := #[], guard := none }
def none13_o2 : Oper := { dst := some 82, op := Op.move (Operand.tmp 1), type := 23, pos := "law.go:209", after := #[], guard := none }
def none13_o3 : Oper := { dst := some 83, op := Op.move (Operand.tmp 7), type := 3, pos := "law.go:209", after := #[], guard := none }
def none13_o4 : Oper := { dst := some 84, op := Op.indexAddr 23 (Operand.tmp 82) (Operand.tmp 83), type := 0, pos := "law.go:209", after := #[{ on := 2, ground := Ground.data }, { on := 3, ground := Ground.data }], guard := none }
def none13_o5 : Oper := { dst := some 85, op := Op.fieldAddr 45 (Operand.tmp 84) 2, type := 0, pos := "law.go:209", after := #[{ on := 4, ground := Ground.data }], guard := none }
def none13_o6 : Oper := { dst := some 86, op := Op.load 38 (Operand.tmp 85), type := 38, pos := "law.go:209", after := #[{ on := 5, ground := Ground.data }], guard := none }
def none13_o7 : Oper := { dst := some 87, op := Op.move (Operand.tmp 1), type := 23, pos := "law.go:209", after := #[], guard := none }
def none13_o8 : Oper := { dst := some 88, op := Op.move (Operand.tmp 7), type := 3, pos := "law.go:209", after := #[], guard := none }
def none13_o9 : Oper := { dst := some 89, op := Op.indexAddr 23 (Operand.tmp 87) (Operand.tmp 88), type := 0, pos := "law.go:209", after := #[{ on := 7, ground := Ground.data }, { on := 8, ground := Ground.data }], guard := none }
def none13_o10 : Oper := { dst := some 90, op := Op.fieldAddr 45 (Operand.tmp 89) 3, type := 0, pos := "law.go:209", after := #[{ on := 9, ground := Ground.data }], guard := none }
def none13_o11 : Oper := { dst := some 91, op := Op.load 42 (Operand.tmp 90), type := 42, pos := "law.go:209", after := #[{ on := 10, ground := Ground.data }], guard := none }
def none13_o12 : Oper := { dst := some 92, op := Op.call { callee := Callee.value (Operand.func 16), args := #[Operand.tmp 80, Operand.tmp 81, Operand.tmp 86, Operand.tmp 91, Operand.const Value.nilFunc], argTypes := #[26, 52, 38, 42, 80] }, type := 54, pos := "law.go:209", after := #[{ on := 0, ground := Ground.data }, { on := 1, ground := Ground.data }, { on := 6, ground := Ground.data }, { on := 11, ground := Ground.data }], guard := none }
def none13_ops : Array Oper := #[none13_o0, none13_o1, none13_o2, none13_o3, none13_o4, none13_o5, none13_o6, none13_o7, none13_o8, none13_o9, none13_o10, none13_o11, none13_o12]
set_option maxRecDepth 100000 in
set_option maxHeartbeats 4000000 in
theorem none13 {rb pb g o n c i : Nat} {p : PlK} {x : OpR} (S : World → Prop) (Fin : Nat → World → Prop) (a : Act) (w : World) (Q : Exit → Act → World → Prop) (zz : a.tmps.size = 152)
    (t1 : a.tmps.getD 1 undef = .slice (some ⟨g, o, none⟩) n c)
    (t7 : a.tmps.getD 7 undef = .int .i64 (i : Int))
    (t8 : a.tmps.getD 8 undef = .pointer (some ⟨pb, 0, none⟩))
    (t10 : a.tmps.getD 10 undef = .pointer (some ⟨rb, 0, none⟩))
    (hi : i < n) (hm : n ≤ 9223372036854775807) (h0 : S w.drew) (LP : ∀ W, S W → (Instr.loadAt 52 (.pointer (some ⟨pb, 0, none⟩))).run Tryd.prog W = .ok (p.v) W) (LI : ∀ W, S W → (Instr.loadAt 38 (.pointer (some ⟨g, o + 42 * i + 2, none⟩))).run Tryd.prog W = .ok (x.id.v) W) (LV : ∀ W, S W → (Instr.loadAt 42 (.pointer (some ⟨g, o + 42 * i + 35, none⟩))).run Tryd.prog W = .ok (x.v.v) W) (CP : Calls Tryd.prog 16 #[.pointer (some ⟨rb, 0, none⟩), p.v, x.id.v, x.v.v, .nilFunc] w.drew fun e w' => ∃ bk, e = .returned (.pointer (some ⟨bk, 0, none⟩)) ∧ S w' ∧ Fin bk w')
    (h : ∀ (bk : Nat) (a' : Act) (w' : World), Fin bk w' → a' = (((((((((((((a).put (some 80) (.pointer (some ⟨rb, 0, none⟩))).put (some 81) (p.v)).put (some 82) (.slice (some ⟨g, o, none⟩) n c)).put (some 83) (.int .i64 (i : Int))).put (some 84) (.pointer (some ⟨g, o + 42 * i, none⟩))).put (some 85) (.pointer (some ⟨g, o + 42 * i + 2, none⟩))).put (some 86) (x.id.v)).put (some 87) (.slice (some ⟨g, o, none⟩) n c)).put (some 88) (.int .i64 (i : Int))).put (some 89) (.pointer (some ⟨g, o + 42 * i, none⟩))).put (some 90) (.pointer (some ⟨g, o + 42 * i + 35, none⟩))).put (some 91) (x.v.v)).put (some 92) (.pointer (some ⟨bk, 0, none⟩)) → Q .normal a' w') :
    (Code.region 13 none13_ops true).wp Tryd.prog Q a w := by
  refine y0 (fun w' => S w') (h0) (fun hHeld => ?_)
  refine yv 0 rfl rfl (fun w1 hw => exec_move rfl (zi t10 rfl)) hHeld ?_
  refine yv 1 rfl rfl (fun w1 hw => exec_load rfl (zi t8 rfl) (LP _ hw)) hHeld ?_
  refine yv 2 rfl rfl (fun w1 hw => exec_move rfl (zi t1 rfl)) hHeld ?_
  refine yv 3 rfl rfl (fun w1 hw => exec_move rfl (zi t7 rfl)) hHeld ?_
  refine yv 4 rfl rfl (fun w1 hw => exec_indexAt rfl (zg zz rfl) (zg zz rfl) (ix_opR hi hm _)) hHeld ?_
  refine yv 5 rfl rfl (fun w1 hw => exec_fieldAt rfl (zg zz rfl) (fg_45_2 _ _ _)) hHeld ?_
  refine yv 6 rfl rfl (fun w1 hw => exec_load rfl (zg zz rfl) (LI _ hw)) hHeld ?_
  refine yv 7 rfl rfl (fun w1 hw => exec_move rfl (zi t1 rfl)) hHeld ?_
  refine yv 8 rfl rfl (fun w1 hw => exec_move rfl (zi t7 rfl)) hHeld ?_
  refine yv 9 rfl rfl (fun w1 hw => exec_indexAt rfl (zg zz rfl) (zg zz rfl) (ix_opR hi hm _)) hHeld ?_
  refine yv 10 rfl rfl (fun w1 hw => exec_fieldAt rfl (zg zz rfl) (fg_45_3 _ _ _)) hHeld ?_
  refine yv 11 rfl rfl (fun w1 hw => exec_load rfl (zg zz rfl) (LV _ hw)) hHeld ?_
  refine yc 12 rfl rfl (exec_c5 rfl (zg zz rfl) (zg zz rfl) (zg zz rfl) (zg zz rfl) rfl) (CP) (fun e x12 hx => ?_)
  obtain ⟨bk, rfl, S1, HF⟩ := hx
  replace h := h bk
  refine ⟨_, rfl, S1, fun hHeld => ?_⟩
  exact ye rfl (h _ _ (HF) rfl)
def none10_o0 : Oper := { dst := some 42, op := Op.move (Operand.tmp 5), type := 26, pos := "law.go:205", after := #[], guard := none }
def none10_o1 : Oper := { dst := some 43, op := Op.load 52 (Operand.tmp 8), type := 52, pos := "law.go:205", after := #[], guard := none }
def none10_o2 : Oper := { dst := some 44, op := Op.move (Operand.tmp 1), type := 23, pos := "law.go:205", after := #[], guard := none }
def none10_o3 : Oper := { dst := some 45, op := Op.move (Operand.tmp 7), type := 3, pos := "law.go:205", after := #[], guard := none }
def none10_o4 : Oper := { dst := some 46, op := Op.indexAddr 23 (Operand.tmp 44) (Operand.tmp 45), type := 0, pos := "law.go:205", after := #[{ on := 2, ground := Ground.data }, { on := 3, ground := Ground.data }], guard := none }
def none10_o5 : Oper := { dst := some 47, op := Op.fieldAddr 45 (Operand.tmp 46) 2, type := 0, pos := "law.go:205", after := #[{ on := 4, ground := Ground.data }], guard := none }
def none10_o6 : Oper := { dst := some 48, op := Op.load 38 (Operand.tmp 47), type := 38, pos := "law.go:205", after := #[{ on := 5, ground := Ground.data }], guard := none }
def none10_o7 : Oper := { dst := some 49, op := Op.move (Operand.tmp 1), type := 23, pos := "law.go:205", after := #[], guard := none }
def none10_o8 : Oper := { dst := some 50, op := Op.move (Operand.tmp 7), type := 3, pos := "law.go:205", after := #[], guard := none }
def none10_o9 : Oper := { dst := some 51, op := Op.indexAddr 23 (Operand.tmp 49) (Operand.tmp 50), type := 0, pos := "law.go:205", after := #[{ on := 7, ground := Ground.data }, { on := 8, ground := Ground.data }], guard := none }
def none10_o10 : Oper := { dst := some 52, op := Op.fieldAddr 45 (Operand.tmp 51) 3, type := 0, pos := "law.go:205", after := #[{ on := 9, ground := Ground.data }], guard := none }
def none10_o11 : Oper := { dst := some 53, op := Op.load 42 (Operand.tmp 52), type := 42, pos := "law.go:205", after := #[{ on := 10, ground := Ground.data }], guard := none }
def none10_o12 : Oper := { dst := some 54, op := Op.call { callee := Callee.value (Operand.func 16), args := #[Operand.tmp 42, Operand.tmp 43, Operand.tmp 48, Operand.tmp 53, Operand.const Value.nilFunc], argTypes := #[26, 52, 38, 42, 80] }, type := 54, pos := "law.go:205", after := #[{ on := 0, ground := Ground.data }, { on := 1, ground := Ground.data }, { on := 6, ground := Ground.data }, { on := 11, ground := Ground.data }], guard := none }
def none10_o13 : Oper := { dst := some 55, op := Op.binOp BinOp.neq 54 (Operand.tmp 54) (Operand.const (Value.pointer none)) 54, type := 4, pos := "law.go:205", after := #[{ on := 12, ground := Ground.data }], guard := none }
def none10_o14 : Oper := { dst := some 56, op := Op.move (Operand.tmp 55), type := 4, pos := "law.go:205", after := #[{ on := 13, ground := Ground.data }, { on := 12, ground := Ground.chain }], guard := none }
def none10_o15 : Oper := { dst := some 57, op := Op.move (Operand.tmp 5), type := 26, pos := "law.go:205", after := #[{ on := 14, ground := Ground.guard }], guard := some (14, false) }
def none10_o16 : Oper := { dst := some 58, op := Op.load 52 (Operand.tmp 8), type := 52, pos := "law.go:205", after := #[{ on := 14, ground := Ground.guard }], guard := some (14, false) }
def none10_o17 : Oper := { dst := some 59, op := Op.call { callee := Callee.value (Operand.func 17), args := #[Operand.tmp 57, Operand.tmp 58, Operand.const Value.nilFunc], argTypes := #[26, 52, 80] }, type := 54, pos := "law.go:205", after := #[{ on := 15, ground := Ground.data }, { on := 16, ground := Ground.data }, { on := 14, ground := Ground.chain }, { on := 14, ground := Ground.guard }], guard := some (14, false) }
def none10_o18 : Oper := { dst := some 60, op := Op.binOp BinOp.neq 54 (Operand.tmp 59) (Operand.const (Value.pointer none)) 54, type := 4, pos := "law.go:205", after := #[{ on := 17, ground := Ground.data }, { on := 14, ground := Ground.guard }], guard := some (14, false) }
def none10_o19 : Oper := { dst := some 61, op := Op.pick (Operand.tmp 56) (Operand.const (Value.bool true)) (Operand.tmp 60), type := 4, pos := "law.go:205", after := #[{ on := 14, ground := Ground.data }, { on := 18, ground := Ground.data }], guard := none }
def none10_o20 : Oper := { dst := some 62, op := Op.move (Operand.tmp 61), type := 4, pos := "law.go:205", after := #[{ on := 19, ground := Ground.data }, { on := 17, ground := Ground.chain }], guard := none }
def none10_o21 : Oper := { dst := some 63, op := Op.move (Operand.tmp 5), type := 26, pos := "law.go:205", after := #[{ on := 20, ground := Ground.guard }], guard := some (20, false) }
def none10_o22 : Oper := { dst := some 64, op := Op.load 52 (Operand.tmp 8), type := 52, pos := "law.go:205", after := #[{ on := 20, ground := Ground.guard }], guard := some (20, false) }
def none10_o23 : Oper := { dst := some 65, op := Op.move (Operand.tmp 1), type := 23, pos := "law.go:205", after := #[{ on := 20, ground := Ground.guard }], guard := some (20, false) }
def none10_o24 : Oper := { dst := some 66, op := Op.move (Operand.tmp 7), type := 3, pos := "law.go:205", after := #[{ on := 20, ground := Ground.guard }], guard := some (20, false) }
def none10_o25 : Oper := { dst := some 67, op := Op.indexAddr 23 (Operand.tmp 65) (Operand.tmp 66), type := 0, pos := "law.go:205", after := #[{ on := 23, ground := Ground.data }, { on := 24, ground := Ground.data }, { on := 20, ground := Ground.guard }], guard := some (20, false) }
def none10_o26 : Oper := { dst := some 68, op := Op.fieldAddr 45 (Operand.tmp 67) 4, type := 0, pos := "law.go:205", after := #[{ on := 25, ground := Ground.data }, { on := 20, ground := Ground.guard }], guard := some (20, false) }
def none10_o27 : Oper := { dst := some 69, op := Op.load 2 (Operand.tmp 68), type := 2, pos := "law.go:205", after := #[{ on := 26, ground := Ground.data }, { on := 20, ground := Ground.guard }], guard := some (20, false) }
def none10_o28 : Oper := { dst := some 70, op := Op.call { callee := Callee.value (Operand.func 18), args := #[Operand.tmp 63, Operand.tmp 64, Operand.tmp 69, Operand.const Value.nilFunc], argTypes := #[26, 52, 2, 80] }, type := 54, pos := "law.go:205", after := #[{ on := 21, ground := Ground.data }, { on := 22, ground := Ground.data }, { on := 27, ground := Ground.data }, { on := 20, ground := Ground.chain }, { on := 20, ground := Ground.guard }], guard := some (20, false) }
def none10_o29 : Oper := { dst := some 71, op := Op.binOp BinOp.neq 54 (Operand.tmp 70) (Operand.const (Value.pointer none)) 54, type := 4, pos := "law.go:205", after := #[{ on := 28, ground := Ground.data }, { on := 20, ground := Ground.guard }], guard := some (20, false) }
def none10_o30 : Oper := { dst := some 72, op := Op.pick (Operand.tmp 62) (Operand.const (Value.bool true)) (Operand.tmp 71), type := 4, pos := "law.go:205", after := #[{ on := 20, ground := Ground.data }, { on := 29, ground := Ground.data }], guard := none }
def none10_o31 : Oper := { dst := some 73, op := Op.move (Operand.tmp 72), type := 4, pos := "law.go:205", after := #[{ on := 30, ground := Ground.data }, { on := 28, ground := Ground.chain }], guard := none }
def none10_o32 : Oper := { dst := some 74, op := Op.move (Operand.tmp 5), type := 26, pos := "law.go:205", after := #[{ on := 31, ground := Ground.guard }], guard := some (31, false) }
def none10_o33 : Oper := { dst := some 75, op := Op.move (Operand.tmp 9), type := 54, pos := "law.go:205", after := #[{ on := 31, ground := Ground.guard }], guard := some (31, false) }
def none10_o34 : Oper := { dst := some 76, op := Op.call { callee := Callee.value (Operand.func 19), args := #[Operand.tmp 74, Operand.tmp 75], argTypes := #[26, 54] }, type := 58, pos := "law.go:205", after := #[{ on := 32, ground := Ground.data }, { on := 33, ground := Ground.data }, { on := 31, ground := Ground.chain }, { on := 31, ground := Ground.guard }], guard := some (31, false) }
def none10_o35 : Oper := { dst := some 77, op := Op.binOp BinOp.neq 58 (Operand.tmp 76) (Operand.const (Value.int IntKind.i64 1)) 58, type := 4, pos := "law.go:205", after := #[{ on := 34, ground := Ground.data }, { on := 31, ground := Ground.guard }], guard := some (31, false) }
def none10_o36 : Oper := { dst := some 78, op := Op.pick (Operand.tmp 73) (Operand.const (Value.bool true)) (Operand.tmp 77), type := 4, pos := "law.go:205", after := #[{ on := 31, ground := Ground.data }, { on := 35, ground := Ground.data }], guard := none }
def none10_ops : Array Oper := #[none10_o0, none10_o1, none10_o2, none10_o3, none10_o4, none10_o5, none10_o6, none10_o7, none10_o8, none10_o9, none10_o10, none10_o11, none10_o12, none10_o13, none10_o14, none10_o15, none10_o16, none10_o17, none10_o18, none10_o19, none10_o20, none10_o21, none10_o22, none10_o23, none10_o24, none10_o25, none10_o26, none10_o27, none10_o28, none10_o29, none10_o30, none10_o31, none10_o32, none10_o33, none10_o34, none10_o35, none10_o36]
set_option maxRecDepth 100000 in
set_option maxHeartbeats 4000000 in
theorem none10 {pb bk g o n c i : Nat} {p : PlK} {x : OpR} (S : World → Prop) (a : Act) (w : World) (Q : Exit → Act → World → Prop) (zz : a.tmps.size = 152)
    (t1 : a.tmps.getD 1 undef = .slice (some ⟨g, o, none⟩) n c)
    (t5 : a.tmps.getD 5 undef = .pointer none)
    (t7 : a.tmps.getD 7 undef = .int .i64 (i : Int))
    (t8 : a.tmps.getD 8 undef = .pointer (some ⟨pb, 0, none⟩))
    (t9 : a.tmps.getD 9 undef = .pointer (some ⟨bk, 0, none⟩))
    (hi : i < n) (hm : n ≤ 9223372036854775807) (h0 : S w.drew) (LP : ∀ W, S W → (Instr.loadAt 52 (.pointer (some ⟨pb, 0, none⟩))).run Tryd.prog W = .ok (p.v) W) (LI : ∀ W, S W → (Instr.loadAt 38 (.pointer (some ⟨g, o + 42 * i + 2, none⟩))).run Tryd.prog W = .ok (x.id.v) W) (LV : ∀ W, S W → (Instr.loadAt 42 (.pointer (some ⟨g, o + 42 * i + 35, none⟩))).run Tryd.prog W = .ok (x.v.v) W) (LN : ∀ W, S W → (Instr.loadAt 2 (.pointer (some ⟨g, o + 42 * i + 39, none⟩))).run Tryd.prog W = .ok (.int .i64 x.n) W) (CP : Calls Tryd.prog 16 #[.pointer none, p.v, x.id.v, x.v.v, .nilFunc] w.drew fun e w1 => e = .returned (.pointer none) ∧ S w1 ∧ Calls Tryd.prog 17 #[.pointer none, p.v, .nilFunc] w1 fun e w2 => e = .returned (.pointer none) ∧ S w2 ∧ Calls Tryd.prog 18 #[.pointer none, p.v, .int .i64 x.n, .nilFunc] w2 fun e w3 => e = .returned (.pointer none) ∧ S w3 ∧ Calls Tryd.prog 19 #[.pointer none, .pointer (some ⟨bk, 0, none⟩)] w3 fun e w4 => e = .returned (.int .i64 1) ∧ S w4)
    (h : ∀ (a' : Act) (w' : World), S w' → a' = (((((((((((((((((((((((((((((((((((((a).put (some 42) (.pointer none)).put (some 43) (p.v)).put (some 44) (.slice (some ⟨g, o, none⟩) n c)).put (some 45) (.int .i64 (i : Int))).put (some 46) (.pointer (some ⟨g, o + 42 * i, none⟩))).put (some 47) (.pointer (some ⟨g, o + 42 * i + 2, none⟩))).put (some 48) (x.id.v)).put (some 49) (.slice (some ⟨g, o, none⟩) n c)).put (some 50) (.int .i64 (i : Int))).put (some 51) (.pointer (some ⟨g, o + 42 * i, none⟩))).put (some 52) (.pointer (some ⟨g, o + 42 * i + 35, none⟩))).put (some 53) (x.v.v)).put (some 54) (.pointer none)).put (some 55) (.bool false)).put (some 56) (.bool false)).put (some 57) (.pointer none)).put (some 58) (p.v)).put (some 59) (.pointer none)).put (some 60) (.bool false)).put (some 61) (.bool false)).put (some 62) (.bool false)).put (some 63) (.pointer none)).put (some 64) (p.v)).put (some 65) (.slice (some ⟨g, o, none⟩) n c)).put (some 66) (.int .i64 (i : Int))).put (some 67) (.pointer (some ⟨g, o + 42 * i, none⟩))).put (some 68) (.pointer (some ⟨g, o + 42 * i + 39, none⟩))).put (some 69) (.int .i64 x.n)).put (some 70) (.pointer none)).put (some 71) (.bool false)).put (some 72) (.bool false)).put (some 73) (.bool false)).put (some 74) (.pointer none)).put (some 75) (.pointer (some ⟨bk, 0, none⟩))).put (some 76) (.int .i64 1)).put (some 77) (.bool false)).put (some 78) (.bool false) → Q .normal a' w') :
    (Code.region 10 none10_ops true).wp Tryd.prog Q a w := by
  refine y0 (fun w' => S w') (h0) (fun hHeld => ?_)
  refine yv 0 rfl rfl (fun w1 hw => exec_move rfl (zi t5 rfl)) hHeld ?_
  refine yv 1 rfl rfl (fun w1 hw => exec_load rfl (zi t8 rfl) (LP _ hw)) hHeld ?_
  refine yv 2 rfl rfl (fun w1 hw => exec_move rfl (zi t1 rfl)) hHeld ?_
  refine yv 3 rfl rfl (fun w1 hw => exec_move rfl (zi t7 rfl)) hHeld ?_
  refine yv 4 rfl rfl (fun w1 hw => exec_indexAt rfl (zg zz rfl) (zg zz rfl) (ix_opR hi hm _)) hHeld ?_
  refine yv 5 rfl rfl (fun w1 hw => exec_fieldAt rfl (zg zz rfl) (fg_45_2 _ _ _)) hHeld ?_
  refine yv 6 rfl rfl (fun w1 hw => exec_load rfl (zg zz rfl) (LI _ hw)) hHeld ?_
  refine yv 7 rfl rfl (fun w1 hw => exec_move rfl (zi t1 rfl)) hHeld ?_
  refine yv 8 rfl rfl (fun w1 hw => exec_move rfl (zi t7 rfl)) hHeld ?_
  refine yv 9 rfl rfl (fun w1 hw => exec_indexAt rfl (zg zz rfl) (zg zz rfl) (ix_opR hi hm _)) hHeld ?_
  refine yv 10 rfl rfl (fun w1 hw => exec_fieldAt rfl (zg zz rfl) (fg_45_3 _ _ _)) hHeld ?_
  refine yv 11 rfl rfl (fun w1 hw => exec_load rfl (zg zz rfl) (LV _ hw)) hHeld ?_
  refine yc 12 rfl rfl (exec_c5 rfl (zg zz rfl) (zg zz rfl) (zg zz rfl) (zg zz rfl) rfl) (CP) (fun e x12 hx => ?_)
  obtain ⟨rfl, S1, CD⟩ := hx
  refine ⟨_, rfl, S1, fun hHeld => ?_⟩
  refine yv (v := .bool false) 13 rfl rfl (fun w1 hw => ex_nbk rfl (zg zz rfl) rfl) hHeld ?_
  refine yv 14 rfl rfl (fun w1 hw => exec_move rfl (zg zz rfl)) hHeld ?_
  refine yv 15 rfl (zw zz rfl rfl rfl (zg zz rfl)) (fun w1 hw => exec_move rfl (zi t5 rfl)) hHeld ?_
  refine yv 16 rfl (zw zz rfl rfl rfl (zg zz rfl)) (fun w1 hw => exec_load rfl (zi t8 rfl) (LP _ hw)) hHeld ?_
  refine yc 17 rfl (zw zz rfl rfl rfl (zg zz rfl)) (exec_c3 rfl (zg zz rfl) (zg zz rfl) rfl) (CD) (fun e x17 hx => ?_)
  obtain ⟨rfl, S2, CA⟩ := hx
  refine ⟨_, rfl, S2, fun hHeld => ?_⟩
  refine yv (v := .bool false) 18 rfl (zw zz rfl rfl rfl (zg zz rfl)) (fun w1 hw => ex_nbk rfl (zg zz rfl) rfl) hHeld ?_
  refine yv 19 rfl rfl (fun w1 hw => exec_pickF rfl (zg zz rfl) (zg zz rfl)) hHeld ?_
  refine yv 20 rfl rfl (fun w1 hw => exec_move rfl (zg zz rfl)) hHeld ?_
  refine yv 21 rfl (zw zz rfl rfl rfl (zg zz rfl)) (fun w1 hw => exec_move rfl (zi t5 rfl)) hHeld ?_
  refine yv 22 rfl (zw zz rfl rfl rfl (zg zz rfl)) (fun w1 hw => exec_load rfl (zi t8 rfl) (LP _ hw)) hHeld ?_
  refine yv 23 rfl (zw zz rfl rfl rfl (zg zz rfl)) (fun w1 hw => exec_move rfl (zi t1 rfl)) hHeld ?_
  refine yv 24 rfl (zw zz rfl rfl rfl (zg zz rfl)) (fun w1 hw => exec_move rfl (zi t7 rfl)) hHeld ?_
  refine yv 25 rfl (zw zz rfl rfl rfl (zg zz rfl)) (fun w1 hw => exec_indexAt rfl (zg zz rfl) (zg zz rfl) (ix_opR hi hm _)) hHeld ?_
  refine yv 26 rfl (zw zz rfl rfl rfl (zg zz rfl)) (fun w1 hw => exec_fieldAt rfl (zg zz rfl) (fg_45_4 _ _ _)) hHeld ?_
  refine yv 27 rfl (zw zz rfl rfl rfl (zg zz rfl)) (fun w1 hw => exec_load rfl (zg zz rfl) (LN _ hw)) hHeld ?_
  refine yc 28 rfl (zw zz rfl rfl rfl (zg zz rfl)) (exec_c4 rfl (zg zz rfl) (zg zz rfl) (zg zz rfl) rfl) (CA) (fun e x28 hx => ?_)
  obtain ⟨rfl, S3, CU⟩ := hx
  refine ⟨_, rfl, S3, fun hHeld => ?_⟩
  refine yv (v := .bool false) 29 rfl (zw zz rfl rfl rfl (zg zz rfl)) (fun w1 hw => ex_nbk rfl (zg zz rfl) rfl) hHeld ?_
  refine yv 30 rfl rfl (fun w1 hw => exec_pickF rfl (zg zz rfl) (zg zz rfl)) hHeld ?_
  refine yv 31 rfl rfl (fun w1 hw => exec_move rfl (zg zz rfl)) hHeld ?_
  refine yv 32 rfl (zw zz rfl rfl rfl (zg zz rfl)) (fun w1 hw => exec_move rfl (zi t5 rfl)) hHeld ?_
  refine yv 33 rfl (zw zz rfl rfl rfl (zg zz rfl)) (fun w1 hw => exec_move rfl (zi t9 rfl)) hHeld ?_
  refine yc 34 rfl (zw zz rfl rfl rfl (zg zz rfl)) (exec_c2 rfl (zg zz rfl) (zg zz rfl)) (CU) (fun e x34 hx => ?_)
  obtain ⟨rfl, S5⟩ := hx
  refine ⟨_, rfl, S5, fun hHeld => ?_⟩
  refine yv (v := .bool false) 35 rfl (zw zz rfl rfl rfl (zg zz rfl)) (fun w1 hw => ex_ne58 rfl (zg zz rfl) rfl) hHeld ?_
  refine yv 36 rfl rfl (fun w1 hw => exec_pickF rfl (zg zz rfl) (zg zz rfl)) hHeld ?_
  exact ye rfl (h _ _ (S5) rfl)
def none8_o0 : Oper := { dst := some 22, op := Op.move (Operand.tmp 0), type := 22, pos := "law.go:203", after := #[], guard := none }
def none8_o1 : Oper := { dst := some 23, op := Op.move (Operand.tmp 1), type := 23, pos := "law.go:203", after := #[], guard := none }
def none8_o2 : Oper := { dst := some 24, op := Op.move (Operand.tmp 7), type := 3, pos := "law.go:203", after := #[], guard := none }
def none8_o3 : Oper := { dst := some 25, op := Op.indexAddr 23 (Operand.tmp 23) (Operand.tmp 24), type := 0, pos := "law.go:203", after := #[{ on := 1, ground := Ground.data }, { on := 2, ground := Ground.data }], guard := none }
def none8_o4 : Oper := { dst := some 26, op := Op.fieldAddr 45 (Operand.tmp 25) 1, type := 0, pos := "law.go:203", after := #[{ on := 3, ground := Ground.data }], guard := none }
def none8_o5 : Oper := { dst := some 27, op := Op.load 3 (Operand.tmp 26), type := 3, pos := "law.go:203", after := #[{ on := 4, ground := Ground.data }], guard := none }
def none8_o6 : Oper := { dst := some 28, op := Op.call { callee := Callee.value (Operand.func 15), args := #[Operand.tmp 22, Operand.tmp 27], argTypes := #[22, 3] }, type := 52, pos := "law.go:203", after := #[{ on := 0, ground := Ground.data }, { on := 5, ground := Ground.data }], guard := none }
def none8_o7 : Oper := { dst := some 8, op := Op.alloc 52, type := 0, pos := "law.go:203", after := #[], guard := none }
def none8_o8 : Oper := { dst := none, op := Op.store 52 (Operand.tmp 8) (Operand.tmp 28), type := 0, pos := "law.go:203", after := #[{ on := 7, ground := Ground.data }, { on := 6, ground := Ground.data }, { on := 6, ground := Ground.chain }, { on := 0, ground := Ground.phase }, { on := 1, ground := Ground.phase }, { on := 2, ground := Ground.phase }, { on := 3, ground := Ground.phase }, { on := 4, ground := Ground.phase }, { on := 5, ground := Ground.phase }, { on := 6, ground := Ground.phase }, { on := 7, ground := Ground.phase }], guard := none }
def none8_ops : Array Oper := #[none8_o0, none8_o1, none8_o2, none8_o3, none8_o4, none8_o5, none8_o6, none8_o7, none8_o8]
set_option maxRecDepth 100000 in
set_option maxHeartbeats 4000000 in
theorem none8 {g o n c i pn pc : Nat} {pa : Option Addr} {p : PlK} {x : OpR} (Fin : Nat → World → Prop) (a : Act) (w : World) (Q : Exit → Act → World → Prop) (zz : a.tmps.size = 152)
    (t0 : a.tmps.getD 0 undef = .slice pa pn pc)
    (t1 : a.tmps.getD 1 undef = .slice (some ⟨g, o, none⟩) n c)
    (t7 : a.tmps.getD 7 undef = .int .i64 (i : Int))
    (hi : i < n) (hm : n ≤ 9223372036854775807) (LQ : ∀ W, W = w → (Instr.loadAt 3 (.pointer (some ⟨g, o + 42 * i + 1, none⟩))).run Tryd.prog W = .ok (.int .i64 x.pl) W) (CA : Calls Tryd.prog 15 #[.slice pa pn pc, .int .i64 x.pl] w fun e w' => e = .returned p.v ∧ ∃ pb w1 w2, (Instr.alloc 52 true (.tuple #[])).run Tryd.prog w' = .ok (.pointer (some ⟨pb, 0, none⟩)) w1 ∧ (Instr.storeAt 52 (.pointer (some ⟨pb, 0, none⟩)) p.v).run Tryd.prog w1 = .ok () w2 ∧ Fin pb w2)
    (h : ∀ (pb : Nat) (a' : Act) (w' : World), Fin pb w' → a' = ((((((((a).put (some 22) (.slice pa pn pc)).put (some 23) (.slice (some ⟨g, o, none⟩) n c)).put (some 24) (.int .i64 (i : Int))).put (some 25) (.pointer (some ⟨g, o + 42 * i, none⟩))).put (some 26) (.pointer (some ⟨g, o + 42 * i + 1, none⟩))).put (some 27) (.int .i64 x.pl)).put (some 28) (p.v)).put (some 8) (.pointer (some ⟨pb, 0, none⟩)) → Q .normal a' w') :
    (Code.region 8 none8_ops false).wp Tryd.prog Q a w := by
  refine z0 rfl ?_
  refine zv rfl (exec_move rfl (zi t0 rfl)) ?_
  refine zv rfl (exec_move rfl (zi t1 rfl)) ?_
  refine zv rfl (exec_move rfl (zi t7 rfl)) ?_
  refine zv rfl (exec_indexAt rfl (zg zz rfl) (zg zz rfl) (ix_opR hi hm _)) ?_
  refine zv rfl (exec_fieldAt rfl (zg zz rfl) (fg_45_1 _ _ _)) ?_
  refine zv rfl (exec_load rfl (zg zz rfl) (LQ _ rfl)) ?_
  refine zc rfl (exec_c2 rfl (zg zz rfl) (zg zz rfl)) (CA) (fun e x6 hx => ?_)
  obtain ⟨rfl, pb, w1, w2, EA, ES, HF⟩ := hx
  replace h := h pb
  refine ⟨_, rfl, ?_⟩
  refine zv (v := .pointer (some ⟨pb, 0, none⟩)) rfl (exec_alloc rfl EA) ?_
  refine zs rfl (exec_store rfl (zg zz rfl) (zg zz rfl) ES) ?_
  exact ze rfl (h _ _ (HF) rfl)
def none17_o0 : Oper := { dst := some 110, op := Op.move (Operand.tmp 12), type := 4, pos := "law.go:214", after := #[], guard := none }
def none17_o1 : Oper := { dst := some 111, op := Op.move (Operand.tmp 110), type := 4, pos := "law.go:214", after := #[{ on := 0, ground := Ground.data }], guard := none }
def none17_o2 : Oper := { dst := some 112, op := Op.fieldAddr 63 (Operand.tmp 11) 0, type := 0, pos := "law.go:214", after := #[{ on := 1, ground := Ground.guard }], guard := some (1, false) }
def none17_o3 : Oper := { dst := some 113, op := Op.load 38 (Operand.tmp 112), type := 38, pos := "law.go:214", after := #[{ on := 2, ground := Ground.data }, { on := 1, ground := Ground.guard }], guard := some (1, false) }
def none17_o4 : Oper := { dst := some 114, op := Op.build 38 #[], type := 38, pos := "law.go:214", after := #[{ on := 1, ground := Ground.guard }], guard := some (1, false) }
def none17_o5 : Oper := { dst := some 115, op := Op.binOp BinOp.neq 38 (Operand.tmp 113) (Operand.tmp 114) 38, type := 4, pos := "law.go:214", after := #[{ on := 3, ground := Ground.data }, { on := 4, ground := Ground.data }, { on := 1, ground := Ground.guard }], guard := some (1, false) }
def none17_o6 : Oper := { dst := some 116, op := Op.pick (Operand.tmp 111) (Operand.const (Value.bool true)) (Operand.tmp 115), type := 4, pos := "law.go:214", after := #[{ on := 1, ground := Ground.data }, { on := 5, ground := Ground.data }], guard := none }
def none17_o7 : Oper := { dst := some 117, op := Op.move (Operand.tmp 116), type := 4, pos := "law.go:214", after := #[{ on := 6, ground := Ground.data }, { on := 1, ground := Ground.chain }], guard := none }
def none17_o8 : Oper := { dst := some 118, op := Op.fieldAddr 63 (Operand.tmp 11) 1, type := 0, pos := "law.go:214", after := #[{ on := 7, ground := Ground.guard }], guard := some (7, false) }
def none17_o9 : Oper := { dst := some 119, op := Op.load 42 (Operand.tmp 118), type := 42, pos := "law.go:214", after := #[{ on := 8, ground := Ground.data }, { on := 7, ground := Ground.guard }], guard := some (7, false) }
def none17_o10 : Oper := { dst := some 120, op := Op.build 42 #[], type := 42, pos := "law.go:214", after := #[{ on := 7, ground := Ground.guard }], guard := some (7, false) }
def none17_o11 : Oper := { dst := some 121, op := Op.call { callee := Callee.value (Operand.func 22), args := #[Operand.tmp 119, Operand.tmp 120], argTypes := #[42, 42] }, type := 4, pos := "law.go:214", after := #[{ on := 9, ground := Ground.data }, { on := 10, ground := Ground.data }, { on := 7, ground := Ground.chain }, { on := 7, ground := Ground.guard }], guard := some (7, false) }
def none17_o12 : Oper := { dst := some 122, op := Op.unOp UnOp.not 4 (Operand.tmp 121), type := 4, pos := "law.go:214", after := #[{ on := 11, ground := Ground.data }, { on := 7, ground := Ground.guard }], guard := some (7, false) }
def none17_o13 : Oper := { dst := some 123, op := Op.pick (Operand.tmp 117) (Operand.const (Value.bool true)) (Operand.tmp 122), type := 4, pos := "law.go:214", after := #[{ on := 7, ground := Ground.data }, { on := 12, ground := Ground.data }], guard := none }
def none17_o14 : Oper := { dst := some 124, op := Op.move (Operand.tmp 123), type := 4, pos := "law.go:214", after := #[{ on := 13, ground := Ground.data }, { on := 11, ground := Ground.chain }], guard := none }
def none17_o15 : Oper := { dst := some 125, op := Op.move (Operand.tmp 5), type := 26, pos := "law.go:214", after := #[{ on := 14, ground := Ground.guard }], guard := some (14, false) }
def none17_o16 : Oper := { dst := some 126, op := Op.load 52 (Operand.tmp 8), type := 52, pos := "law.go:214", after := #[{ on := 14, ground := Ground.guard }], guard := some (14, false) }
def none17_o17 : Oper := { dst := some 127, op := Op.call { callee := Callee.value (Operand.func 20), args := #[Operand.tmp 125, Operand.tmp 126], argTypes := #[26, 52] }, type := 60, pos := "law.go:214", after := #[{ on := 15, ground := Ground.data }, { on := 16, ground := Ground.data }, { on := 14, ground := Ground.chain }, { on := 14, ground := Ground.guard }], guard := some (14, false) }
def none17_o18 : Oper := { dst := some 128, op := Op.call { callee := Callee.builtin Builtin.len, args := #[Operand.tmp 127], argTypes := #[60] }, type := 3, pos := "law.go:214", after := #[{ on := 17, ground := Ground.data }, { on := 14, ground := Ground.guard }], guard := some (14, false) }
def none17_o19 : Oper := { dst := some 129, op := Op.binOp BinOp.neq 3 (Operand.tmp 128) (Operand.const (Value.int IntKind.i64 0)) 3, type := 4, pos := "law.go:214", after := #[{ on := 18, ground := Ground.data }, { on := 14, ground := Ground.guard }], guard := some (14, false) }
def none17_o20 : Oper := { dst := some 130, op := Op.pick (Operand.tmp 124) (Operand.const (Value.bool true)) (Operand.tmp 129), type := 4, pos := "law.go:214", after := #[{ on := 14, ground := Ground.data }, { on := 19, ground := Ground.data }], guard := none }
def none17_o21 : Oper := { dst := some 131, op := Op.move (Operand.tmp 130), type := 4, pos := "law.go:214", after := #[{ on := 20, ground := Ground.data }, { on := 17, ground := Ground.chain }], guard := none }
def none17_o22 : Oper := { dst := some 132, op := Op.move (Operand.tmp 5), type := 26, pos := "law.go:214", after := #[{ on := 21, ground := Ground.guard }], guard := some (21, false) }
def none17_o23 : Oper := { dst := some 133, op := Op.fieldAddr 52 (Operand.tmp 8) 0, type := 0, pos := "law.go:214", after := #[{ on := 21, ground := Ground.guard }], guard := some (21, false) }
def none17_o24 : Oper := { dst := some 134, op := Op.load 38 (Operand.tmp 133), type := 38, pos := "law.go:214", after := #[{ on := 23, ground := Ground.data }, { on := 21, ground := Ground.guard }], guard := some (21, false) }
def none17_o25 : Oper := { dst := some 135, op := Op.call { callee := Callee.value (Operand.func 23), args := #[Operand.tmp 132, Operand.tmp 134], argTypes := #[26, 38] }, type := 67, pos := "law.go:214", after := #[{ on := 22, ground := Ground.data }, { on := 24, ground := Ground.data }, { on := 21, ground := Ground.chain }, { on := 21, ground := Ground.guard }], guard := some (21, false) }
def none17_o26 : Oper := { dst := some 136, op := Op.call { callee := Callee.builtin Builtin.len, args := #[Operand.tmp 135], argTypes := #[67] }, type := 3, pos := "law.go:214", after := #[{ on := 25, ground := Ground.data }, { on := 21, ground := Ground.guard }], guard := some (21, false) }
def none17_o27 : Oper := { dst := some 137, op := Op.binOp BinOp.neq 3 (Operand.tmp 136) (Operand.const (Value.int IntKind.i64 0)) 3, type := 4, pos := "law.go:214", after := #[{ on := 26, ground := Ground.data }, { on := 21, ground := Ground.guard }], guard := some (21, false) }
def none17_o28 : Oper := { dst := some 138, op := Op.pick (Operand.tmp 131) (Operand.const (Value.bool true)) (Operand.tmp 137), type := 4, pos := "law.go:214", after := #[{ on := 21, ground := Ground.data }, { on := 27, ground := Ground.data }], guard := none }
def none17_ops : Array Oper := #[none17_o0, none17_o1, none17_o2, none17_o3, none17_o4, none17_o5, none17_o6, none17_o7, none17_o8, none17_o9, none17_o10, none17_o11, none17_o12, none17_o13, none17_o14, none17_o15, none17_o16, none17_o17, none17_o18, none17_o19, none17_o20, none17_o21, none17_o22, none17_o23, none17_o24, none17_o25, none17_o26, none17_o27, none17_o28]
set_option maxRecDepth 100000 in
set_option maxHeartbeats 4000000 in
theorem none17 {pb eb : Nat} {p : PlK} (S : World → Prop) (a : Act) (w : World) (Q : Exit → Act → World → Prop) (zz : a.tmps.size = 152)
    (t5 : a.tmps.getD 5 undef = .pointer none)
    (t8 : a.tmps.getD 8 undef = .pointer (some ⟨pb, 0, none⟩))
    (t11 : a.tmps.getD 11 undef = .pointer (some ⟨eb, 0, none⟩))
    (t12 : a.tmps.getD 12 undef = .bool false)
    (BV0 : ∀ w, (Instr.build 42 #[]).run Tryd.prog w = .ok zVa.v w) (h0 : S w) (LE : ∀ W, S W → (Instr.loadAt 38 (.pointer (some ⟨eb, 0 + 0, none⟩))).run Tryd.prog W = .ok (zId.v) W) (LW : ∀ W, S W → (Instr.loadAt 42 (.pointer (some ⟨eb, 0 + 33, none⟩))).run Tryd.prog W = .ok (zVa.v) W) (LP : ∀ W, S W → (Instr.loadAt 52 (.pointer (some ⟨pb, 0, none⟩))).run Tryd.prog W = .ok (p.v) W) (LO : ∀ W, S W → (Instr.loadAt 38 (.pointer (some ⟨pb, 0 + 0, none⟩))).run Tryd.prog W = .ok (p.o.v) W) (CS : Calls Tryd.prog 22 #[zVa.v, zVa.v] w fun e w1 => e = .returned (.bool true) ∧ S w1 ∧ Calls Tryd.prog 20 #[.pointer none, p.v] w1 fun e w2 => e = .returned (.slice none 0 0) ∧ S w2 ∧ Calls Tryd.prog 23 #[.pointer none, p.o.v] w2 fun e w3 => e = .returned (.slice none 0 0) ∧ S w3)
    (h : ∀ (a' : Act) (w' : World), S w' → a' = (((((((((((((((((((((((((((((a).put (some 110) (.bool false)).put (some 111) (.bool false)).put (some 112) (.pointer (some ⟨eb, 0 + 0, none⟩))).put (some 113) (zId.v)).put (some 114) (zId.v)).put (some 115) (.bool false)).put (some 116) (.bool false)).put (some 117) (.bool false)).put (some 118) (.pointer (some ⟨eb, 0 + 33, none⟩))).put (some 119) (zVa.v)).put (some 120) (zVa.v)).put (some 121) (.bool true)).put (some 122) (.bool false)).put (some 123) (.bool false)).put (some 124) (.bool false)).put (some 125) (.pointer none)).put (some 126) (p.v)).put (some 127) (.slice none 0 0)).put (some 128) (.int .i64 (0 : Int))).put (some 129) (.bool false)).put (some 130) (.bool false)).put (some 131) (.bool false)).put (some 132) (.pointer none)).put (some 133) (.pointer (some ⟨pb, 0 + 0, none⟩))).put (some 134) (p.o.v)).put (some 135) (.slice none 0 0)).put (some 136) (.int .i64 0)).put (some 137) (.bool false)).put (some 138) (.bool false) → Q .normal a' w') :
    (Code.region 17 none17_ops false).wp Tryd.prog Q a w := by
  refine z0 rfl ?_
  refine zv rfl (exec_move rfl (zi t12 rfl)) ?_
  refine zv rfl (exec_move rfl (zg zz rfl)) ?_
  refine zv (zw zz rfl rfl rfl (zg zz rfl)) (exec_fieldAt rfl (zi t11 rfl) (fg_63_0 _ _ _)) ?_
  refine zv (zw zz rfl rfl rfl (zg zz rfl)) (exec_load rfl (zg zz rfl) (LE _ h0)) ?_
  refine zv (zw zz rfl rfl rfl (zg zz rfl)) (exec_build0 rfl (build_id _)) ?_
  refine zv (v := .bool false) (zw zz rfl rfl rfl (zg zz rfl)) (ex_neqX zId_ok rfl (zg zz rfl) (zg zz rfl)) ?_
  refine zv rfl (exec_pickF rfl (zg zz rfl) (zg zz rfl)) ?_
  refine zv rfl (exec_move rfl (zg zz rfl)) ?_
  refine zv (zw zz rfl rfl rfl (zg zz rfl)) (exec_fieldAt rfl (zi t11 rfl) (fg_63_1 _ _ _)) ?_
  refine zv (zw zz rfl rfl rfl (zg zz rfl)) (exec_load rfl (zg zz rfl) (LW _ h0)) ?_
  refine zv (zw zz rfl rfl rfl (zg zz rfl)) (exec_build0 rfl (BV0 _)) ?_
  refine zc (zw zz rfl rfl rfl (zg zz rfl)) (exec_c2 rfl (zg zz rfl) (zg zz rfl)) (CS) (fun e x11 hx => ?_)
  obtain ⟨rfl, S1, CE⟩ := hx
  refine ⟨_, rfl, ?_⟩
  refine zv (zw zz rfl rfl rfl (zg zz rfl)) (exec_not rfl (zg zz rfl)) ?_
  refine zv rfl (exec_pickF rfl (zg zz rfl) (zg zz rfl)) ?_
  refine zv rfl (exec_move rfl (zg zz rfl)) ?_
  refine zv (zw zz rfl rfl rfl (zg zz rfl)) (exec_move rfl (zi t5 rfl)) ?_
  refine zv (zw zz rfl rfl rfl (zg zz rfl)) (exec_load rfl (zi t8 rfl) (LP _ S1)) ?_
  refine zc (zw zz rfl rfl rfl (zg zz rfl)) (exec_c2 rfl (zg zz rfl) (zg zz rfl)) (CE) (fun e x17 hx => ?_)
  obtain ⟨rfl, S2, CK⟩ := hx
  refine ⟨_, rfl, ?_⟩
  refine zv (zw zz rfl rfl rfl (zg zz rfl)) (exec_len rfl (zg zz rfl) (len_en _ _ _ _ _)) ?_
  refine zv (v := .bool false) (zw zz rfl rfl rfl (zg zz rfl)) (ex_nei (.inl rfl) rfl (zg zz rfl) rfl) ?_
  refine zv rfl (exec_pickF rfl (zg zz rfl) (zg zz rfl)) ?_
  refine zv rfl (exec_move rfl (zg zz rfl)) ?_
  refine zv (zw zz rfl rfl rfl (zg zz rfl)) (exec_move rfl (zi t5 rfl)) ?_
  refine zv (zw zz rfl rfl rfl (zg zz rfl)) (exec_fieldAt rfl (zi t8 rfl) (fg_52_0 _ _ _)) ?_
  refine zv (zw zz rfl rfl rfl (zg zz rfl)) (exec_load rfl (zg zz rfl) (LO _ S2)) ?_
  refine zc (zw zz rfl rfl rfl (zg zz rfl)) (exec_c2 rfl (zg zz rfl) (zg zz rfl)) (CK) (fun e x25 hx => ?_)
  obtain ⟨rfl, S3⟩ := hx
  refine ⟨_, rfl, ?_⟩
  refine zv (zw zz rfl rfl rfl (zg zz rfl)) (exec_len rfl (zg zz rfl) (len_st0 _)) ?_
  refine zv (v := .bool false) (zw zz rfl rfl rfl (zg zz rfl)) (ex_nei (.inl rfl) rfl (zg zz rfl) rfl) ?_
  refine zv rfl (exec_pickF rfl (zg zz rfl) (zg zz rfl)) ?_
  exact ze rfl (h _ _ (S3) rfl)
end Go.Proofs.YtldlljobofnmmaaDoor
