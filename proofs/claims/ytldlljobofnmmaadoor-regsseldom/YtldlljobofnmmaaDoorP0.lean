import Derived.Test.YtldlljobofnmmaaDoorZr
import Derived.Test.YtldlljobofnmmaaDoorRva
namespace Go.Proofs.YtldlljobofnmmaaDoor
open Go.RowKit
set_option linter.unusedVariables false
set_option linter.unusedSimpArgs false

theorem fg_45_0 (b o : Nat) (w : World) : (Instr.fieldAt 45 (.pointer (some ⟨b, o, none⟩)) 0).run Tryd.prog w = .ok (.pointer (some ⟨b, o + 0, none⟩)) w := by go_simp
theorem fg_45_1 (b o : Nat) (w : World) : (Instr.fieldAt 45 (.pointer (some ⟨b, o, none⟩)) 1).run Tryd.prog w = .ok (.pointer (some ⟨b, o + 1, none⟩)) w := by go_simp
theorem fg_45_2 (b o : Nat) (w : World) : (Instr.fieldAt 45 (.pointer (some ⟨b, o, none⟩)) 2).run Tryd.prog w = .ok (.pointer (some ⟨b, o + 2, none⟩)) w := by go_simp
theorem fg_45_3 (b o : Nat) (w : World) : (Instr.fieldAt 45 (.pointer (some ⟨b, o, none⟩)) 3).run Tryd.prog w = .ok (.pointer (some ⟨b, o + 35, none⟩)) w := by go_simp
theorem fg_45_4 (b o : Nat) (w : World) : (Instr.fieldAt 45 (.pointer (some ⟨b, o, none⟩)) 4).run Tryd.prog w = .ok (.pointer (some ⟨b, o + 39, none⟩)) w := by go_simp
theorem fg_45_5 (b o : Nat) (w : World) : (Instr.fieldAt 45 (.pointer (some ⟨b, o, none⟩)) 5).run Tryd.prog w = .ok (.pointer (some ⟨b, o + 40, none⟩)) w := by go_simp
theorem fg_45_6 (b o : Nat) (w : World) : (Instr.fieldAt 45 (.pointer (some ⟨b, o, none⟩)) 6).run Tryd.prog w = .ok (.pointer (some ⟨b, o + 41, none⟩)) w := by go_simp
theorem ix_opR {b o m c i : Nat} (hi : i < m) (hm : m ≤ 9223372036854775807) (W : World) : (Instr.indexAt 23 (.slice (some ⟨b, o, none⟩) m c) (.int .i64 (i : Int))).run Tryd.prog W = .ok (.pointer (some ⟨b, o + 42 * i, none⟩)) W := by
  rw [Nat.mul_comm]
  go_simp
theorem exec_c5 {w : World} {a : Act} {o : Oper} {F : Nat} {ts : Array TypeId} {x1 x2 x3 x4 x5 : Operand} {v1 v2 v3 v4 v5 : Value} (ho : o.op = .call { callee := .value (.func F), args := #[x1, x2, x3, x4, x5], argTypes := ts }) (h1 : a.eval x1 = v1) (h2 : a.eval x2 = v2) (h3 : a.eval x3 = v3) (h4 : a.eval x4 = v4) (h5 : a.eval x5 = v5) (hf : (callFunc F #[v1, v2, v3, v4, v5]).run Tryd.prog w = .ok (.enter F #[v1, v2, v3, v4, v5]) w := by go_simp) : (execOp a.eval o).run Tryd.prog w = .ok (.enter F #[v1, v2, v3, v4, v5]) w := by
  have e0 : a.eval (.func F) = .func (.func F) #[] #[] := rfl
  unfold execOp; simp [ho, resolve, invoke, h1, h2, h3, h4, h5, e0, Deferred.ofValue, Result.andThen, hf]
theorem exec_bc1 {w : World} {a : Act} {o : Oper} {t : TypeId} {i : Nat} {v u : Value} (ho : o.op = .build t #[(i, .const v)]) (hl : (Instr.build t #[(i, v)]).run Tryd.prog w = .ok u w) : (execOp a.eval o).run Tryd.prog w = .ok (.value u) w := exec_build ho (by simp; rfl) hl
theorem exec_bc2 {w : World} {a : Act} {o : Oper} {t : TypeId} {i j : Nat} {v v2 u : Value} (ho : o.op = .build t #[(i, .const v), (j, .const v2)]) (hl : (Instr.build t #[(i, v), (j, v2)]).run Tryd.prog w = .ok u w) : (execOp a.eval o).run Tryd.prog w = .ok (.value u) w := exec_build ho (by simp; exact ⟨rfl, rfl⟩) hl
theorem ex_nei {w : World} {a : Act} {o : Oper} {x y : Operand} {c : Int} {t : TypeId} (ht : t = 3 ∨ t = 2) (ho : o.op = .binOp .neq t x y t) (hx : a.eval x = .int .i64 c) (hy : a.eval y = .int .i64 c) : (execOp a.eval o).run Tryd.prog w = .ok (.value (.bool false)) w := by
  rcases ht with rfl | rfl
  · refine exec_binOp ho hx hy ?_ ?_
    · kernel_rfl
    · have : (c != c) = false := by simp
      go_simp
  · refine exec_binOp ho hx hy ?_ ?_
    · kernel_rfl
    · have : (c != c) = false := by simp
      go_simp
theorem ex_neqX {w : World} {a : Act} {o : Oper} {x y : Operand} {p : IdK} (hp : p.ok) (ho : o.op = .binOp .neq 38 x y 38) (hx : a.eval x = p.v) (hy : a.eval y = p.v) : (execOp a.eval o).run Tryd.prog w = .ok (.value (.bool false)) w := by
  have h := neq_idR p p hp hp w
  rw [show decide (p ≠ p) = false by simp] at h
  exact exec_binOp ho hx hy (guard_idR _ _ _ _ _ _) h
def live9_o0 : Oper := { dst := some 29, op := Op.move (Operand.tmp 7), type := 60, pos := "law.go:32", after := #[], guard := none }
def live9_o1 : Oper := { dst := some 30, op := Op.call { callee := Callee.builtin Builtin.len, args := #[Operand.tmp 29], argTypes := #[60] }, type := 3, pos := "law.go:32", after := #[{ on := 0, ground := Ground.data }], guard := none }
def live9_o2 : Oper := { dst := some 31, op := Op.binOp BinOp.neq 3 (Operand.tmp 30) (Operand.const (Value.int IntKind.i64 2)) 3, type := 4, pos := "law.go:32", after := #[{ on := 1, ground := Ground.data }], guard := none }
def live9_o3 : Oper := { dst := some 32, op := Op.move (Operand.tmp 31), type := 4, pos := "law.go:32", after := #[{ on := 2, ground := Ground.data }], guard := none }
def live9_o4 : Oper := { dst := some 33, op := Op.move (Operand.tmp 7), type := 60, pos := "law.go:32", after := #[{ on := 3, ground := Ground.guard }], guard := some (3, false) }
def live9_o5 : Oper := { dst := some 34, op := Op.indexAddr 60 (Operand.tmp 33) (Operand.const (Value.int IntKind.i64 0)), type := 0, pos := "law.go:32", after := #[{ on := 4, ground := Ground.data }, { on := 3, ground := Ground.guard }], guard := some (3, false) }
def live9_o6 : Oper := { dst := some 35, op := Op.fieldAddr 63 (Operand.tmp 34) 0, type := 0, pos := "law.go:32", after := #[{ on := 5, ground := Ground.data }, { on := 3, ground := Ground.guard }], guard := some (3, false) }
def live9_o7 : Oper := { dst := some 36, op := Op.load 38 (Operand.tmp 35), type := 38, pos := "law.go:32", after := #[{ on := 6, ground := Ground.data }, { on := 3, ground := Ground.guard }], guard := some (3, false) }
def live9_o8 : Oper := { dst := some 37, op := Op.load 38 (Operand.tmp 3), type := 38, pos := "law.go:32", after := #[{ on := 3, ground := Ground.guard }], guard := some (3, false) }
def live9_o9 : Oper := { dst := some 38, op := Op.binOp BinOp.neq 38 (Operand.tmp 36) (Operand.tmp 37) 38, type := 4, pos := "law.go:32", after := #[{ on := 7, ground := Ground.data }, { on := 8, ground := Ground.data }, { on := 3, ground := Ground.guard }], guard := some (3, false) }
def live9_o10 : Oper := { dst := some 39, op := Op.pick (Operand.tmp 32) (Operand.const (Value.bool true)) (Operand.tmp 38), type := 4, pos := "law.go:32", after := #[{ on := 3, ground := Ground.data }, { on := 9, ground := Ground.data }], guard := none }
def live9_o11 : Oper := { dst := some 40, op := Op.move (Operand.tmp 39), type := 4, pos := "law.go:32", after := #[{ on := 10, ground := Ground.data }, { on := 3, ground := Ground.chain }], guard := none }
def live9_o12 : Oper := { dst := some 41, op := Op.move (Operand.tmp 7), type := 60, pos := "law.go:32", after := #[{ on := 11, ground := Ground.guard }], guard := some (11, false) }
def live9_o13 : Oper := { dst := some 42, op := Op.indexAddr 60 (Operand.tmp 41) (Operand.const (Value.int IntKind.i64 0)), type := 0, pos := "law.go:32", after := #[{ on := 12, ground := Ground.data }, { on := 11, ground := Ground.guard }], guard := some (11, false) }
def live9_o14 : Oper := { dst := some 43, op := Op.fieldAddr 63 (Operand.tmp 42) 1, type := 0, pos := "law.go:32", after := #[{ on := 13, ground := Ground.data }, { on := 11, ground := Ground.guard }], guard := some (11, false) }
def live9_o15 : Oper := { dst := some 44, op := Op.fieldAddr 42 (Operand.tmp 43) 1, type := 0, pos := "law.go:32", after := #[{ on := 14, ground := Ground.data }, { on := 11, ground := Ground.guard }], guard := some (11, false) }
def live9_o16 : Oper := { dst := some 45, op := Op.load 2 (Operand.tmp 44), type := 2, pos := "law.go:32", after := #[{ on := 15, ground := Ground.data }, { on := 11, ground := Ground.guard }], guard := some (11, false) }
def live9_o17 : Oper := { dst := some 46, op := Op.binOp BinOp.neq 2 (Operand.tmp 45) (Operand.const (Value.int IntKind.i64 8)) 2, type := 4, pos := "law.go:32", after := #[{ on := 16, ground := Ground.data }, { on := 11, ground := Ground.guard }], guard := some (11, false) }
def live9_o18 : Oper := { dst := some 47, op := Op.pick (Operand.tmp 40) (Operand.const (Value.bool true)) (Operand.tmp 46), type := 4, pos := "law.go:32", after := #[{ on := 11, ground := Ground.data }, { on := 17, ground := Ground.data }], guard := none }
def live9_o19 : Oper := { dst := some 48, op := Op.move (Operand.tmp 47), type := 4, pos := "law.go:32", after := #[{ on := 18, ground := Ground.data }, { on := 11, ground := Ground.chain }], guard := none }
def live9_o20 : Oper := { dst := some 49, op := Op.move (Operand.tmp 7), type := 60, pos := "law.go:32", after := #[{ on := 19, ground := Ground.guard }], guard := some (19, false) }
def live9_o21 : Oper := { dst := some 50, op := Op.indexAddr 60 (Operand.tmp 49) (Operand.const (Value.int IntKind.i64 1)), type := 0, pos := "law.go:32", after := #[{ on := 20, ground := Ground.data }, { on := 19, ground := Ground.guard }], guard := some (19, false) }
def live9_o22 : Oper := { dst := some 51, op := Op.fieldAddr 63 (Operand.tmp 50) 0, type := 0, pos := "law.go:32", after := #[{ on := 21, ground := Ground.data }, { on := 19, ground := Ground.guard }], guard := some (19, false) }
def live9_o23 : Oper := { dst := some 52, op := Op.load 38 (Operand.tmp 51), type := 38, pos := "law.go:32", after := #[{ on := 22, ground := Ground.data }, { on := 19, ground := Ground.guard }], guard := some (19, false) }
def live9_o24 : Oper := { dst := some 53, op := Op.load 38 (Operand.tmp 4), type := 38, pos := "law.go:32", after := #[{ on := 19, ground := Ground.guard }], guard := some (19, false) }
def live9_o25 : Oper := { dst := some 54, op := Op.binOp BinOp.neq 38 (Operand.tmp 52) (Operand.tmp 53) 38, type := 4, pos := "law.go:32", after := #[{ on := 23, ground := Ground.data }, { on := 24, ground := Ground.data }, { on := 19, ground := Ground.guard }], guard := some (19, false) }
def live9_o26 : Oper := { dst := some 55, op := Op.pick (Operand.tmp 48) (Operand.const (Value.bool true)) (Operand.tmp 54), type := 4, pos := "law.go:32", after := #[{ on := 19, ground := Ground.data }, { on := 25, ground := Ground.data }], guard := none }
def live9_o27 : Oper := { dst := some 56, op := Op.move (Operand.tmp 55), type := 4, pos := "law.go:32", after := #[{ on := 26, ground := Ground.data }, { on := 19, ground := Ground.chain }], guard := none }
def live9_o28 : Oper := { dst := some 57, op := Op.move (Operand.tmp 1), type := 26, pos := "law.go:32", after := #[{ on := 27, ground := Ground.guard }], guard := some (27, false) }
def live9_o29 : Oper := { dst := some 58, op := Op.call { callee := Callee.value (Operand.func 24), args := #[Operand.tmp 57], argTypes := #[26] }, type := 3, pos := "law.go:32", after := #[{ on := 28, ground := Ground.data }, { on := 27, ground := Ground.chain }, { on := 27, ground := Ground.guard }], guard := some (27, false) }
def live9_o30 : Oper := { dst := some 59, op := Op.binOp BinOp.neq 3 (Operand.tmp 58) (Operand.const (Value.int IntKind.i64 1)) 3, type := 4, pos := "law.go:32", after := #[{ on := 29, ground := Ground.data }, { on := 27, ground := Ground.guard }], guard := some (27, false) }
def live9_o31 : Oper := { dst := some 60, op := Op.pick (Operand.tmp 56) (Operand.const (Value.bool true)) (Operand.tmp 59), type := 4, pos := "law.go:32", after := #[{ on := 27, ground := Ground.data }, { on := 30, ground := Ground.data }], guard := none }
def live9_ops : Array Oper := #[live9_o0, live9_o1, live9_o2, live9_o3, live9_o4, live9_o5, live9_o6, live9_o7, live9_o8, live9_o9, live9_o10, live9_o11, live9_o12, live9_o13, live9_o14, live9_o15, live9_o16, live9_o17, live9_o18, live9_o19, live9_o20, live9_o21, live9_o22, live9_o23, live9_o24, live9_o25, live9_o26, live9_o27, live9_o28, live9_o29, live9_o30, live9_o31]
set_option maxRecDepth 100000 in
set_option maxHeartbeats 4000000 in
theorem live9 {rb xb yb g o lc : Nat} {x y : IdK} (a : Act) (w : World) (Q : Exit → Act → World → Prop) (zz : a.tmps.size = 78)
    (t1 : a.tmps.getD 1 undef = .pointer (some ⟨rb, 0, none⟩))
    (t3 : a.tmps.getD 3 undef = .pointer (some ⟨xb, 0, none⟩))
    (t4 : a.tmps.getD 4 undef = .pointer (some ⟨yb, 0, none⟩))
    (t7 : a.tmps.getD 7 undef = .slice (some ⟨g, o, none⟩) 2 lc)
    (hx : x.ok) (hy : y.ok) (L1 : ∀ W, W = w.drew → (Instr.loadAt 38 (.pointer (some ⟨g, o + 37 * 0 + 0, none⟩))).run Tryd.prog W = .ok (x.v) W) (L2 : ∀ W, W = w.drew → (Instr.loadAt 38 (.pointer (some ⟨xb, 0, none⟩))).run Tryd.prog W = .ok (x.v) W) (L3 : ∀ W, W = w.drew → (Instr.loadAt 2 (.pointer (some ⟨g, o + 37 * 0 + 33 + 1, none⟩))).run Tryd.prog W = .ok (.int .i64 8) W) (L4 : ∀ W, W = w.drew → (Instr.loadAt 38 (.pointer (some ⟨g, o + 37 * 1 + 0, none⟩))).run Tryd.prog W = .ok (y.v) W) (L5 : ∀ W, W = w.drew → (Instr.loadAt 38 (.pointer (some ⟨yb, 0, none⟩))).run Tryd.prog W = .ok (y.v) W) (CL : Calls Tryd.prog 24 #[.pointer (some ⟨rb, 0, none⟩)] w.drew fun e w' => e = .returned (.int .i64 1) ∧ w' = w.drew)
    (h : ∀ (a' : Act) (w' : World), w' = w.drew → a' = ((((((((((((((((((((((((((((((((a).put (some 29) (.slice (some ⟨g, o, none⟩) 2 lc)).put (some 30) (.int .i64 (2 : Int))).put (some 31) (.bool false)).put (some 32) (.bool false)).put (some 33) (.slice (some ⟨g, o, none⟩) 2 lc)).put (some 34) (.pointer (some ⟨g, o + 37 * 0, none⟩))).put (some 35) (.pointer (some ⟨g, o + 37 * 0 + 0, none⟩))).put (some 36) (x.v)).put (some 37) (x.v)).put (some 38) (.bool false)).put (some 39) (.bool false)).put (some 40) (.bool false)).put (some 41) (.slice (some ⟨g, o, none⟩) 2 lc)).put (some 42) (.pointer (some ⟨g, o + 37 * 0, none⟩))).put (some 43) (.pointer (some ⟨g, o + 37 * 0 + 33, none⟩))).put (some 44) (.pointer (some ⟨g, o + 37 * 0 + 33 + 1, none⟩))).put (some 45) (.int .i64 8)).put (some 46) (.bool false)).put (some 47) (.bool false)).put (some 48) (.bool false)).put (some 49) (.slice (some ⟨g, o, none⟩) 2 lc)).put (some 50) (.pointer (some ⟨g, o + 37 * 1, none⟩))).put (some 51) (.pointer (some ⟨g, o + 37 * 1 + 0, none⟩))).put (some 52) (y.v)).put (some 53) (y.v)).put (some 54) (.bool false)).put (some 55) (.bool false)).put (some 56) (.bool false)).put (some 57) (.pointer (some ⟨rb, 0, none⟩))).put (some 58) (.int .i64 1)).put (some 59) (.bool false)).put (some 60) (.bool false) → Q .normal a' w') :
    (Code.region 9 live9_ops true).wp Tryd.prog Q a w := by
  refine y0 (fun w' => w' = w.drew) (rfl) (fun hHeld => ?_)
  refine yv 0 rfl rfl (fun w1 hw => exec_move rfl (zi t7 rfl)) hHeld ?_
  refine yv 1 rfl rfl (fun w1 hw => exec_len rfl (zg zz rfl) (len_en _ _ _ _ _)) hHeld ?_
  refine yv (v := .bool false) 2 rfl rfl (fun w1 hw => ex_nei (.inl rfl) rfl (zg zz rfl) rfl) hHeld ?_
  refine yv 3 rfl rfl (fun w1 hw => exec_move rfl (zg zz rfl)) hHeld ?_
  refine yv 4 rfl (zw zz rfl rfl rfl (zg zz rfl)) (fun w1 hw => exec_move rfl (zi t7 rfl)) hHeld ?_
  refine yv 5 rfl (zw zz rfl rfl rfl (zg zz rfl)) (fun w1 hw => exec_indexAt rfl (zg zz rfl) rfl (ix_en (i := 0) (m := 2) (by decide) (by decide) _)) hHeld ?_
  refine yv 6 rfl (zw zz rfl rfl rfl (zg zz rfl)) (fun w1 hw => exec_fieldAt rfl (zg zz rfl) (fg_63_0 _ _ _)) hHeld ?_
  refine yv 7 rfl (zw zz rfl rfl rfl (zg zz rfl)) (fun w1 hw => exec_load rfl (zg zz rfl) (L1 _ hw)) hHeld ?_
  refine yv 8 rfl (zw zz rfl rfl rfl (zg zz rfl)) (fun w1 hw => exec_load rfl (zi t3 rfl) (L2 _ hw)) hHeld ?_
  refine yv (v := .bool false) 9 rfl (zw zz rfl rfl rfl (zg zz rfl)) (fun w1 hw => ex_neqX hx rfl (zg zz rfl) (zg zz rfl)) hHeld ?_
  refine yv 10 rfl rfl (fun w1 hw => exec_pickF rfl (zg zz rfl) (zg zz rfl)) hHeld ?_
  refine yv 11 rfl rfl (fun w1 hw => exec_move rfl (zg zz rfl)) hHeld ?_
  refine yv 12 rfl (zw zz rfl rfl rfl (zg zz rfl)) (fun w1 hw => exec_move rfl (zi t7 rfl)) hHeld ?_
  refine yv 13 rfl (zw zz rfl rfl rfl (zg zz rfl)) (fun w1 hw => exec_indexAt rfl (zg zz rfl) rfl (ix_en (i := 0) (m := 2) (by decide) (by decide) _)) hHeld ?_
  refine yv 14 rfl (zw zz rfl rfl rfl (zg zz rfl)) (fun w1 hw => exec_fieldAt rfl (zg zz rfl) (fg_63_1 _ _ _)) hHeld ?_
  refine yv 15 rfl (zw zz rfl rfl rfl (zg zz rfl)) (fun w1 hw => exec_fieldAt rfl (zg zz rfl) (fg_42_1 _ _ _)) hHeld ?_
  refine yv 16 rfl (zw zz rfl rfl rfl (zg zz rfl)) (fun w1 hw => exec_load rfl (zg zz rfl) (L3 _ hw)) hHeld ?_
  refine yv (v := .bool false) 17 rfl (zw zz rfl rfl rfl (zg zz rfl)) (fun w1 hw => ex_nei (.inr rfl) rfl (zg zz rfl) rfl) hHeld ?_
  refine yv 18 rfl rfl (fun w1 hw => exec_pickF rfl (zg zz rfl) (zg zz rfl)) hHeld ?_
  refine yv 19 rfl rfl (fun w1 hw => exec_move rfl (zg zz rfl)) hHeld ?_
  refine yv 20 rfl (zw zz rfl rfl rfl (zg zz rfl)) (fun w1 hw => exec_move rfl (zi t7 rfl)) hHeld ?_
  refine yv 21 rfl (zw zz rfl rfl rfl (zg zz rfl)) (fun w1 hw => exec_indexAt rfl (zg zz rfl) rfl (ix_en (i := 1) (m := 2) (by decide) (by decide) _)) hHeld ?_
  refine yv 22 rfl (zw zz rfl rfl rfl (zg zz rfl)) (fun w1 hw => exec_fieldAt rfl (zg zz rfl) (fg_63_0 _ _ _)) hHeld ?_
  refine yv 23 rfl (zw zz rfl rfl rfl (zg zz rfl)) (fun w1 hw => exec_load rfl (zg zz rfl) (L4 _ hw)) hHeld ?_
  refine yv 24 rfl (zw zz rfl rfl rfl (zg zz rfl)) (fun w1 hw => exec_load rfl (zi t4 rfl) (L5 _ hw)) hHeld ?_
  refine yv (v := .bool false) 25 rfl (zw zz rfl rfl rfl (zg zz rfl)) (fun w1 hw => ex_neqX hy rfl (zg zz rfl) (zg zz rfl)) hHeld ?_
  refine yv 26 rfl rfl (fun w1 hw => exec_pickF rfl (zg zz rfl) (zg zz rfl)) hHeld ?_
  refine yv 27 rfl rfl (fun w1 hw => exec_move rfl (zg zz rfl)) hHeld ?_
  refine yv 28 rfl (zw zz rfl rfl rfl (zg zz rfl)) (fun w1 hw => exec_move rfl (zi t1 rfl)) hHeld ?_
  refine yc 29 rfl (zw zz rfl rfl rfl (zg zz rfl)) (exec_c1 rfl (zg zz rfl)) (CL) (fun e x29 hx => ?_)
  obtain ⟨rfl, S1⟩ := hx
  refine ⟨_, rfl, S1, fun hHeld => ?_⟩
  refine yv (v := .bool false) 30 rfl (zw zz rfl rfl rfl (zg zz rfl)) (fun w1 hw => ex_nei (.inl rfl) rfl (zg zz rfl) rfl) hHeld ?_
  refine yv 31 rfl rfl (fun w1 hw => exec_pickF rfl (zg zz rfl) (zg zz rfl)) hHeld ?_
  exact ye rfl (h _ _ (S1) rfl)
def live2_o0 : Oper := { dst := some 9, op := Op.build 52 #[(1, Operand.const (Value.string { data := #[97] }))], type := 52, pos := "law.go:25", after := #[], guard := none }
def live2_o1 : Oper := { dst := some 2, op := Op.alloc 52, type := 0, pos := "law.go:25", after := #[], guard := none }
def live2_o2 : Oper := { dst := none, op := Op.store 52 (Operand.tmp 2) (Operand.tmp 9), type := 0, pos := "law.go:25", after := #[{ on := 1, ground := Ground.data }, { on := 0, ground := Ground.data }, { on := 0, ground := Ground.phase }, { on := 1, ground := Ground.phase }], guard := none }
def live2_ops : Array Oper := #[live2_o0, live2_o1, live2_o2]
set_option maxRecDepth 100000 in
set_option maxHeartbeats 4000000 in
theorem live2 {b : Nat} {u : Value} {w1 w2 : World} (a : Act) (w : World) (Q : Exit → Act → World → Prop) (zz : a.tmps.size = 78)
    (BB : (Instr.build 52 #[(1, .string ⟨#[97]⟩)]).run Tryd.prog w = .ok u w) (EA : (Instr.alloc 52 true (.tuple #[])).run Tryd.prog w = .ok (.pointer (some ⟨b, 0, none⟩)) w1) (ES : (Instr.storeAt 52 (.pointer (some ⟨b, 0, none⟩)) u).run Tryd.prog w1 = .ok () w2)
    (h : ∀ (a' : Act) (w' : World), w' = w2 → a' = ((a).put (some 9) (u)).put (some 2) (.pointer (some ⟨b, 0, none⟩)) → Q .normal a' w') :
    (Code.region 2 live2_ops false).wp Tryd.prog Q a w := by
  refine z0 rfl ?_
  refine zv (v := u) rfl (exec_bc1 rfl BB) ?_
  refine zv (v := .pointer (some ⟨b, 0, none⟩)) rfl (exec_alloc rfl EA) ?_
  refine zs rfl (exec_store rfl (zg zz rfl) (zg zz rfl) ES) ?_
  exact ze rfl (h _ _ (rfl) rfl)
def live3_o0 : Oper := { dst := some 10, op := Op.build 38 #[(1, Operand.const (Value.int IntKind.i64 1))], type := 38, pos := "law.go:26", after := #[], guard := none }
def live3_o1 : Oper := { dst := some 3, op := Op.alloc 38, type := 0, pos := "law.go:26", after := #[], guard := none }
def live3_o2 : Oper := { dst := none, op := Op.store 38 (Operand.tmp 3) (Operand.tmp 10), type := 0, pos := "law.go:26", after := #[{ on := 1, ground := Ground.data }, { on := 0, ground := Ground.data }, { on := 0, ground := Ground.phase }, { on := 1, ground := Ground.phase }], guard := none }
def live3_ops : Array Oper := #[live3_o0, live3_o1, live3_o2]
set_option maxRecDepth 100000 in
set_option maxHeartbeats 4000000 in
theorem live3 {b : Nat} {u : Value} {w1 w2 : World} (a : Act) (w : World) (Q : Exit → Act → World → Prop) (zz : a.tmps.size = 78)
    (BB : (Instr.build 38 #[(1, .int .i64 1)]).run Tryd.prog w = .ok u w) (EA : (Instr.alloc 38 true (.tuple #[])).run Tryd.prog w = .ok (.pointer (some ⟨b, 0, none⟩)) w1) (ES : (Instr.storeAt 38 (.pointer (some ⟨b, 0, none⟩)) u).run Tryd.prog w1 = .ok () w2)
    (h : ∀ (a' : Act) (w' : World), w' = w2 → a' = ((a).put (some 10) (u)).put (some 3) (.pointer (some ⟨b, 0, none⟩)) → Q .normal a' w') :
    (Code.region 3 live3_ops false).wp Tryd.prog Q a w := by
  refine z0 rfl ?_
  refine zv (v := u) rfl (exec_bc1 rfl BB) ?_
  refine zv (v := .pointer (some ⟨b, 0, none⟩)) rfl (exec_alloc rfl EA) ?_
  refine zs rfl (exec_store rfl (zg zz rfl) (zg zz rfl) ES) ?_
  exact ze rfl (h _ _ (rfl) rfl)
def live4_o0 : Oper := { dst := some 11, op := Op.build 38 #[(1, Operand.const (Value.int IntKind.i64 2))], type := 38, pos := "law.go:27", after := #[], guard := none }
def live4_o1 : Oper := { dst := some 4, op := Op.alloc 38, type := 0, pos := "law.go:27", after := #[], guard := none }
def live4_o2 : Oper := { dst := none, op := Op.store 38 (Operand.tmp 4) (Operand.tmp 11), type := 0, pos := "law.go:27", after := #[{ on := 1, ground := Ground.data }, { on := 0, ground := Ground.data }, { on := 0, ground := Ground.phase }, { on := 1, ground := Ground.phase }], guard := none }
def live4_ops : Array Oper := #[live4_o0, live4_o1, live4_o2]
set_option maxRecDepth 100000 in
set_option maxHeartbeats 4000000 in
theorem live4 {b : Nat} {u : Value} {w1 w2 : World} (a : Act) (w : World) (Q : Exit → Act → World → Prop) (zz : a.tmps.size = 78)
    (BB : (Instr.build 38 #[(1, .int .i64 2)]).run Tryd.prog w = .ok u w) (EA : (Instr.alloc 38 true (.tuple #[])).run Tryd.prog w = .ok (.pointer (some ⟨b, 0, none⟩)) w1) (ES : (Instr.storeAt 38 (.pointer (some ⟨b, 0, none⟩)) u).run Tryd.prog w1 = .ok () w2)
    (h : ∀ (a' : Act) (w' : World), w' = w2 → a' = ((a).put (some 11) (u)).put (some 4) (.pointer (some ⟨b, 0, none⟩)) → Q .normal a' w') :
    (Code.region 4 live4_ops false).wp Tryd.prog Q a w := by
  refine z0 rfl ?_
  refine zv (v := u) rfl (exec_bc1 rfl BB) ?_
  refine zv (v := .pointer (some ⟨b, 0, none⟩)) rfl (exec_alloc rfl EA) ?_
  refine zs rfl (exec_store rfl (zg zz rfl) (zg zz rfl) ES) ?_
  exact ze rfl (h _ _ (rfl) rfl)
def live5_o0 : Oper := { dst := some 12, op := Op.move (Operand.tmp 1), type := 26, pos := "law.go:28", after := #[], guard := none }
def live5_o1 : Oper := { dst := some 13, op := Op.load 52 (Operand.tmp 2), type := 52, pos := "law.go:28", after := #[], guard := none }
def live5_o2 : Oper := { dst := some 14, op := Op.load 38 (Operand.tmp 3), type := 38, pos := "law.go:28", after := #[], guard := none }
def live5_o3 : Oper := { dst := some 15, op := Op.build 42 #[(0, Operand.const (Value.int IntKind.u8 7)), (1, Operand.const (Value.int IntKind.i64 5))], type := 42, pos := "law.go:28", after := #[], guard := none }
def live5_o4 : Oper := { dst := some 16, op := Op.call { callee := Callee.value (Operand.func 16), args := #[Operand.tmp 12, Operand.tmp 13, Operand.tmp 14, Operand.tmp 15, Operand.const Value.nilFunc], argTypes := #[26, 52, 38, 42, 80] }, type := 54, pos := "law.go:28", after := #[{ on := 0, ground := Ground.data }, { on := 1, ground := Ground.data }, { on := 2, ground := Ground.data }, { on := 3, ground := Ground.data }], guard := none }
def live5_o5 : Oper := { dst := some 5, op := Op.assign (Operand.tmp 16), type := 54, pos := "law.go:28", after := #[{ on := 4, ground := Ground.data }, { on := 4, ground := Ground.chain }, { on := 0, ground := Ground.phase }, { on := 1, ground := Ground.phase }, { on := 2, ground := Ground.phase }, { on := 3, ground := Ground.phase }, { on := 4, ground := Ground.phase }], guard := none }
def live5_ops : Array Oper := #[live5_o0, live5_o1, live5_o2, live5_o3, live5_o4, live5_o5]
set_option maxRecDepth 100000 in
set_option maxHeartbeats 4000000 in
theorem live5 {rb pb xb : Nat} {p : PlK} {x : IdK} {v : VaV} (Fin : Nat → World → Prop) (a : Act) (w : World) (Q : Exit → Act → World → Prop) (zz : a.tmps.size = 78)
    (t1 : a.tmps.getD 1 undef = .pointer (some ⟨rb, 0, none⟩))
    (t2 : a.tmps.getD 2 undef = .pointer (some ⟨pb, 0, none⟩))
    (t3 : a.tmps.getD 3 undef = .pointer (some ⟨xb, 0, none⟩))
    (BB : (Instr.build 42 #[(0, .int .u8 7), (1, .int .i64 5)]).run Tryd.prog w = .ok v.v w) (LP : ∀ W, W = w → (Instr.loadAt 52 (.pointer (some ⟨pb, 0, none⟩))).run Tryd.prog W = .ok (p.v) W) (LX : ∀ W, W = w → (Instr.loadAt 38 (.pointer (some ⟨xb, 0, none⟩))).run Tryd.prog W = .ok (x.v) W) (CP : Calls Tryd.prog 16 #[.pointer (some ⟨rb, 0, none⟩), p.v, x.v, v.v, .nilFunc] w fun e w' => ∃ bk, e = .returned (.pointer (some ⟨bk, 0, none⟩)) ∧ Fin bk w')
    (h : ∀ (bk : Nat) (a' : Act) (w' : World), Fin bk w' → a' = ((((((a).put (some 12) (.pointer (some ⟨rb, 0, none⟩))).put (some 13) (p.v)).put (some 14) (x.v)).put (some 15) (v.v)).put (some 16) (.pointer (some ⟨bk, 0, none⟩))).put (some 5) (.pointer (some ⟨bk, 0, none⟩)) → Q .normal a' w') :
    (Code.region 5 live5_ops false).wp Tryd.prog Q a w := by
  refine z0 rfl ?_
  refine zv rfl (exec_move rfl (zi t1 rfl)) ?_
  refine zv rfl (exec_load rfl (zi t2 rfl) (LP _ rfl)) ?_
  refine zv rfl (exec_load rfl (zi t3 rfl) (LX _ rfl)) ?_
  refine zv (v := v.v) rfl (exec_bc2 rfl BB) ?_
  refine zc rfl (exec_c5 rfl (zg zz rfl) (zg zz rfl) (zg zz rfl) (zg zz rfl) rfl) (CP) (fun e x4 hx => ?_)
  obtain ⟨bk, rfl, HF⟩ := hx
  replace h := h bk
  refine ⟨_, rfl, ?_⟩
  refine zv rfl (exec_assign rfl (zg zz rfl)) ?_
  exact ze rfl (h _ _ (HF) rfl)
def live7_o0 : Oper := { dst := some 21, op := Op.move (Operand.tmp 1), type := 26, pos := "law.go:30", after := #[], guard := none }
def live7_o1 : Oper := { dst := some 22, op := Op.load 52 (Operand.tmp 2), type := 52, pos := "law.go:30", after := #[], guard := none }
def live7_o2 : Oper := { dst := some 23, op := Op.load 38 (Operand.tmp 4), type := 38, pos := "law.go:30", after := #[], guard := none }
def live7_o3 : Oper := { dst := some 24, op := Op.build 42 #[], type := 42, pos := "law.go:30", after := #[], guard := none }
def live7_o4 : Oper := { dst := some 25, op := Op.call { callee := Callee.value (Operand.func 16), args := #[Operand.tmp 21, Operand.tmp 22, Operand.tmp 23, Operand.tmp 24, Operand.const Value.nilFunc], argTypes := #[26, 52, 38, 42, 80] }, type := 54, pos := "law.go:30", after := #[{ on := 0, ground := Ground.data }, { on := 1, ground := Ground.data }, { on := 2, ground := Ground.data }, { on := 3, ground := Ground.data }], guard := none }
def live7_o5 : Oper := { dst := some 6, op := Op.assign (Operand.tmp 25), type := 54, pos := "law.go:30", after := #[{ on := 4, ground := Ground.data }, { on := 4, ground := Ground.chain }, { on := 0, ground := Ground.phase }, { on := 1, ground := Ground.phase }, { on := 2, ground := Ground.phase }, { on := 3, ground := Ground.phase }, { on := 4, ground := Ground.phase }], guard := none }
def live7_ops : Array Oper := #[live7_o0, live7_o1, live7_o2, live7_o3, live7_o4, live7_o5]
set_option maxRecDepth 100000 in
set_option maxHeartbeats 4000000 in
theorem live7 {rb pb xb : Nat} {p : PlK} {x : IdK} {v : VaV} (Fin : Nat → World → Prop) (a : Act) (w : World) (Q : Exit → Act → World → Prop) (zz : a.tmps.size = 78)
    (t1 : a.tmps.getD 1 undef = .pointer (some ⟨rb, 0, none⟩))
    (t2 : a.tmps.getD 2 undef = .pointer (some ⟨pb, 0, none⟩))
    (t4 : a.tmps.getD 4 undef = .pointer (some ⟨xb, 0, none⟩))
    (BB : (Instr.build 42 #[]).run Tryd.prog w = .ok v.v w) (LP : ∀ W, W = w → (Instr.loadAt 52 (.pointer (some ⟨pb, 0, none⟩))).run Tryd.prog W = .ok (p.v) W) (LX : ∀ W, W = w → (Instr.loadAt 38 (.pointer (some ⟨xb, 0, none⟩))).run Tryd.prog W = .ok (x.v) W) (CP : Calls Tryd.prog 16 #[.pointer (some ⟨rb, 0, none⟩), p.v, x.v, v.v, .nilFunc] w fun e w' => ∃ bk, e = .returned (.pointer (some ⟨bk, 0, none⟩)) ∧ Fin bk w')
    (h : ∀ (bk : Nat) (a' : Act) (w' : World), Fin bk w' → a' = ((((((a).put (some 21) (.pointer (some ⟨rb, 0, none⟩))).put (some 22) (p.v)).put (some 23) (x.v)).put (some 24) (v.v)).put (some 25) (.pointer (some ⟨bk, 0, none⟩))).put (some 6) (.pointer (some ⟨bk, 0, none⟩)) → Q .normal a' w') :
    (Code.region 7 live7_ops false).wp Tryd.prog Q a w := by
  refine z0 rfl ?_
  refine zv rfl (exec_move rfl (zi t1 rfl)) ?_
  refine zv rfl (exec_load rfl (zi t2 rfl) (LP _ rfl)) ?_
  refine zv rfl (exec_load rfl (zi t4 rfl) (LX _ rfl)) ?_
  refine zv rfl (exec_build0 rfl BB) ?_
  refine zc rfl (exec_c5 rfl (zg zz rfl) (zg zz rfl) (zg zz rfl) (zg zz rfl) rfl) (CP) (fun e x4 hx => ?_)
  obtain ⟨bk, rfl, HF⟩ := hx
  replace h := h bk
  refine ⟨_, rfl, ?_⟩
  refine zv rfl (exec_assign rfl (zg zz rfl)) ?_
  exact ze rfl (h _ _ (HF) rfl)
def live6_o0 : Oper := { dst := some 17, op := Op.move (Operand.tmp 1), type := 26, pos := "law.go:29", after := #[], guard := none }
def live6_o1 : Oper := { dst := some 18, op := Op.load 52 (Operand.tmp 2), type := 52, pos := "law.go:29", after := #[], guard := none }
def live6_o2 : Oper := { dst := some 19, op := Op.makeFunc (Fn.func 31) #[] #[Operand.tmp 3], type := 80, pos := "law.go:29", after := #[], guard := none }
def live6_o3 : Oper := { dst := some 20, op := Op.call { callee := Callee.value (Operand.func 18), args := #[Operand.tmp 17, Operand.tmp 18, Operand.const (Value.int IntKind.i64 3), Operand.tmp 19], argTypes := #[26, 52, 2, 80] }, type := 54, pos := "law.go:29", after := #[{ on := 0, ground := Ground.data }, { on := 1, ground := Ground.data }, { on := 2, ground := Ground.data }], guard := none }
def live6_ops : Array Oper := #[live6_o0, live6_o1, live6_o2, live6_o3]
set_option maxRecDepth 100000 in
set_option maxHeartbeats 4000000 in
theorem live6 {rb pb xb : Nat} {p : PlK} (Fin : Nat → World → Prop) (a : Act) (w : World) (Q : Exit → Act → World → Prop) (zz : a.tmps.size = 78)
    (t1 : a.tmps.getD 1 undef = .pointer (some ⟨rb, 0, none⟩))
    (t2 : a.tmps.getD 2 undef = .pointer (some ⟨pb, 0, none⟩))
    (t3 : a.tmps.getD 3 undef = .pointer (some ⟨xb, 0, none⟩))
    (LP : ∀ W, W = w → (Instr.loadAt 52 (.pointer (some ⟨pb, 0, none⟩))).run Tryd.prog W = .ok (p.v) W) (CP : Calls Tryd.prog 18 #[.pointer (some ⟨rb, 0, none⟩), p.v, .int .i64 3, .func (.func 31) #[] #[.pointer (some ⟨xb, 0, none⟩)]] w fun e w' => ∃ bk, e = .returned (.pointer (some ⟨bk, 0, none⟩)) ∧ Fin bk w')
    (h : ∀ (bk : Nat) (a' : Act) (w' : World), Fin bk w' → a' = ((((a).put (some 17) (.pointer (some ⟨rb, 0, none⟩))).put (some 18) (p.v)).put (some 19) (.func (.func 31) #[] #[.pointer (some ⟨xb, 0, none⟩)])).put (some 20) (.pointer (some ⟨bk, 0, none⟩)) → Q .normal a' w') :
    (Code.region 6 live6_ops false).wp Tryd.prog Q a w := by
  refine z0 rfl ?_
  refine zv rfl (exec_move rfl (zi t1 rfl)) ?_
  refine zv rfl (exec_load rfl (zi t2 rfl) (LP _ rfl)) ?_
  refine zv (v := .func (.func 31) #[] #[.pointer (some ⟨xb, 0, none⟩)]) rfl (exec_mkf1 rfl (zi t3 rfl)) ?_
  refine zc rfl (exec_c4 rfl (zg zz rfl) (zg zz rfl) rfl (zg zz rfl)) (CP) (fun e x3 hx => ?_)
  obtain ⟨bk, rfl, HF⟩ := hx
  replace h := h bk
  refine ⟨_, rfl, ?_⟩
  exact ze rfl (h _ _ (HF) rfl)
def live8_o0 : Oper := { dst := some 26, op := Op.move (Operand.tmp 1), type := 26, pos := "law.go:31", after := #[], guard := none }
def live8_o1 : Oper := { dst := some 27, op := Op.load 52 (Operand.tmp 2), type := 52, pos := "law.go:31", after := #[], guard := none }
def live8_o2 : Oper := { dst := some 28, op := Op.call { callee := Callee.value (Operand.func 20), args := #[Operand.tmp 26, Operand.tmp 27], argTypes := #[26, 52] }, type := 60, pos := "law.go:31", after := #[{ on := 0, ground := Ground.data }, { on := 1, ground := Ground.data }], guard := none }
def live8_o3 : Oper := { dst := some 7, op := Op.assign (Operand.tmp 28), type := 60, pos := "law.go:31", after := #[{ on := 2, ground := Ground.data }, { on := 2, ground := Ground.chain }, { on := 0, ground := Ground.phase }, { on := 1, ground := Ground.phase }, { on := 2, ground := Ground.phase }], guard := none }
def live8_ops : Array Oper := #[live8_o0, live8_o1, live8_o2, live8_o3]
set_option maxRecDepth 100000 in
set_option maxHeartbeats 4000000 in
theorem live8 {rb pb : Nat} {p : PlK} (Fin : Value → World → Prop) (a : Act) (w : World) (Q : Exit → Act → World → Prop) (zz : a.tmps.size = 78)
    (t1 : a.tmps.getD 1 undef = .pointer (some ⟨rb, 0, none⟩))
    (t2 : a.tmps.getD 2 undef = .pointer (some ⟨pb, 0, none⟩))
    (LP : ∀ W, W = w → (Instr.loadAt 52 (.pointer (some ⟨pb, 0, none⟩))).run Tryd.prog W = .ok (p.v) W) (CP : Calls Tryd.prog 20 #[.pointer (some ⟨rb, 0, none⟩), p.v] w fun e w' => ∃ u, e = .returned u ∧ Fin u w')
    (h : ∀ (u : Value) (a' : Act) (w' : World), Fin u w' → a' = ((((a).put (some 26) (.pointer (some ⟨rb, 0, none⟩))).put (some 27) (p.v)).put (some 28) (u)).put (some 7) (u) → Q .normal a' w') :
    (Code.region 8 live8_ops false).wp Tryd.prog Q a w := by
  refine z0 rfl ?_
  refine zv rfl (exec_move rfl (zi t1 rfl)) ?_
  refine zv rfl (exec_load rfl (zi t2 rfl) (LP _ rfl)) ?_
  refine zc rfl (exec_c2 rfl (zg zz rfl) (zg zz rfl)) (CP) (fun e x2 hx => ?_)
  obtain ⟨u, rfl, HF⟩ := hx
  replace h := h u
  refine ⟨_, rfl, ?_⟩
  refine zv rfl (exec_assign rfl (zg zz rfl)) ?_
  exact ze rfl (h _ _ (HF) rfl)
end Go.Proofs.YtldlljobofnmmaaDoor

namespace Go.Proofs.YtldlljobofnmmaaDoor
open Go.RowKit
set_option linter.unusedVariables false
set_option linter.unusedSimpArgs false

def RP : RowT PlK := ⟨PlK.c, PlK.ok, 67, 96, 52, 22, zPl⟩
theorem RP_is : RP.Is := ⟨zPl_ok, fun _ h => PlK.len h, PlK.one, Tryd.underlying22, by kernel_rfl, ⟨_, Tryd.underlying52, rfl⟩, by decide, by decide⟩
theorem szP {u : PlK} (h : u.ok) : (Tryd.prog.info? 52).map (·.size) = some (RP.c u).toArray.size := by
  rw [List.size_toArray]
  show _ = some u.c.length
  rw [PlK.len h]
  exact szPl
theorem pl_box (w : World) : ∃ w2, (Instr.alloc 52 true (.tuple #[])).run Tryd.prog w = .ok (.pointer (some ⟨w.heap.size, 0, none⟩)) w2 ∧ RP.Bx w2 w.heap.size zPl ∧ Below w.heap.size w w2 := ⟨_, RowT.bx_zero RP_is w, heap_alloc_new _ _, (Below.refl _ _).alloc (Nat.le_refl _) _⟩
theorem pl_put {w : World} {b : Nat} {x u : PlK} (hx : x.ok) (hu : u.ok) (h : RP.Bx w b x) : ∃ w', (Instr.storeAt 52 (.pointer (some ⟨b, 0, none⟩)) u.v).run Tryd.prog w = .ok () w' ∧ RP.Bx w' b u ∧ Tch (fun j => j = b) w w' := by
  have t := setRow_tch w b u.c.toArray
  refine ⟨_, RowT.bx_store RP_is hx hu h, setRow_heap w b _ _ _ _ h, t.mono (fun j _ e => ?_)⟩
  simp at e
  exact e.symm
/-- A place's box, written at once. -/
theorem pl_new (w : World) {u : PlK} (hu : u.ok) : ∃ w1 w2, (Instr.alloc 52 true (.tuple #[])).run Tryd.prog w = .ok (.pointer (some ⟨w.heap.size, 0, none⟩)) w1 ∧ (Instr.storeAt 52 (.pointer (some ⟨w.heap.size, 0, none⟩)) u.v).run Tryd.prog w1 = .ok () w2 ∧ RP.Bx w2 w.heap.size u ∧ Below w.heap.size w w2 := by
  obtain ⟨w1, e1, n1, b1⟩ := pl_box w
  obtain ⟨w2, e2, n2, t2⟩ := pl_put zPl_ok hu n1
  exact ⟨w1, w2, e1, e2, n2, b1.trans (t2.below b1.size (fun j e => by rw [e]; exact Nat.le_refl _))⟩
def RI : RowT IdK := ⟨IdK.c, IdK.ok, 33, 40, 38, 43, zId⟩
theorem RI_is : RI.Is := ⟨zId_ok, fun _ h => IdK.len h, IdK.one, Tryd.underlying43, by kernel_rfl, ⟨_, Tryd.underlying38, rfl⟩, by decide, by decide⟩
theorem id_newR (w : World) {u : IdK} (hu : u.ok) : ∃ w1 w2, (Instr.alloc 38 true (.tuple #[])).run Tryd.prog w = .ok (.pointer (some ⟨w.heap.size, 0, none⟩)) w1 ∧ (Instr.storeAt 38 (.pointer (some ⟨w.heap.size, 0, none⟩)) u.v).run Tryd.prog w1 = .ok () w2 ∧ w2.heap[w.heap.size]? = some (.cells u.c.toArray 38 (0, 0)) ∧ Below w.heap.size w w2 :=
  ⟨_, _, RowT.bx_zero RI_is w, RowT.bx_new RI_is w hu, heap_alloc_new _ _, (Below.refl _ _).alloc (Nat.le_refl _) _⟩
/-- The place of a number. -/
def atP (Ps : List PlK) (m : Int) : PlK := if m < 0 then zPl else (Ps[m.toNat]?).getD zPl
theorem atP_ok {Ps : List PlK} (h : ∀ x ∈ Ps, x.ok) (m : Int) : (atP Ps m).ok := by
  unfold atP
  split
  · exact zPl_ok
  · cases e : Ps[m.toNat]? with
    | none => exact zPl_ok
    | some x => exact h x (List.mem_of_getElem? e)
theorem build_pl (w : World) : (Instr.build 52 #[]).run Tryd.prog w = .ok zPl.v w := by kernel_rfl
theorem ix_pl {b o m c i : Nat} (hi : i < m) (hm : m ≤ 9223372036854775807) (W : World) : (Instr.indexAt 22 (.slice (some ⟨b, o, none⟩) m c) (.int .i64 (i : Int))).run Tryd.prog W = .ok (.pointer (some ⟨b, o + i * 67, none⟩)) W := by
  go_simp
set_option maxRecDepth 100000 in
set_option maxHeartbeats 2000000 in
theorem at_any {w : World} {a : Option Addr} {c : Nat} {Ps : List PlK} (hP : RowAt 67 PlK.c w a Ps) (ok : ∀ x ∈ Ps, x.ok) (hn : Ps.length ≤ 2000000000000) {m : Int} (hm : -9223372036854775808 ≤ m ∧ m ≤ 9223372036854775807) :
    Calls Tryd.prog 15 #[.slice a Ps.length c, .int .i64 m] w fun e w' => e = .returned (atP Ps m).v ∧ Below w.heap.size w w' := by
  obtain ⟨w1, e1, n1, b1⟩ := pl_box w
  have H1 := hidMk e1
  obtain ⟨u, hu⟩ : ∃ u, atP Ps m = u := ⟨_, rfl⟩
  have hok : u.ok := by rw [← hu]; exact atP_ok ok m
  obtain ⟨w2, e2, n2, t2⟩ := pl_put zPl_ok hok n1
  have b2 : Below w.heap.size w w2 := b1.trans (t2.below b1.size (fun j e => by rw [e]; exact Nat.le_refl _))
  have H2 := hidMk e2
  have HF := hidMk (And.intro n2 b2)
  rw [hu]
  obtain ⟨n, hnn⟩ : ∃ n, Ps.length = n := ⟨_, rfl⟩
  by_cases h0 : m < 0
  · have hz : u = zPl := by rw [← hu, atP, if_pos h0]
    subst hz
    rw [hnn]
    clear e1 n1 b1 e2 n2 t2 b2 hu hP hnn
    go_enter Tryd.func15, Tryd.ntmps15
    go_wp2_with (first
      | (refine wpList_run rfl (exec_alloc (w2 := w1) rfl H1.out) ?_)
      | (refine wpList_val rfl (exec_build0 rfl (build_pl _)) ?_)
      | (refine wpList_skip rfl rfl (exec_store (w2 := w2) rfl rfl rfl H2.out) ?_)
      | fail)
    refine bodyPost_ret (results_cell_row Tryd.results15 _ _ w.heap.size _ _ _ _ rfl HF.out.1 Tryd.underlying52 rfl (szP hok)) rfl ?_
    exact ⟨rfl, HF.out.2⟩
  · obtain ⟨k, rfl⟩ : ∃ k : Nat, m = (k : Int) := ⟨m.toNat, by omega⟩
    by_cases hk : k < n
    · obtain ⟨x, hx⟩ : ∃ x, Ps[k]? = some x := ⟨_, List.getElem?_eq_getElem (by omega)⟩
      have hz : u = x := by rw [← hu, atP, if_neg h0, Int.toNat_natCast, hx]; rfl
      subst hz
      obtain ⟨g, o, rfl, lg, hr⟩ : ∃ g o, a = some ⟨g, o, none⟩ ∧ g < w.heap.size ∧ w.rangeAt g (o + k * 67) u.c := by
        rcases hP with h | ⟨g, o, e, h1, h2⟩
        · rw [h] at hx; cases hx
        · exact ⟨g, o, e, h1, h2 k u hx⟩
      have HX := hidMk (ld_pl hok (rangeAt_keep hr (b1.block g lg)))
      have HI := hidMk (ix_pl (b := g) (o := o) (c := c) hk (by omega) w1)
      rw [hnn] at hn ⊢
      clear e1 n1 b1 e2 n2 t2 b2 hu hP hnn hr hx lg
      go_enter Tryd.func15, Tryd.ntmps15
      go_wp2_with (first
        | (refine wpList_run rfl (exec_alloc (w2 := w1) rfl H1.out) ?_)
        | (refine wpList_val rfl (exec_indexAt rfl rfl rfl HI.out) ?_)
        | (refine wpList_val rfl (exec_load rfl rfl HX.out) ?_)
        | (refine wpList_skip rfl rfl (exec_store (w2 := w2) rfl rfl rfl H2.out) ?_)
        | fail)
      refine bodyPost_ret (results_cell_row Tryd.results15 _ _ w.heap.size _ _ _ _ rfl HF.out.1 Tryd.underlying52 rfl (szP hok)) rfl ?_
      exact ⟨rfl, HF.out.2⟩
    · have hz : u = zPl := by rw [← hu, atP, if_neg h0, Int.toNat_natCast, List.getElem?_eq_none (by omega)]; rfl
      subst hz
      rw [hnn]
      clear e1 n1 b1 e2 n2 t2 b2 hu hP hnn
      go_enter Tryd.func15, Tryd.ntmps15
      go_wp2_with (first
        | (refine wpList_run rfl (exec_alloc (w2 := w1) rfl H1.out) ?_)
        | (refine wpList_val rfl (exec_build0 rfl (build_pl _)) ?_)
        | (refine wpList_skip rfl rfl (exec_store (w2 := w2) rfl rfl rfl H2.out) ?_)
        | fail)
      refine bodyPost_ret (results_cell_row Tryd.results15 _ _ w.heap.size _ _ _ _ rfl HF.out.1 Tryd.underlying52 rfl (szP hok)) rfl ?_
      exact ⟨rfl, HF.out.2⟩
set_option maxRecDepth 100000 in
set_option maxHeartbeats 2000000 in
/-- live's closure. -/
theorem tells_live {w : World} {xb : Nat} {x : IdK} (hx : x.ok) (hb : w.heap[xb]? = some (.cells x.c.toArray 38 (0, 0))) : Tells w 31 #[.pointer (some ⟨xb, 0, none⟩)] (fun k => decide (k = x)) := by
  refine ⟨enters_of Tryd.func31 (by kernel_rfl) rfl, fun W bW k hk => ?_⟩
  obtain ⟨w1, E1, n1, b1⟩ := box_id W k
  have hW := (bW.block xb (Array.getElem?_eq_some_iff.1 hb).1).trans hb
  have h1 := (b1.block xb (Array.getElem?_eq_some_iff.1 hW).1).trans hW
  have H1 := hidMk E1
  have L1 := hidMk (load_id hk n1)
  have L2 := hidMk (load_id hx h1)
  have HB := hidMk b1
  have EQ := hidMk (eql_idR k x hk hx w1)
  clear E1 n1 b1 hW h1 bW hb
  show Calls Tryd.prog 31 #[k.v, .pointer (some ⟨xb, 0, none⟩)] W _
  go_enter Tryd.func31, Tryd.ntmps31
  go_wp2_with (first
    | (refine wpList_run rfl (exec_boxE (t := 38) (v := k.v) (u := .pointer (some ⟨W.heap.size, 0, none⟩)) (w2 := w1) rfl rfl H1.out) ?_)
    | (refine wpList_val rfl (exec_load (v := k.v) rfl rfl L1.out) ?_)
    | (refine wpList_val rfl (exec_load (v := x.v) rfl rfl L2.out) ?_)
    | (refine wpList_val rfl (exec_binOp rfl rfl rfl (guard_idR _ _ _ _ _ _) EQ.out) ?_)
    | fail)
  go_ret
  exact ⟨rfl, HB.out⟩
end Go.Proofs.YtldlljobofnmmaaDoor

namespace Go.Proofs.YtldlljobofnmmaaDoor
set_option linter.unusedVariables false
set_option linter.unusedSimpArgs false
set_option linter.unusedSectionVars false

namespace Rv
/-- A call: its place, its kind, its value, what it had seen, and what it does to a value that it adds to. -/
structure Sy (P V : Type) where
  pl : P
  kd : Int
  v : V
  kn : Nat → Bool
  su : V → V
section
variable {I P V : Type} [DecidableEq I] [DecidableEq P]
/-- What became of the value of the call i at the place p, behind m calls; and whether it is gone. -/
def tr (S : Nat → Sy P V) (p : P) (i : Nat) : Nat → V × Bool
  | 0 => ((S i).v, false)
  | m + 1 => if m ≤ i then ((S i).v, false) else if (S m).pl = p ∧ (S m).kn i = true then (if (S m).kd = 2 then ((S m).su (tr S p i m).1, (tr S p i m).2) else ((tr S p i m).1, true)) else tr S p i m
/-- The calls that a call had seen. -/
def ids (nm : Nat → I) (s : Sy P V) (i : Nat) : List I := ((List.range i).filter s.kn).map nm
/-- What a call makes of what lies at its place. -/
def op (nm : Nat → I) (i : Nat) (s : Sy P V) (L : List (I × V)) : List (I × V) :=
  if s.kd = 1 then L.filter (fun x => !decide (x.1 ∈ ids nm s i))
  else if s.kd = 2 then L.map (fun x => if decide (x.1 ∈ ids nm s i) then (x.1, s.su x.2) else x)
  else L.filter (fun x => !decide (x.1 ∈ ids nm s i)) ++ [(nm i, s.v)]
end
end Rv
end Go.Proofs.YtldlljobofnmmaaDoor

namespace Go.Proofs.YtldlljobofnmmaaDoor
open Go.ChangeShapes Go.WideShapes Go.ChangeAt Go.RowKit
set_option linter.unusedVariables false
set_option linter.unusedSimpArgs false

/-- A call of a row whose Ids are unlike, as it came in. -/
structure SyR where
  kind : Int
  pl : Int
  v : VaV
  n : Int
  seen : Value
  sl : List Int
def inC (z : Int) : List Value := [.int .i64 z]
def SyR.c (o : SyR) : List Value := (.int .i64 o.kind) :: (.int .i64 o.pl) :: (o.v.c ++ [.int .i64 o.n, o.seen])
def SyR.a (o : SyR) : Value := .agg o.c.toArray
structure SyR.ok (W : World) (o : SyR) : Prop where
  v : o.v.ok
  kind : -9223372036854775808 ≤ o.kind ∧ o.kind ≤ 9223372036854775807
  pl : -9223372036854775808 ≤ o.pl ∧ o.pl ≤ 9223372036854775807
  n : -9223372036854775808 ≤ o.n ∧ o.n ≤ 9223372036854775807
  seen : ∃ a cap, o.seen = .slice a o.sl.length cap ∧ RowAt 1 inC W a o.sl
  len : o.sl.length ≤ 9223372036854775807
  sls : ∀ z ∈ o.sl, -9223372036854775808 ≤ z ∧ z ≤ 9223372036854775807
theorem SyR.ok.below {w w' : World} {o : SyR} (h : o.ok w) (b : Below w.heap.size w w') : o.ok w' := ⟨h.v, h.kind, h.pl, h.n, by
  obtain ⟨a, cap, e, r⟩ := h.seen
  exact ⟨a, cap, e, r.below b⟩, h.len, h.sls⟩
section
variable {H : Type} {enc : TypeId × Value → H} {W : World}
end
/-- What a call says, without memory. -/
def SyR.s (Ps : List PlK) (o : SyR) : Rv.Sy PlK VaV := ⟨atP Ps o.pl, o.kind, o.v, fun i => decide ((i : Int) ∈ o.sl), sumV o.n⟩
end Go.Proofs.YtldlljobofnmmaaDoor

namespace Go.Proofs.YtldlljobofnmmaaDoor
open Go.RowKit
set_option linter.unusedVariables false
set_option linter.unusedSimpArgs false

theorem fg_88_0 (b o : Nat) (w : World) : (Instr.fieldAt 88 (.pointer (some ⟨b, o, none⟩)) 0).run Tryd.prog w = .ok (.pointer (some ⟨b, o + 0, none⟩)) w := by go_simp
theorem fg_88_1 (b o : Nat) (w : World) : (Instr.fieldAt 88 (.pointer (some ⟨b, o, none⟩)) 1).run Tryd.prog w = .ok (.pointer (some ⟨b, o + 1, none⟩)) w := by go_simp
theorem fg_122_0 (b o : Nat) (w : World) : (Instr.fieldAt 122 (.pointer (some ⟨b, o, none⟩)) 0).run Tryd.prog w = .ok (.pointer (some ⟨b, o + 0, none⟩)) w := by go_simp
theorem fg_122_1 (b o : Nat) (w : World) : (Instr.fieldAt 122 (.pointer (some ⟨b, o, none⟩)) 1).run Tryd.prog w = .ok (.pointer (some ⟨b, o + 67, none⟩)) w := by go_simp
theorem ix_idR {b o m c i : Nat} (hi : i < m) (hm : m ≤ 9223372036854775807) (W : World) : (Instr.indexAt 43 (.slice (some ⟨b, o, none⟩) m c) (.int .i64 (i : Int))).run Tryd.prog W = .ok (.pointer (some ⟨b, o + 33 * i, none⟩)) W := by
  rw [Nat.mul_comm]
  go_simp
theorem ix_sl {b o m c i : Nat} (hi : i < m) (hm : m ≤ 9223372036854775807) (W : World) : (Instr.indexAt 85 (.slice (some ⟨b, o, none⟩) m c) (.int .i64 (i : Int))).run Tryd.prog W = .ok (.pointer (some ⟨b, o + 68 * i, none⟩)) W := by
  rw [Nat.mul_comm]
  go_simp
theorem ex_eqlX {w : World} {a : Act} {o : Oper} {x y : Operand} {p q : IdK} (hp : p.ok) (hq : q.ok) (ho : o.op = .binOp .eql 38 x y 38) (hx : a.eval x = p.v) (hy : a.eval y = q.v) : (execOp a.eval o).run Tryd.prog w = .ok (.value (.bool (decide (p = q)))) w := exec_binOp ho hx hy (guard_idR _ _ _ _ _ _) (eql_idR p q hp hq w)
theorem guard_plR (x y : Operand) (a b : PlK) (w : World) (op : BinOp) : (eqGuard op 52 x y a.v b.v).run Tryd.prog w = .ok () w := by
  unfold eqGuard
  cases op <;> simp [PlK.v]
theorem eql_plR (a b : PlK) (ha : a.ok) (hb : b.ok) (w : World) : (binOp .eql 52 a.v b.v).run Tryd.prog w = .ok (.bool (decide (a = b))) w := by
  have h := eqPl 9996 a b ha hb w
  have : (Op.equal 52 a.v b.v).run Tryd.prog w = .ok (decide (a = b)) w := h
  unfold PlK.v at *
  simp only [binOp]
  simp [this]
theorem ex_eqlP {w : World} {a : Act} {o : Oper} {x y : Operand} {p q : PlK} (hp : p.ok) (hq : q.ok) (ho : o.op = .binOp .eql 52 x y 52) (hx : a.eval x = p.v) (hy : a.eval y = q.v) : (execOp a.eval o).run Tryd.prog w = .ok (.value (.bool (decide (p = q)))) w := exec_binOp ho hx hy (guard_plR _ _ _ _ _ _) (eql_plR p q hp hq w)
set_option maxRecDepth 100000 in
theorem build_sl0 (w : World) (ea : Option Addr) (en ec : Nat) (a0 a1 a2 a3 a4 a5 a6 a7 a8 a9 a10 a11 a12 a13 a14 a15 a16 a17 a18 a19 a20 a21 a22 a23 a24 a25 a26 a27 a28 a29 a30 a31 a32 a33 a34 a35 a36 a37 a38 a39 a40 a41 a42 a43 a44 a45 a46 a47 a48 a49 a50 a51 a52 a53 a54 a55 a56 a57 a58 a59 a60 a61 a62 a63 a64 a65 a66 : Value) : (Instr.build 122 #[(0, .agg [a0, a1, a2, a3, a4, a5, a6, a7, a8, a9, a10, a11, a12, a13, a14, a15, a16, a17, a18, a19, a20, a21, a22, a23, a24, a25, a26, a27, a28, a29, a30, a31, a32, a33, a34, a35, a36, a37, a38, a39, a40, a41, a42, a43, a44, a45, a46, a47, a48, a49, a50, a51, a52, a53, a54, a55, a56, a57, a58, a59, a60, a61, a62, a63, a64, a65, a66].toArray), (1, .slice ea en ec)]).run Tryd.prog w = .ok (.agg ([a0, a1, a2, a3, a4, a5, a6, a7, a8, a9, a10, a11, a12, a13, a14, a15, a16, a17, a18, a19, a20, a21, a22, a23, a24, a25, a26, a27, a28, a29, a30, a31, a32, a33, a34, a35, a36, a37, a38, a39, a40, a41, a42, a43, a44, a45, a46, a47, a48, a49, a50, a51, a52, a53, a54, a55, a56, a57, a58, a59, a60, a61, a62, a63, a64, a65, a66] ++ [Value.slice ea en ec]).toArray) w := by kernel_rfl
set_option maxRecDepth 100000 in
theorem build_sl (w : World) {p : PlK} (hp : p.ok) (ea : Option Addr) (en ec : Nat) : (Instr.build 122 #[(0, p.v), (1, .slice ea en ec)]).run Tryd.prog w = .ok (.agg (p.c ++ [Value.slice ea en ec]).toArray) w := by
  have h := PlK.len hp
  unfold PlK.v
  generalize p.c = l at *
  match l, h with
  | a0 :: a1 :: a2 :: a3 :: a4 :: a5 :: a6 :: a7 :: a8 :: a9 :: a10 :: a11 :: a12 :: a13 :: a14 :: a15 :: a16 :: a17 :: a18 :: a19 :: a20 :: a21 :: a22 :: a23 :: a24 :: a25 :: a26 :: a27 :: a28 :: a29 :: a30 :: a31 :: a32 :: a33 :: a34 :: a35 :: a36 :: a37 :: a38 :: a39 :: a40 :: a41 :: a42 :: a43 :: a44 :: a45 :: a46 :: a47 :: a48 :: a49 :: a50 :: a51 :: a52 :: a53 :: a54 :: a55 :: a56 :: a57 :: a58 :: a59 :: a60 :: a61 :: a62 :: a63 :: a64 :: a65 :: a66 :: [], _ => exact build_sl0 w ea en ec a0 a1 a2 a3 a4 a5 a6 a7 a8 a9 a10 a11 a12 a13 a14 a15 a16 a17 a18 a19 a20 a21 a22 a23 a24 a25 a26 a27 a28 a29 a30 a31 a32 a33 a34 a35 a36 a37 a38 a39 a40 a41 a42 a43 a44 a45 a46 a47 a48 a49 a50 a51 a52 a53 a54 a55 a56 a57 a58 a59 a60 a61 a62 a63 a64 a65 a66
theorem exec_bsl {w : World} {a : Act} {o : Oper} {x y : Operand} {p : PlK} {ea : Option Addr} {en ec : Nat} (hp : p.ok) (ho : o.op = .build 122 #[(0, x), (1, y)]) (hx : a.eval x = p.v) (hy : a.eval y = .slice ea en ec) : (execOp a.eval o).run Tryd.prog w = .ok (.value (.agg (p.c ++ [Value.slice ea en ec]).toArray)) w :=
  exec_build ho (by simp [hx, hy]) (build_sl w hp ea en ec)
def saw4_o0 : Oper := { dst := some 12, op := Op.move (Operand.tmp 0), type := 43, pos := "ref.go:46", after := #[], guard := none }
def saw4_o1 : Oper := { dst := some 13, op := Op.move (Operand.tmp 5), type := 3, pos := "ref.go:46", after := #[], guard := none }
def saw4_o2 : Oper := { dst := some 14, op := Op.indexAddr 43 (Operand.tmp 12) (Operand.tmp 13), type := 0, pos := "ref.go:46", after := #[{ on := 0, ground := Ground.data }, { on := 1, ground := Ground.data }], guard := none }
def saw4_o3 : Oper := { dst := some 15, op := Op.load 38 (Operand.tmp 14), type := 38, pos := "ref.go:46", after := #[{ on := 2, ground := Ground.data }], guard := none }
def saw4_o4 : Oper := { dst := some 16, op := Op.load 38 (Operand.tmp 3), type := 38, pos := "ref.go:46", after := #[], guard := none }
def saw4_o5 : Oper := { dst := some 17, op := Op.binOp BinOp.eql 38 (Operand.tmp 15) (Operand.tmp 16) 38, type := 4, pos := "ref.go:46", after := #[{ on := 3, ground := Ground.data }, { on := 4, ground := Ground.data }], guard := none }
def saw4_ops : Array Oper := #[saw4_o0, saw4_o1, saw4_o2, saw4_o3, saw4_o4, saw4_o5]
set_option maxRecDepth 100000 in
set_option maxHeartbeats 4000000 in
theorem saw4 {g o n c i xb : Nat} {x y : IdK} (a : Act) (w : World) (Q : Exit → Act → World → Prop) (zz : a.tmps.size = 18)
    (t0 : a.tmps.getD 0 undef = .slice (some ⟨g, o, none⟩) n c)
    (t3 : a.tmps.getD 3 undef = .pointer (some ⟨xb, 0, none⟩))
    (t5 : a.tmps.getD 5 undef = .int .i64 (i : Int))
    (hx : x.ok) (hy : y.ok) (hi : i < n) (hm : n ≤ 9223372036854775807) (L1 : ∀ W, W = w.drew → (Instr.loadAt 38 (.pointer (some ⟨g, o + 33 * i, none⟩))).run Tryd.prog W = .ok (x.v) W) (L2 : ∀ W, W = w.drew → (Instr.loadAt 38 (.pointer (some ⟨xb, 0, none⟩))).run Tryd.prog W = .ok (y.v) W)
    (h : ∀ (a' : Act) (w' : World), w' = w.drew → a' = ((((((a).put (some 12) (.slice (some ⟨g, o, none⟩) n c)).put (some 13) (.int .i64 (i : Int))).put (some 14) (.pointer (some ⟨g, o + 33 * i, none⟩))).put (some 15) (x.v)).put (some 16) (y.v)).put (some 17) (.bool (decide (x = y))) → Q .normal a' w') :
    (Code.region 4 saw4_ops true).wp Tryd.prog Q a w := by
  refine y0 (fun w' => w' = w.drew) (rfl) (fun hHeld => ?_)
  refine yv 0 rfl rfl (fun w1 hw => exec_move rfl (zi t0 rfl)) hHeld ?_
  refine yv 1 rfl rfl (fun w1 hw => exec_move rfl (zi t5 rfl)) hHeld ?_
  refine yv 2 rfl rfl (fun w1 hw => exec_indexAt rfl (zg zz rfl) (zg zz rfl) (ix_idR hi hm _)) hHeld ?_
  refine yv 3 rfl rfl (fun w1 hw => exec_load rfl (zg zz rfl) (L1 _ hw)) hHeld ?_
  refine yv 4 rfl rfl (fun w1 hw => exec_load rfl (zi t3 rfl) (L2 _ hw)) hHeld ?_
  refine yv (v := .bool (decide (x = y))) 5 rfl rfl (fun w1 hw => ex_eqlX hx hy rfl (zg zz rfl) (zg zz rfl)) hHeld ?_
  exact ye rfl (h _ _ (hHeld) rfl)
def fnd4_o0 : Oper := { dst := some 19, op := Op.move (Operand.tmp 0), type := 28, pos := "ref.go:56", after := #[], guard := none }
def fnd4_o1 : Oper := { dst := some 20, op := Op.nilCheck (Operand.tmp 19), type := 0, pos := "ref.go:56", after := #[{ on := 0, ground := Ground.data }], guard := none }
def fnd4_o2 : Oper := { dst := some 21, op := Op.fieldAddr 88 (Operand.tmp 20) 0, type := 0, pos := "ref.go:56", after := #[{ on := 1, ground := Ground.data }], guard := none }
def fnd4_o3 : Oper := { dst := some 22, op := Op.load 85 (Operand.tmp 21), type := 85, pos := "ref.go:56", after := #[{ on := 2, ground := Ground.data }], guard := none }
def fnd4_o4 : Oper := { dst := some 23, op := Op.move (Operand.tmp 5), type := 3, pos := "ref.go:56", after := #[], guard := none }
def fnd4_o5 : Oper := { dst := some 24, op := Op.indexAddr 85 (Operand.tmp 22) (Operand.tmp 23), type := 0, pos := "ref.go:56", after := #[{ on := 3, ground := Ground.data }, { on := 4, ground := Ground.data }], guard := none }
def fnd4_o6 : Oper := { dst := some 25, op := Op.fieldAddr 122 (Operand.tmp 24) 0, type := 0, pos := "ref.go:56", after := #[{ on := 5, ground := Ground.data }], guard := none }
def fnd4_o7 : Oper := { dst := some 26, op := Op.load 52 (Operand.tmp 25), type := 52, pos := "ref.go:56", after := #[{ on := 6, ground := Ground.data }], guard := none }
def fnd4_o8 : Oper := { dst := some 27, op := Op.load 52 (Operand.tmp 3), type := 52, pos := "ref.go:56", after := #[], guard := none }
def fnd4_o9 : Oper := { dst := some 28, op := Op.binOp BinOp.eql 52 (Operand.tmp 26) (Operand.tmp 27) 52, type := 4, pos := "ref.go:56", after := #[{ on := 7, ground := Ground.data }, { on := 8, ground := Ground.data }], guard := none }
def fnd4_ops : Array Oper := #[fnd4_o0, fnd4_o1, fnd4_o2, fnd4_o3, fnd4_o4, fnd4_o5, fnd4_o6, fnd4_o7, fnd4_o8, fnd4_o9]
set_option maxRecDepth 100000 in
set_option maxHeartbeats 4000000 in
theorem fnd4 {d g o n c i pb : Nat} {x p : PlK} (a : Act) (w : World) (Q : Exit → Act → World → Prop) (zz : a.tmps.size = 30)
    (t0 : a.tmps.getD 0 undef = .pointer (some ⟨d, 0, none⟩))
    (t3 : a.tmps.getD 3 undef = .pointer (some ⟨pb, 0, none⟩))
    (t5 : a.tmps.getD 5 undef = .int .i64 (i : Int))
    (hx : x.ok) (hp : p.ok) (hi : i < n) (hm : n ≤ 9223372036854775807) (L1 : ∀ W, W = w.drew → (Instr.loadAt 85 (.pointer (some ⟨d, 0 + 0, none⟩))).run Tryd.prog W = .ok (.slice (some ⟨g, o, none⟩) n c) W) (L2 : ∀ W, W = w.drew → (Instr.loadAt 52 (.pointer (some ⟨g, o + 68 * i + 0, none⟩))).run Tryd.prog W = .ok (x.v) W) (L3 : ∀ W, W = w.drew → (Instr.loadAt 52 (.pointer (some ⟨pb, 0, none⟩))).run Tryd.prog W = .ok (p.v) W)
    (h : ∀ (a' : Act) (w' : World), w' = w.drew → a' = ((((((((((a).put (some 19) (.pointer (some ⟨d, 0, none⟩))).put (some 20) (.pointer (some ⟨d, 0, none⟩))).put (some 21) (.pointer (some ⟨d, 0 + 0, none⟩))).put (some 22) (.slice (some ⟨g, o, none⟩) n c)).put (some 23) (.int .i64 (i : Int))).put (some 24) (.pointer (some ⟨g, o + 68 * i, none⟩))).put (some 25) (.pointer (some ⟨g, o + 68 * i + 0, none⟩))).put (some 26) (x.v)).put (some 27) (p.v)).put (some 28) (.bool (decide (x = p))) → Q .normal a' w') :
    (Code.region 4 fnd4_ops true).wp Tryd.prog Q a w := by
  refine y0 (fun w' => w' = w.drew) (rfl) (fun hHeld => ?_)
  refine yv 0 rfl rfl (fun w1 hw => exec_move rfl (zi t0 rfl)) hHeld ?_
  refine yv 1 rfl rfl (fun w1 hw => exec_nilCheck rfl (zg zz rfl)) hHeld ?_
  refine yv 2 rfl rfl (fun w1 hw => exec_fieldAt rfl (zg zz rfl) (fg_88_0 _ _ _)) hHeld ?_
  refine yv 3 rfl rfl (fun w1 hw => exec_load rfl (zg zz rfl) (L1 _ hw)) hHeld ?_
  refine yv 4 rfl rfl (fun w1 hw => exec_move rfl (zi t5 rfl)) hHeld ?_
  refine yv 5 rfl rfl (fun w1 hw => exec_indexAt rfl (zg zz rfl) (zg zz rfl) (ix_sl hi hm _)) hHeld ?_
  refine yv 6 rfl rfl (fun w1 hw => exec_fieldAt rfl (zg zz rfl) (fg_122_0 _ _ _)) hHeld ?_
  refine yv 7 rfl rfl (fun w1 hw => exec_load rfl (zg zz rfl) (L2 _ hw)) hHeld ?_
  refine yv 8 rfl rfl (fun w1 hw => exec_load rfl (zi t3 rfl) (L3 _ hw)) hHeld ?_
  refine yv (v := .bool (decide (x = p))) 9 rfl rfl (fun w1 hw => ex_eqlP hx hp rfl (zg zz rfl) (zg zz rfl)) hHeld ?_
  exact ye rfl (h _ _ (hHeld) rfl)
def cpy5_o0 : Oper := { dst := some 11, op := Op.move (Operand.tmp 3), type := 85, pos := "ref.go:27", after := #[], guard := none }
def cpy5_o1 : Oper := { dst := some 12, op := Op.move (Operand.tmp 0), type := 85, pos := "ref.go:27", after := #[], guard := none }
def cpy5_o2 : Oper := { dst := some 13, op := Op.move (Operand.tmp 4), type := 3, pos := "ref.go:27", after := #[], guard := none }
def cpy5_o3 : Oper := { dst := some 14, op := Op.indexAddr 85 (Operand.tmp 12) (Operand.tmp 13), type := 0, pos := "ref.go:27", after := #[{ on := 1, ground := Ground.data }, { on := 2, ground := Ground.data }], guard := none }
def cpy5_o4 : Oper := { dst := some 15, op := Op.fieldAddr 122 (Operand.tmp 14) 0, type := 0, pos := "ref.go:27", after := #[{ on := 3, ground := Ground.data }], guard := none }
def cpy5_o5 : Oper := { dst := some 16, op := Op.load 52 (Operand.tmp 15), type := 52, pos := "ref.go:27", after := #[{ on := 4, ground := Ground.data }], guard := none }
def cpy5_o6 : Oper := { dst := some 17, op := Op.buildSlice 60 0 #[], type := 60, pos := "ref.go:27", after := #[], guard := none }
def cpy5_o7 : Oper := { dst := some 18, op := Op.move (Operand.tmp 0), type := 85, pos := "ref.go:27", after := #[], guard := none }
def cpy5_o8 : Oper := { dst := some 19, op := Op.move (Operand.tmp 4), type := 3, pos := "ref.go:27", after := #[], guard := none }
def cpy5_o9 : Oper := { dst := some 20, op := Op.indexAddr 85 (Operand.tmp 18) (Operand.tmp 19), type := 0, pos := "ref.go:27", after := #[{ on := 7, ground := Ground.data }, { on := 8, ground := Ground.data }], guard := none }
def cpy5_o10 : Oper := { dst := some 21, op := Op.fieldAddr 122 (Operand.tmp 20) 1, type := 0, pos := "ref.go:27", after := #[{ on := 9, ground := Ground.data }], guard := none }
def cpy5_o11 : Oper := { dst := some 22, op := Op.load 60 (Operand.tmp 21), type := 60, pos := "ref.go:27", after := #[{ on := 10, ground := Ground.data }], guard := none }
def cpy5_o12 : Oper := { dst := some 23, op := Op.call { callee := Callee.builtin Builtin.append, args := #[Operand.tmp 17, Operand.tmp 22], argTypes := #[60, 60] }, type := 60, pos := "ref.go:27", after := #[{ on := 6, ground := Ground.data }, { on := 11, ground := Ground.data }], guard := none }
def cpy5_o13 : Oper := { dst := some 24, op := Op.build 122 #[(0, Operand.tmp 16), (1, Operand.tmp 23)], type := 122, pos := "ref.go:27", after := #[{ on := 5, ground := Ground.data }, { on := 12, ground := Ground.data }], guard := none }
def cpy5_o14 : Oper := { dst := some 25, op := Op.buildSlice 85 1 #[(0, Operand.tmp 24)], type := 85, pos := "ref.go:27", after := #[{ on := 13, ground := Ground.data }], guard := none }
def cpy5_o15 : Oper := { dst := some 26, op := Op.call { callee := Callee.builtin Builtin.append, args := #[Operand.tmp 11, Operand.tmp 25], argTypes := #[85, 85] }, type := 85, pos := "ref.go:27", after := #[{ on := 0, ground := Ground.data }, { on := 14, ground := Ground.data }, { on := 12, ground := Ground.chain }], guard := none }
def cpy5_o16 : Oper := { dst := some 3, op := Op.assign (Operand.tmp 26), type := 85, pos := "ref.go:27", after := #[{ on := 15, ground := Ground.data }, { on := 15, ground := Ground.chain }, { on := 0, ground := Ground.phase }, { on := 1, ground := Ground.phase }, { on := 2, ground := Ground.phase }, { on := 3, ground := Ground.phase }, { on := 4, ground := Ground.phase }, { on := 5, ground := Ground.phase }, { on := 6, ground := Ground.phase }, { on := 7, ground := Ground.phase }, { on := 8, ground := Ground.phase }, { on := 9, ground := Ground.phase }, { on := 10, ground := Ground.phase }, { on := 11, ground := Ground.phase }, { on := 12, ground := Ground.phase }, { on := 13, ground := Ground.phase }, { on := 14, ground := Ground.phase }, { on := 15, ground := Ground.phase }], guard := none }
def cpy5_ops : Array Oper := #[cpy5_o0, cpy5_o1, cpy5_o2, cpy5_o3, cpy5_o4, cpy5_o5, cpy5_o6, cpy5_o7, cpy5_o8, cpy5_o9, cpy5_o10, cpy5_o11, cpy5_o12, cpy5_o13, cpy5_o14, cpy5_o15, cpy5_o16]
set_option maxRecDepth 100000 in
set_option maxHeartbeats 4000000 in
theorem cpy5 {g o n c i en ec : Nat} {ea : Option Addr} {p : PlK} {lv ov e0 bv ov2 : Value} {w1 w2 w3 w4 : World} (S : World → Prop) (a : Act) (w : World) (Q : Exit → Act → World → Prop) (zz : a.tmps.size = 28)
    (t0 : a.tmps.getD 0 undef = .slice (some ⟨g, o, none⟩) n c)
    (t3 : a.tmps.getD 3 undef = ov)
    (t4 : a.tmps.getD 4 undef = .int .i64 (i : Int))
    (hp : p.ok) (hi : i < n) (hm : n ≤ 9223372036854775807) (h0 : S w.drew) (L1 : ∀ W, S W → (Instr.loadAt 52 (.pointer (some ⟨g, o + 68 * i + 0, none⟩))).run Tryd.prog W = .ok (p.v) W) (L2 : ∀ W, S W → (Instr.loadAt 60 (.pointer (some ⟨g, o + 68 * i + 67, none⟩))).run Tryd.prog W = .ok (lv) W) (E1 : (Instr.buildSlice 60 0 #[]).run Tryd.prog w.drew = .ok e0 w1) (S1 : S w1) (E2 : (Builtin.append_ #[60, 60] 60 #[e0, lv]).run Tryd.prog w1 = .ok (.slice ea en ec) w2) (S2 : S w2) (E3 : (Instr.buildSlice 85 1 #[(0, .agg (p.c ++ [Value.slice ea en ec]).toArray)]).run Tryd.prog w2 = .ok bv w3) (S3 : S w3) (E4 : (Builtin.append_ #[85, 85] 85 #[ov, bv]).run Tryd.prog w3 = .ok ov2 w4) (S4 : S w4)
    (h : ∀ (a' : Act) (w' : World), w' = w4 → a' = (((((((((((((((((a).put (some 11) (ov)).put (some 12) (.slice (some ⟨g, o, none⟩) n c)).put (some 13) (.int .i64 (i : Int))).put (some 14) (.pointer (some ⟨g, o + 68 * i, none⟩))).put (some 15) (.pointer (some ⟨g, o + 68 * i + 0, none⟩))).put (some 16) (p.v)).put (some 18) (.slice (some ⟨g, o, none⟩) n c)).put (some 19) (.int .i64 (i : Int))).put (some 20) (.pointer (some ⟨g, o + 68 * i, none⟩))).put (some 21) (.pointer (some ⟨g, o + 68 * i + 67, none⟩))).put (some 22) (lv)).put (some 17) (e0)).put (some 23) (.slice ea en ec)).put (some 24) (.agg (p.c ++ [Value.slice ea en ec]).toArray)).put (some 25) (bv)).put (some 26) (ov2)).put (some 3) (ov2) → Q .normal a' w') :
    (Code.region 5 cpy5_ops true).wp Tryd.prog Q a w := by
  refine y0 (fun w' => S w') (h0) (fun hHeld => ?_)
  refine yv 0 rfl rfl (fun w1 hw => exec_move rfl (zi t3 rfl)) hHeld ?_
  refine yv 1 rfl rfl (fun w1 hw => exec_move rfl (zi t0 rfl)) hHeld ?_
  refine yv 2 rfl rfl (fun w1 hw => exec_move rfl (zi t4 rfl)) hHeld ?_
  refine yv 3 rfl rfl (fun w1 hw => exec_indexAt rfl (zg zz rfl) (zg zz rfl) (ix_sl hi hm _)) hHeld ?_
  refine yv 4 rfl rfl (fun w1 hw => exec_fieldAt rfl (zg zz rfl) (fg_122_0 _ _ _)) hHeld ?_
  refine yv 5 rfl rfl (fun w1 hw => exec_load rfl (zg zz rfl) (L1 _ hw)) hHeld ?_
  refine yv 7 rfl rfl (fun w1 hw => exec_move rfl (zi t0 rfl)) hHeld ?_
  refine yv 8 rfl rfl (fun w1 hw => exec_move rfl (zi t4 rfl)) hHeld ?_
  refine yv 9 rfl rfl (fun w1 hw => exec_indexAt rfl (zg zz rfl) (zg zz rfl) (ix_sl hi hm _)) hHeld ?_
  refine yv 10 rfl rfl (fun w1 hw => exec_fieldAt rfl (zg zz rfl) (fg_122_1 _ _ _)) hHeld ?_
  refine yv 11 rfl rfl (fun w1 hw => exec_load rfl (zg zz rfl) (L2 _ hw)) hHeld ?_
  refine yr (v := e0) 6 rfl rfl (exec_bs0 rfl E1) (S1) (fun hHeld => ?_)
  refine yr (v := .slice ea en ec) 12 rfl rfl (exec_append rfl (zg zz rfl) (zg zz rfl) E2) (S2) (fun hHeld => ?_)
  refine yv (v := .agg (p.c ++ [Value.slice ea en ec]).toArray) 13 rfl rfl (fun w1 hw => exec_bsl hp rfl (zg zz rfl) (zg zz rfl)) hHeld ?_
  refine yr (v := bv) 14 rfl rfl (exec_buildSlice rfl (zg zz rfl) E3) (S3) (fun hHeld => ?_)
  refine yr (v := ov2) 15 rfl rfl (exec_append rfl (zg zz rfl) (zg zz rfl) E4) (S4) (fun hHeld => ?_)
  refine yv 16 rfl rfl (fun w1 hw => exec_assign rfl (zg zz rfl)) hHeld ?_
  exact ye rfl (h _ _ (rfl) rfl)
end Go.Proofs.YtldlljobofnmmaaDoor

