import Derived.Test.YtlejbdepoemcjaaZr
import Derived.Test.YtlejbdepoemcjaaP0
namespace Go.Proofs.Ytlejbdepoemcjaa
open Go.RowKit Sq
set_option linter.unusedVariables false
set_option linter.unusedSimpArgs false

def oneId : IdK := ⟨zId.h, 1⟩
theorem oneId_ok : oneId.ok := ⟨zId_ok.l, by decide, by decide⟩
theorem build_one (w : World) : (Instr.build 32 #[(1, .int .i64 1)]).run Try.prog w = .ok oneId.v w := by kernel_rfl
def twn8_o0 : Oper := { dst := some 29, op := Op.move (Operand.tmp 0), type := 79, pos := "top05.go:19", after := #[], guard := none }
def twn8_o1 : Oper := { dst := some 30, op := Op.move (Operand.tmp 10), type := 3, pos := "top05.go:19", after := #[], guard := none }
def twn8_o2 : Oper := { dst := some 31, op := Op.indexAddr 79 (Operand.tmp 29) (Operand.tmp 30), type := 0, pos := "top05.go:19", after := #[{ on := 0, ground := Ground.data }, { on := 1, ground := Ground.data }], guard := none }
def twn8_o3 : Oper := { dst := some 32, op := Op.fieldAddr 81 (Operand.tmp 31) 0, type := 0, pos := "top05.go:19", after := #[{ on := 2, ground := Ground.data }], guard := none }
def twn8_o4 : Oper := { dst := some 33, op := Op.load 32 (Operand.tmp 32), type := 32, pos := "top05.go:19", after := #[{ on := 3, ground := Ground.data }], guard := none }
def twn8_o5 : Oper := { dst := some 34, op := Op.move (Operand.tmp 0), type := 79, pos := "top05.go:19", after := #[], guard := none }
def twn8_o6 : Oper := { dst := some 35, op := Op.move (Operand.tmp 9), type := 3, pos := "top05.go:19", after := #[], guard := none }
def twn8_o7 : Oper := { dst := some 36, op := Op.indexAddr 79 (Operand.tmp 34) (Operand.tmp 35), type := 0, pos := "top05.go:19", after := #[{ on := 5, ground := Ground.data }, { on := 6, ground := Ground.data }], guard := none }
def twn8_o8 : Oper := { dst := some 37, op := Op.fieldAddr 81 (Operand.tmp 36) 0, type := 0, pos := "top05.go:19", after := #[{ on := 7, ground := Ground.data }], guard := none }
def twn8_o9 : Oper := { dst := some 38, op := Op.load 32 (Operand.tmp 37), type := 32, pos := "top05.go:19", after := #[{ on := 8, ground := Ground.data }], guard := none }
def twn8_o10 : Oper := { dst := some 39, op := Op.binOp BinOp.eql 32 (Operand.tmp 33) (Operand.tmp 38) 32, type := 4, pos := "top05.go:19", after := #[{ on := 4, ground := Ground.data }, { on := 9, ground := Ground.data }], guard := none }
def twn8_ops : Array Oper := #[twn8_o0, twn8_o1, twn8_o2, twn8_o3, twn8_o4, twn8_o5, twn8_o6, twn8_o7, twn8_o8, twn8_o9, twn8_o10]
set_option maxRecDepth 100000 in
set_option maxHeartbeats 4000000 in
theorem twn8 {pb po m pc i : Nat} {p : PutV} {k : Nat} {q : PutV} {r : Bool} (a : Act) (w : World) (Q : Exit → Act → World → Prop) (zz : a.tmps.size = 132)
    (t0 : a.tmps.getD 0 undef = .slice (some ⟨pb, po, none⟩) m pc)
    (t9 : a.tmps.getD 9 undef = .int .i64 (i : Int))
    (t10 : a.tmps.getD 10 undef = .int .i64 (k : Int))
    (hp : p.ok) (hi : i < m) (hm : m ≤ 1400000000000) (hq : q.ok) (hk : k < m) (h0 : w.drew.rangeAt pb (po + 66 * i) p.c) (h1 : w.drew.rangeAt pb (po + 66 * k) q.c) (hr : decide (q.id = p.id) = r)
    (h : ∀ (a' : Act) (w' : World), w' = w.drew → a' = (((((((((((a).put (some 29) (.slice (some ⟨pb, po, none⟩) m pc)).put (some 30) (.int .i64 (k : Int))).put (some 31) (.pointer (some ⟨pb, po + 66 * k, none⟩))).put (some 32) (.pointer (some ⟨pb, po + 66 * k + 0, none⟩))).put (some 33) (q.id.v)).put (some 34) (.slice (some ⟨pb, po, none⟩) m pc)).put (some 35) (.int .i64 (i : Int))).put (some 36) (.pointer (some ⟨pb, po + 66 * i, none⟩))).put (some 37) (.pointer (some ⟨pb, po + 66 * i + 0, none⟩))).put (some 38) (p.id.v)).put (some 39) (.bool r) → Q .normal a' w') :
    (Code.region 8 twn8_ops true).wp Try.prog Q a w := by
  refine y0 (fun w' => w' = w.drew) (rfl) (fun hHeld => ?_)
  refine yv 0 rfl rfl (fun w1 hw => exec_move rfl (zi t0 rfl)) hHeld ?_
  refine yv 1 rfl rfl (fun w1 hw => exec_move rfl (zi t10 rfl)) hHeld ?_
  refine yv 2 rfl rfl (fun w1 hw => exec_indexAt rfl (zg zz rfl) (zg zz rfl) (ix_put5 hk hm _)) hHeld ?_
  refine yv 3 rfl rfl (fun w1 hw => exec_fieldAt rfl (zg zz rfl) (fg_81_0 _ _ _)) hHeld ?_
  refine yv 4 rfl rfl (fun w1 hw => exec_load rfl (zg zz rfl) (ld_pid hq (hw ▸ h1 : World.rangeAt _ pb (po + 66 * k) q.c))) hHeld ?_
  refine yv 5 rfl rfl (fun w1 hw => exec_move rfl (zi t0 rfl)) hHeld ?_
  refine yv 6 rfl rfl (fun w1 hw => exec_move rfl (zi t9 rfl)) hHeld ?_
  refine yv 7 rfl rfl (fun w1 hw => exec_indexAt rfl (zg zz rfl) (zg zz rfl) (ix_put5 hi hm _)) hHeld ?_
  refine yv 8 rfl rfl (fun w1 hw => exec_fieldAt rfl (zg zz rfl) (fg_81_0 _ _ _)) hHeld ?_
  refine yv 9 rfl rfl (fun w1 hw => exec_load rfl (zg zz rfl) (ld_pid hp (hw ▸ h0 : World.rangeAt _ pb (po + 66 * i) p.c))) hHeld ?_
  refine yv (v := .bool r) 10 rfl rfl (fun w1 hw => ex_eqlI rfl (zg zz rfl) (zg zz rfl) hq.id hp.id hr) hHeld ?_
  exact ye rfl (h _ _ (hHeld) rfl)
def twn11_o0 : Oper := { dst := some 50, op := Op.move (Operand.tmp 7), type := 23, pos := "top05.go:24", after := #[], guard := none }
def twn11_o1 : Oper := { dst := some 51, op := Op.move (Operand.tmp 0), type := 79, pos := "top05.go:24", after := #[], guard := none }
def twn11_o2 : Oper := { dst := some 52, op := Op.move (Operand.tmp 9), type := 3, pos := "top05.go:24", after := #[], guard := none }
def twn11_o3 : Oper := { dst := some 53, op := Op.indexAddr 79 (Operand.tmp 51) (Operand.tmp 52), type := 0, pos := "top05.go:24", after := #[{ on := 1, ground := Ground.data }, { on := 2, ground := Ground.data }], guard := none }
def twn11_o4 : Oper := { dst := some 54, op := Op.fieldAddr 81 (Operand.tmp 53) 0, type := 0, pos := "top05.go:24", after := #[{ on := 3, ground := Ground.data }], guard := none }
def twn11_o5 : Oper := { dst := some 55, op := Op.load 32 (Operand.tmp 54), type := 32, pos := "top05.go:24", after := #[{ on := 4, ground := Ground.data }], guard := none }
def twn11_o6 : Oper := { dst := some 56, op := Op.move (Operand.tmp 0), type := 79, pos := "top05.go:24", after := #[], guard := none }
def twn11_o7 : Oper := { dst := some 57, op := Op.move (Operand.tmp 9), type := 3, pos := "top05.go:24", after := #[], guard := none }
def twn11_o8 : Oper := { dst := some 58, op := Op.indexAddr 79 (Operand.tmp 56) (Operand.tmp 57), type := 0, pos := "top05.go:24", after := #[{ on := 6, ground := Ground.data }, { on := 7, ground := Ground.data }], guard := none }
def twn11_o9 : Oper := { dst := some 59, op := Op.fieldAddr 81 (Operand.tmp 58) 1, type := 0, pos := "top05.go:24", after := #[{ on := 8, ground := Ground.data }], guard := none }
def twn11_o10 : Oper := { dst := some 60, op := Op.load 32 (Operand.tmp 59), type := 32, pos := "top05.go:24", after := #[{ on := 9, ground := Ground.data }], guard := none }
def twn11_o11 : Oper := { dst := some 61, op := Op.call { callee := Callee.value (Operand.func 10), args := #[Operand.tmp 50, Operand.tmp 55, Operand.tmp 60], argTypes := #[23, 32, 32] }, type := 36, pos := "top05.go:24", after := #[{ on := 0, ground := Ground.data }, { on := 5, ground := Ground.data }, { on := 10, ground := Ground.data }], guard := none }
def twn11_ops : Array Oper := #[twn11_o0, twn11_o1, twn11_o2, twn11_o3, twn11_o4, twn11_o5, twn11_o6, twn11_o7, twn11_o8, twn11_o9, twn11_o10, twn11_o11]
set_option maxRecDepth 100000 in
set_option maxHeartbeats 4000000 in
theorem twn11 {pb po m pc i : Nat} {p : PutV} {sb : Nat} (Fin : World → Prop) (a : Act) (w : World) (Q : Exit → Act → World → Prop) (zz : a.tmps.size = 132)
    (t0 : a.tmps.getD 0 undef = .slice (some ⟨pb, po, none⟩) m pc)
    (t7 : a.tmps.getD 7 undef = .pointer (some ⟨sb, 0, none⟩))
    (t9 : a.tmps.getD 9 undef = .int .i64 (i : Int))
    (hp : p.ok) (hi : i < m) (hm : m ≤ 1400000000000) (h0 : w.drew.rangeAt pb (po + 66 * i) p.c) (CI : Calls Try.prog 10 #[.pointer (some ⟨sb, 0, none⟩), p.id.v, p.bh.v] w.drew fun e w' => ∃ c : Int, e = .returned (.int .i64 c) ∧ w'.rangeAt pb (po + 66 * i) p.c ∧ Fin w')
    (h : ∀ (c : Int) (a' : Act) (w' : World), Fin w' → a' = ((((((((((((a).put (some 50) (.pointer (some ⟨sb, 0, none⟩))).put (some 51) (.slice (some ⟨pb, po, none⟩) m pc)).put (some 52) (.int .i64 (i : Int))).put (some 53) (.pointer (some ⟨pb, po + 66 * i, none⟩))).put (some 54) (.pointer (some ⟨pb, po + 66 * i + 0, none⟩))).put (some 55) (p.id.v)).put (some 56) (.slice (some ⟨pb, po, none⟩) m pc)).put (some 57) (.int .i64 (i : Int))).put (some 58) (.pointer (some ⟨pb, po + 66 * i, none⟩))).put (some 59) (.pointer (some ⟨pb, po + 66 * i + 33, none⟩))).put (some 60) (p.bh.v)).put (some 61) (.int .i64 c) → Q .normal a' w') :
    (Code.region 11 twn11_ops true).wp Try.prog Q a w := by
  refine y0 (fun w' => w'.rangeAt pb (po + 66 * i) p.c) (h0) (fun hHeld => ?_)
  refine yv 0 rfl rfl (fun w1 hw => exec_move rfl (zi t7 rfl)) hHeld ?_
  refine yv 1 rfl rfl (fun w1 hw => exec_move rfl (zi t0 rfl)) hHeld ?_
  refine yv 2 rfl rfl (fun w1 hw => exec_move rfl (zi t9 rfl)) hHeld ?_
  refine yv 3 rfl rfl (fun w1 hw => exec_indexAt rfl (zg zz rfl) (zg zz rfl) (ix_put5 hi hm _)) hHeld ?_
  refine yv 4 rfl rfl (fun w1 hw => exec_fieldAt rfl (zg zz rfl) (fg_81_0 _ _ _)) hHeld ?_
  refine yv 5 rfl rfl (fun w1 hw => exec_load rfl (zg zz rfl) (ld_pid hp hw)) hHeld ?_
  refine yv 6 rfl rfl (fun w1 hw => exec_move rfl (zi t0 rfl)) hHeld ?_
  refine yv 7 rfl rfl (fun w1 hw => exec_move rfl (zi t9 rfl)) hHeld ?_
  refine yv 8 rfl rfl (fun w1 hw => exec_indexAt rfl (zg zz rfl) (zg zz rfl) (ix_put5 hi hm _)) hHeld ?_
  refine yv 9 rfl rfl (fun w1 hw => exec_fieldAt rfl (zg zz rfl) (fg_81_1 _ _ _)) hHeld ?_
  refine yv 10 rfl rfl (fun w1 hw => exec_load rfl (zg zz rfl) (ld_pbh hp hw)) hHeld ?_
  refine yc 11 rfl rfl (exec_c3 rfl (zg zz rfl) (zg zz rfl) (zg zz rfl)) (CI) (fun e x11 hx => ?_)
  obtain ⟨c, rfl, S1, HF⟩ := hx
  replace h := h c
  refine ⟨_, rfl, S1, fun hHeld => ?_⟩
  exact ye rfl (h _ _ (HF) rfl)
def twn13_o0 : Oper := { dst := some 72, op := Op.move (Operand.tmp 8), type := 23, pos := "top05.go:27", after := #[], guard := none }
def twn13_o1 : Oper := { dst := some 73, op := Op.move (Operand.tmp 0), type := 79, pos := "top05.go:27", after := #[], guard := none }
def twn13_o2 : Oper := { dst := some 74, op := Op.move (Operand.tmp 9), type := 3, pos := "top05.go:27", after := #[], guard := none }
def twn13_o3 : Oper := { dst := some 75, op := Op.indexAddr 79 (Operand.tmp 73) (Operand.tmp 74), type := 0, pos := "top05.go:27", after := #[{ on := 1, ground := Ground.data }, { on := 2, ground := Ground.data }], guard := none }
def twn13_o4 : Oper := { dst := some 76, op := Op.fieldAddr 81 (Operand.tmp 75) 0, type := 0, pos := "top05.go:27", after := #[{ on := 3, ground := Ground.data }], guard := none }
def twn13_o5 : Oper := { dst := some 77, op := Op.load 32 (Operand.tmp 76), type := 32, pos := "top05.go:27", after := #[{ on := 4, ground := Ground.data }], guard := none }
def twn13_o6 : Oper := { dst := some 78, op := Op.move (Operand.tmp 0), type := 79, pos := "top05.go:27", after := #[], guard := none }
def twn13_o7 : Oper := { dst := some 79, op := Op.move (Operand.tmp 9), type := 3, pos := "top05.go:27", after := #[], guard := none }
def twn13_o8 : Oper := { dst := some 80, op := Op.indexAddr 79 (Operand.tmp 78) (Operand.tmp 79), type := 0, pos := "top05.go:27", after := #[{ on := 6, ground := Ground.data }, { on := 7, ground := Ground.data }], guard := none }
def twn13_o9 : Oper := { dst := some 81, op := Op.fieldAddr 81 (Operand.tmp 80) 1, type := 0, pos := "top05.go:27", after := #[{ on := 8, ground := Ground.data }], guard := none }
def twn13_o10 : Oper := { dst := some 82, op := Op.load 32 (Operand.tmp 81), type := 32, pos := "top05.go:27", after := #[{ on := 9, ground := Ground.data }], guard := none }
def twn13_o11 : Oper := { dst := some 83, op := Op.call { callee := Callee.value (Operand.func 10), args := #[Operand.tmp 72, Operand.tmp 77, Operand.tmp 82], argTypes := #[23, 32, 32] }, type := 36, pos := "top05.go:27", after := #[{ on := 0, ground := Ground.data }, { on := 5, ground := Ground.data }, { on := 10, ground := Ground.data }], guard := none }
def twn13_ops : Array Oper := #[twn13_o0, twn13_o1, twn13_o2, twn13_o3, twn13_o4, twn13_o5, twn13_o6, twn13_o7, twn13_o8, twn13_o9, twn13_o10, twn13_o11]
set_option maxRecDepth 100000 in
set_option maxHeartbeats 4000000 in
theorem twn13 {pb po m pc i : Nat} {p : PutV} {sb : Nat} (Fin : World → Prop) (a : Act) (w : World) (Q : Exit → Act → World → Prop) (zz : a.tmps.size = 132)
    (t0 : a.tmps.getD 0 undef = .slice (some ⟨pb, po, none⟩) m pc)
    (t8 : a.tmps.getD 8 undef = .pointer (some ⟨sb, 0, none⟩))
    (t9 : a.tmps.getD 9 undef = .int .i64 (i : Int))
    (hp : p.ok) (hi : i < m) (hm : m ≤ 1400000000000) (h0 : w.drew.rangeAt pb (po + 66 * i) p.c) (CI : Calls Try.prog 10 #[.pointer (some ⟨sb, 0, none⟩), p.id.v, p.bh.v] w.drew fun e w' => ∃ c : Int, e = .returned (.int .i64 c) ∧ w'.rangeAt pb (po + 66 * i) p.c ∧ Fin w')
    (h : ∀ (c : Int) (a' : Act) (w' : World), Fin w' → a' = ((((((((((((a).put (some 72) (.pointer (some ⟨sb, 0, none⟩))).put (some 73) (.slice (some ⟨pb, po, none⟩) m pc)).put (some 74) (.int .i64 (i : Int))).put (some 75) (.pointer (some ⟨pb, po + 66 * i, none⟩))).put (some 76) (.pointer (some ⟨pb, po + 66 * i + 0, none⟩))).put (some 77) (p.id.v)).put (some 78) (.slice (some ⟨pb, po, none⟩) m pc)).put (some 79) (.int .i64 (i : Int))).put (some 80) (.pointer (some ⟨pb, po + 66 * i, none⟩))).put (some 81) (.pointer (some ⟨pb, po + 66 * i + 33, none⟩))).put (some 82) (p.bh.v)).put (some 83) (.int .i64 c) → Q .normal a' w') :
    (Code.region 13 twn13_ops true).wp Try.prog Q a w := by
  refine y0 (fun w' => w'.rangeAt pb (po + 66 * i) p.c) (h0) (fun hHeld => ?_)
  refine yv 0 rfl rfl (fun w1 hw => exec_move rfl (zi t8 rfl)) hHeld ?_
  refine yv 1 rfl rfl (fun w1 hw => exec_move rfl (zi t0 rfl)) hHeld ?_
  refine yv 2 rfl rfl (fun w1 hw => exec_move rfl (zi t9 rfl)) hHeld ?_
  refine yv 3 rfl rfl (fun w1 hw => exec_indexAt rfl (zg zz rfl) (zg zz rfl) (ix_put5 hi hm _)) hHeld ?_
  refine yv 4 rfl rfl (fun w1 hw => exec_fieldAt rfl (zg zz rfl) (fg_81_0 _ _ _)) hHeld ?_
  refine yv 5 rfl rfl (fun w1 hw => exec_load rfl (zg zz rfl) (ld_pid hp hw)) hHeld ?_
  refine yv 6 rfl rfl (fun w1 hw => exec_move rfl (zi t0 rfl)) hHeld ?_
  refine yv 7 rfl rfl (fun w1 hw => exec_move rfl (zi t9 rfl)) hHeld ?_
  refine yv 8 rfl rfl (fun w1 hw => exec_indexAt rfl (zg zz rfl) (zg zz rfl) (ix_put5 hi hm _)) hHeld ?_
  refine yv 9 rfl rfl (fun w1 hw => exec_fieldAt rfl (zg zz rfl) (fg_81_1 _ _ _)) hHeld ?_
  refine yv 10 rfl rfl (fun w1 hw => exec_load rfl (zg zz rfl) (ld_pbh hp hw)) hHeld ?_
  refine yc 11 rfl rfl (exec_c3 rfl (zg zz rfl) (zg zz rfl) (zg zz rfl)) (CI) (fun e x11 hx => ?_)
  obtain ⟨c, rfl, S1, HF⟩ := hx
  replace h := h c
  refine ⟨_, rfl, S1, fun hHeld => ?_⟩
  exact ye rfl (h _ _ (HF) rfl)
def twn10_o0 : Oper := { dst := some 40, op := Op.move (Operand.tmp 9), type := 3, pos := "top05.go:23", after := #[], guard := none }
def twn10_o1 : Oper := { dst := some 41, op := Op.move (Operand.tmp 1), type := 80, pos := "top05.go:23", after := #[], guard := none }
def twn10_o2 : Oper := { dst := some 42, op := Op.call { callee := Callee.builtin Builtin.len, args := #[Operand.tmp 41], argTypes := #[80] }, type := 3, pos := "top05.go:23", after := #[{ on := 1, ground := Ground.data }], guard := none }
def twn10_o3 : Oper := { dst := some 43, op := Op.binOp BinOp.lss 3 (Operand.tmp 40) (Operand.tmp 42) 3, type := 4, pos := "top05.go:23", after := #[{ on := 0, ground := Ground.data }, { on := 2, ground := Ground.data }], guard := none }
def twn10_o4 : Oper := { dst := some 44, op := Op.move (Operand.tmp 43), type := 4, pos := "top05.go:23", after := #[{ on := 3, ground := Ground.data }], guard := none }
def twn10_o5 : Oper := { dst := some 45, op := Op.move (Operand.tmp 1), type := 80, pos := "top05.go:23", after := #[{ on := 4, ground := Ground.guard }], guard := some (4, true) }
def twn10_o6 : Oper := { dst := some 46, op := Op.move (Operand.tmp 9), type := 3, pos := "top05.go:23", after := #[{ on := 4, ground := Ground.guard }], guard := some (4, true) }
def twn10_o7 : Oper := { dst := some 47, op := Op.indexAddr 80 (Operand.tmp 45) (Operand.tmp 46), type := 0, pos := "top05.go:23", after := #[{ on := 5, ground := Ground.data }, { on := 6, ground := Ground.data }, { on := 4, ground := Ground.guard }], guard := some (4, true) }
def twn10_o8 : Oper := { dst := some 48, op := Op.load 4 (Operand.tmp 47), type := 4, pos := "top05.go:23", after := #[{ on := 7, ground := Ground.data }, { on := 4, ground := Ground.guard }], guard := some (4, true) }
def twn10_o9 : Oper := { dst := some 49, op := Op.pick (Operand.tmp 44) (Operand.tmp 48) (Operand.const (Value.bool false)), type := 4, pos := "top05.go:23", after := #[{ on := 4, ground := Ground.data }, { on := 8, ground := Ground.data }], guard := none }
def twn10_ops : Array Oper := #[twn10_o0, twn10_o1, twn10_o2, twn10_o3, twn10_o4, twn10_o5, twn10_o6, twn10_o7, twn10_o8, twn10_o9]
set_option maxRecDepth 100000 in
set_option maxHeartbeats 4000000 in
theorem twn10a {bb bo n bc i : Nat} {v : Bool} (a : Act) (w : World) (Q : Exit → Act → World → Prop) (zz : a.tmps.size = 132)
    (t1 : a.tmps.getD 1 undef = .slice (some ⟨bb, bo, none⟩) n bc)
    (t9 : a.tmps.getD 9 undef = .int .i64 (i : Int))
    (hi : i < n) (hm : n ≤ 1400000000000) (h0 : w.cell? ⟨bb, bo + i, none⟩ = some (.bool v))
    (h : ∀ (a' : Act) (w' : World), w' = w → a' = ((((((((((a).put (some 40) (.int .i64 (i : Int))).put (some 41) (.slice (some ⟨bb, bo, none⟩) n bc)).put (some 42) (.int .i64 (n : Int))).put (some 43) (.bool true)).put (some 44) (.bool true)).put (some 45) (.slice (some ⟨bb, bo, none⟩) n bc)).put (some 46) (.int .i64 (i : Int))).put (some 47) (.pointer (some ⟨bb, bo + i, none⟩))).put (some 48) (.bool v)).put (some 49) (.bool v) → Q .normal a' w') :
    (Code.region 10 twn10_ops false).wp Try.prog Q a w := by
  refine z0 rfl ?_
  refine zv rfl (exec_move rfl (zi t9 rfl)) ?_
  refine zv rfl (exec_move rfl (zi t1 rfl)) ?_
  refine zv rfl (exec_len rfl (zg zz rfl) (len_bools _ _ _ _ _)) ?_
  refine zv (v := .bool true) rfl (ex_lss rfl (zg zz rfl) (zg zz rfl) (decide_eq_true (by omega))) ?_
  refine zv rfl (exec_move rfl (zg zz rfl)) ?_
  refine zv (zw zz rfl rfl rfl (zg zz rfl)) (exec_move rfl (zi t1 rfl)) ?_
  refine zv (zw zz rfl rfl rfl (zg zz rfl)) (exec_move rfl (zi t9 rfl)) ?_
  refine zv (zw zz rfl rfl rfl (zg zz rfl)) (exec_indexAt rfl (zg zz rfl) (zg zz rfl) (ix_bool hi hm _)) ?_
  refine zv (zw zz rfl rfl rfl (zg zz rfl)) (exec_load rfl (zg zz rfl) (ld_bool h0)) ?_
  refine zv rfl (exec_pickT rfl (zg zz rfl) (zg zz rfl)) ?_
  exact ze rfl (h _ _ (rfl) rfl)
set_option maxRecDepth 100000 in
set_option maxHeartbeats 4000000 in
theorem twn10b {ba : Option Addr} {n bc i : Nat} (a : Act) (w : World) (Q : Exit → Act → World → Prop) (zz : a.tmps.size = 132)
    (t1 : a.tmps.getD 1 undef = .slice ba n bc)
    (t9 : a.tmps.getD 9 undef = .int .i64 (i : Int))
    (hi : ¬ i < n)
    (h : ∀ (a' : Act) (w' : World), w' = w → a' = ((((((((((a).put (some 40) (.int .i64 (i : Int))).put (some 41) (.slice ba n bc)).put (some 42) (.int .i64 (n : Int))).put (some 43) (.bool false)).put (some 44) (.bool false)).put (some 45) (undef)).put (some 46) (undef)).put (some 47) (undef)).put (some 48) (undef)).put (some 49) (.bool false) → Q .normal a' w') :
    (Code.region 10 twn10_ops false).wp Try.prog Q a w := by
  refine z0 rfl ?_
  refine zv rfl (exec_move rfl (zi t9 rfl)) ?_
  refine zv rfl (exec_move rfl (zi t1 rfl)) ?_
  refine zv rfl (exec_len rfl (zg zz rfl) (len_bools _ _ _ _ _)) ?_
  refine zv (v := .bool false) rfl (ex_lss rfl (zg zz rfl) (zg zz rfl) (decide_eq_false (by omega))) ?_
  refine zv rfl (exec_move rfl (zg zz rfl)) ?_
  refine zn (zx zz rfl rfl rfl (zg zz rfl)) ?_
  refine zn (zx zz rfl rfl rfl (zg zz rfl)) ?_
  refine zn (zx zz rfl rfl rfl (zg zz rfl)) ?_
  refine zn (zx zz rfl rfl rfl (zg zz rfl)) ?_
  refine zv rfl (exec_pickF rfl (zg zz rfl) rfl) ?_
  exact ze rfl (h _ _ (rfl) rfl)
def twn12_o0 : Oper := { dst := some 62, op := Op.move (Operand.tmp 9), type := 3, pos := "top05.go:26", after := #[], guard := none }
def twn12_o1 : Oper := { dst := some 63, op := Op.move (Operand.tmp 2), type := 80, pos := "top05.go:26", after := #[], guard := none }
def twn12_o2 : Oper := { dst := some 64, op := Op.call { callee := Callee.builtin Builtin.len, args := #[Operand.tmp 63], argTypes := #[80] }, type := 3, pos := "top05.go:26", after := #[{ on := 1, ground := Ground.data }], guard := none }
def twn12_o3 : Oper := { dst := some 65, op := Op.binOp BinOp.lss 3 (Operand.tmp 62) (Operand.tmp 64) 3, type := 4, pos := "top05.go:26", after := #[{ on := 0, ground := Ground.data }, { on := 2, ground := Ground.data }], guard := none }
def twn12_o4 : Oper := { dst := some 66, op := Op.move (Operand.tmp 65), type := 4, pos := "top05.go:26", after := #[{ on := 3, ground := Ground.data }], guard := none }
def twn12_o5 : Oper := { dst := some 67, op := Op.move (Operand.tmp 2), type := 80, pos := "top05.go:26", after := #[{ on := 4, ground := Ground.guard }], guard := some (4, true) }
def twn12_o6 : Oper := { dst := some 68, op := Op.move (Operand.tmp 9), type := 3, pos := "top05.go:26", after := #[{ on := 4, ground := Ground.guard }], guard := some (4, true) }
def twn12_o7 : Oper := { dst := some 69, op := Op.indexAddr 80 (Operand.tmp 67) (Operand.tmp 68), type := 0, pos := "top05.go:26", after := #[{ on := 5, ground := Ground.data }, { on := 6, ground := Ground.data }, { on := 4, ground := Ground.guard }], guard := some (4, true) }
def twn12_o8 : Oper := { dst := some 70, op := Op.load 4 (Operand.tmp 69), type := 4, pos := "top05.go:26", after := #[{ on := 7, ground := Ground.data }, { on := 4, ground := Ground.guard }], guard := some (4, true) }
def twn12_o9 : Oper := { dst := some 71, op := Op.pick (Operand.tmp 66) (Operand.tmp 70) (Operand.const (Value.bool false)), type := 4, pos := "top05.go:26", after := #[{ on := 4, ground := Ground.data }, { on := 8, ground := Ground.data }], guard := none }
def twn12_ops : Array Oper := #[twn12_o0, twn12_o1, twn12_o2, twn12_o3, twn12_o4, twn12_o5, twn12_o6, twn12_o7, twn12_o8, twn12_o9]
set_option maxRecDepth 100000 in
set_option maxHeartbeats 4000000 in
theorem twn12a {bb bo n bc i : Nat} {v : Bool} (a : Act) (w : World) (Q : Exit → Act → World → Prop) (zz : a.tmps.size = 132)
    (t2 : a.tmps.getD 2 undef = .slice (some ⟨bb, bo, none⟩) n bc)
    (t9 : a.tmps.getD 9 undef = .int .i64 (i : Int))
    (hi : i < n) (hm : n ≤ 1400000000000) (h0 : w.cell? ⟨bb, bo + i, none⟩ = some (.bool v))
    (h : ∀ (a' : Act) (w' : World), w' = w → a' = ((((((((((a).put (some 62) (.int .i64 (i : Int))).put (some 63) (.slice (some ⟨bb, bo, none⟩) n bc)).put (some 64) (.int .i64 (n : Int))).put (some 65) (.bool true)).put (some 66) (.bool true)).put (some 67) (.slice (some ⟨bb, bo, none⟩) n bc)).put (some 68) (.int .i64 (i : Int))).put (some 69) (.pointer (some ⟨bb, bo + i, none⟩))).put (some 70) (.bool v)).put (some 71) (.bool v) → Q .normal a' w') :
    (Code.region 12 twn12_ops false).wp Try.prog Q a w := by
  refine z0 rfl ?_
  refine zv rfl (exec_move rfl (zi t9 rfl)) ?_
  refine zv rfl (exec_move rfl (zi t2 rfl)) ?_
  refine zv rfl (exec_len rfl (zg zz rfl) (len_bools _ _ _ _ _)) ?_
  refine zv (v := .bool true) rfl (ex_lss rfl (zg zz rfl) (zg zz rfl) (decide_eq_true (by omega))) ?_
  refine zv rfl (exec_move rfl (zg zz rfl)) ?_
  refine zv (zw zz rfl rfl rfl (zg zz rfl)) (exec_move rfl (zi t2 rfl)) ?_
  refine zv (zw zz rfl rfl rfl (zg zz rfl)) (exec_move rfl (zi t9 rfl)) ?_
  refine zv (zw zz rfl rfl rfl (zg zz rfl)) (exec_indexAt rfl (zg zz rfl) (zg zz rfl) (ix_bool hi hm _)) ?_
  refine zv (zw zz rfl rfl rfl (zg zz rfl)) (exec_load rfl (zg zz rfl) (ld_bool h0)) ?_
  refine zv rfl (exec_pickT rfl (zg zz rfl) (zg zz rfl)) ?_
  exact ze rfl (h _ _ (rfl) rfl)
set_option maxRecDepth 100000 in
set_option maxHeartbeats 4000000 in
theorem twn12b {ba : Option Addr} {n bc i : Nat} (a : Act) (w : World) (Q : Exit → Act → World → Prop) (zz : a.tmps.size = 132)
    (t2 : a.tmps.getD 2 undef = .slice ba n bc)
    (t9 : a.tmps.getD 9 undef = .int .i64 (i : Int))
    (hi : ¬ i < n)
    (h : ∀ (a' : Act) (w' : World), w' = w → a' = ((((((((((a).put (some 62) (.int .i64 (i : Int))).put (some 63) (.slice ba n bc)).put (some 64) (.int .i64 (n : Int))).put (some 65) (.bool false)).put (some 66) (.bool false)).put (some 67) (undef)).put (some 68) (undef)).put (some 69) (undef)).put (some 70) (undef)).put (some 71) (.bool false) → Q .normal a' w') :
    (Code.region 12 twn12_ops false).wp Try.prog Q a w := by
  refine z0 rfl ?_
  refine zv rfl (exec_move rfl (zi t9 rfl)) ?_
  refine zv rfl (exec_move rfl (zi t2 rfl)) ?_
  refine zv rfl (exec_len rfl (zg zz rfl) (len_bools _ _ _ _ _)) ?_
  refine zv (v := .bool false) rfl (ex_lss rfl (zg zz rfl) (zg zz rfl) (decide_eq_false (by omega))) ?_
  refine zv rfl (exec_move rfl (zg zz rfl)) ?_
  refine zn (zx zz rfl rfl rfl (zg zz rfl)) ?_
  refine zn (zx zz rfl rfl rfl (zg zz rfl)) ?_
  refine zn (zx zz rfl rfl rfl (zg zz rfl)) ?_
  refine zn (zx zz rfl rfl rfl (zg zz rfl)) ?_
  refine zv rfl (exec_pickF rfl (zg zz rfl) rfl) ?_
  exact ze rfl (h _ _ (rfl) rfl)
def twn19_o0 : Oper := { dst := some 92, op := Op.move (Operand.tmp 8), type := 23, pos := "top05.go:33", after := #[], guard := none }
def twn19_o1 : Oper := { dst := some 93, op := Op.move (Operand.tmp 12), type := 44, pos := "top05.go:33", after := #[], guard := none }
def twn19_o2 : Oper := { dst := some 94, op := Op.move (Operand.tmp 13), type := 3, pos := "top05.go:33", after := #[], guard := none }
def twn19_o3 : Oper := { dst := some 95, op := Op.indexAddr 44 (Operand.tmp 93) (Operand.tmp 94), type := 0, pos := "top05.go:33", after := #[{ on := 1, ground := Ground.data }, { on := 2, ground := Ground.data }], guard := none }
def twn19_o4 : Oper := { dst := some 96, op := Op.load 32 (Operand.tmp 95), type := 32, pos := "top05.go:33", after := #[{ on := 3, ground := Ground.data }], guard := none }
def twn19_o5 : Oper := { dst := some 97, op := Op.call { callee := Callee.value (Operand.func 31), args := #[Operand.tmp 92, Operand.tmp 96], argTypes := #[23, 32] }, type := 4, pos := "top05.go:33", after := #[{ on := 0, ground := Ground.data }, { on := 4, ground := Ground.data }], guard := none }
def twn19_ops : Array Oper := #[twn19_o0, twn19_o1, twn19_o2, twn19_o3, twn19_o4, twn19_o5]
set_option maxRecDepth 100000 in
set_option maxHeartbeats 4000000 in
theorem twn19 {wb wo m wc i : Nat} {x : IdK} {sb : Nat} {r : Bool} (Fin : World → Prop) (a : Act) (w : World) (Q : Exit → Act → World → Prop) (zz : a.tmps.size = 132)
    (t8 : a.tmps.getD 8 undef = .pointer (some ⟨sb, 0, none⟩))
    (t12 : a.tmps.getD 12 undef = .slice (some ⟨wb, wo, none⟩) m wc)
    (t13 : a.tmps.getD 13 undef = .int .i64 (i : Int))
    (hx : x.ok) (hi : i < m) (hm : m ≤ 1400000000000) (h0 : w.rangeAt wb (wo + 33 * i) x.c) (CR : Calls Try.prog 31 #[.pointer (some ⟨sb, 0, none⟩), x.v] w fun e w' => e = .returned (.bool r) ∧ Fin w')
    (h : ∀ (a' : Act) (w' : World), Fin w' → a' = ((((((a).put (some 92) (.pointer (some ⟨sb, 0, none⟩))).put (some 93) (.slice (some ⟨wb, wo, none⟩) m wc)).put (some 94) (.int .i64 (i : Int))).put (some 95) (.pointer (some ⟨wb, wo + 33 * i, none⟩))).put (some 96) (x.v)).put (some 97) (.bool r) → Q .normal a' w') :
    (Code.region 19 twn19_ops false).wp Try.prog Q a w := by
  refine z0 rfl ?_
  refine zv rfl (exec_move rfl (zi t8 rfl)) ?_
  refine zv rfl (exec_move rfl (zi t12 rfl)) ?_
  refine zv rfl (exec_move rfl (zi t13 rfl)) ?_
  refine zv rfl (exec_indexAt rfl (zg zz rfl) (zg zz rfl) (ix_idl hi hm _)) ?_
  refine zv rfl (exec_load rfl (zg zz rfl) (load_id_at hx h0)) ?_
  refine zc rfl (exec_c2 rfl (zg zz rfl) (zg zz rfl)) (CR) (fun e x5 hx => ?_)
  obtain ⟨rfl, HF⟩ := hx
  refine ⟨_, rfl, ?_⟩
  exact ze rfl (h _ _ (HF) rfl)
def twn20_o0 : Oper := { dst := some 98, op := Op.move (Operand.tmp 8), type := 23, pos := "top05.go:34", after := #[], guard := none }
def twn20_o1 : Oper := { dst := some 99, op := Op.move (Operand.tmp 12), type := 44, pos := "top05.go:34", after := #[], guard := none }
def twn20_o2 : Oper := { dst := some 100, op := Op.move (Operand.tmp 13), type := 3, pos := "top05.go:34", after := #[], guard := none }
def twn20_o3 : Oper := { dst := some 101, op := Op.indexAddr 44 (Operand.tmp 99) (Operand.tmp 100), type := 0, pos := "top05.go:34", after := #[{ on := 1, ground := Ground.data }, { on := 2, ground := Ground.data }], guard := none }
def twn20_o4 : Oper := { dst := some 102, op := Op.load 32 (Operand.tmp 101), type := 32, pos := "top05.go:34", after := #[{ on := 3, ground := Ground.data }], guard := none }
def twn20_o5 : Oper := { dst := some 103, op := Op.call { callee := Callee.value (Operand.func 24), args := #[Operand.tmp 98, Operand.tmp 102], argTypes := #[23, 32] }, type := 3, pos := "top05.go:34", after := #[{ on := 0, ground := Ground.data }, { on := 4, ground := Ground.data }], guard := none }
def twn20_o6 : Oper := { dst := some 104, op := Op.move (Operand.tmp 11), type := 3, pos := "top05.go:34", after := #[], guard := none }
def twn20_o7 : Oper := { dst := some 105, op := Op.binOp BinOp.leq 3 (Operand.tmp 103) (Operand.tmp 104) 3, type := 4, pos := "top05.go:34", after := #[{ on := 5, ground := Ground.data }, { on := 6, ground := Ground.data }], guard := none }
def twn20_ops : Array Oper := #[twn20_o0, twn20_o1, twn20_o2, twn20_o3, twn20_o4, twn20_o5, twn20_o6, twn20_o7]
set_option maxRecDepth 100000 in
set_option maxHeartbeats 4000000 in
theorem twn20 {wb wo m wc i : Nat} {x : IdK} {sb : Nat} {r z : Int} (Fin : World → Prop) (a : Act) (w : World) (Q : Exit → Act → World → Prop) (zz : a.tmps.size = 132)
    (t8 : a.tmps.getD 8 undef = .pointer (some ⟨sb, 0, none⟩))
    (t11 : a.tmps.getD 11 undef = .int .i64 z)
    (t12 : a.tmps.getD 12 undef = .slice (some ⟨wb, wo, none⟩) m wc)
    (t13 : a.tmps.getD 13 undef = .int .i64 (i : Int))
    (hx : x.ok) (hi : i < m) (hm : m ≤ 1400000000000) (hl : decide (r ≤ z) = false) (h0 : w.rangeAt wb (wo + 33 * i) x.c) (CR : Calls Try.prog 24 #[.pointer (some ⟨sb, 0, none⟩), x.v] w fun e w' => e = .returned (.int .i64 r) ∧ Fin w')
    (h : ∀ (a' : Act) (w' : World), Fin w' → a' = ((((((((a).put (some 98) (.pointer (some ⟨sb, 0, none⟩))).put (some 99) (.slice (some ⟨wb, wo, none⟩) m wc)).put (some 100) (.int .i64 (i : Int))).put (some 101) (.pointer (some ⟨wb, wo + 33 * i, none⟩))).put (some 102) (x.v)).put (some 103) (.int .i64 r)).put (some 104) (.int .i64 z)).put (some 105) (.bool false) → Q .normal a' w') :
    (Code.region 20 twn20_ops false).wp Try.prog Q a w := by
  refine z0 rfl ?_
  refine zv rfl (exec_move rfl (zi t8 rfl)) ?_
  refine zv rfl (exec_move rfl (zi t12 rfl)) ?_
  refine zv rfl (exec_move rfl (zi t13 rfl)) ?_
  refine zv rfl (exec_indexAt rfl (zg zz rfl) (zg zz rfl) (ix_idl hi hm _)) ?_
  refine zv rfl (exec_load rfl (zg zz rfl) (load_id_at hx h0)) ?_
  refine zc rfl (exec_c2 rfl (zg zz rfl) (zg zz rfl)) (CR) (fun e x5 hx => ?_)
  obtain ⟨rfl, HF⟩ := hx
  refine ⟨_, rfl, ?_⟩
  refine zv rfl (exec_move rfl (zi t11 rfl)) ?_
  refine zv (v := .bool false) rfl (ex_leq rfl (zg zz rfl) (zg zz rfl) hl) ?_
  exact ze rfl (h _ _ (HF) rfl)
def twn22_o0 : Oper := { dst := some 106, op := Op.move (Operand.tmp 8), type := 23, pos := "top05.go:37", after := #[], guard := none }
def twn22_o1 : Oper := { dst := some 107, op := Op.move (Operand.tmp 12), type := 44, pos := "top05.go:37", after := #[], guard := none }
def twn22_o2 : Oper := { dst := some 108, op := Op.move (Operand.tmp 13), type := 3, pos := "top05.go:37", after := #[], guard := none }
def twn22_o3 : Oper := { dst := some 109, op := Op.indexAddr 44 (Operand.tmp 107) (Operand.tmp 108), type := 0, pos := "top05.go:37", after := #[{ on := 1, ground := Ground.data }, { on := 2, ground := Ground.data }], guard := none }
def twn22_o4 : Oper := { dst := some 110, op := Op.load 32 (Operand.tmp 109), type := 32, pos := "top05.go:37", after := #[{ on := 3, ground := Ground.data }], guard := none }
def twn22_o5 : Oper := { dst := some 111, op := Op.call { callee := Callee.value (Operand.func 24), args := #[Operand.tmp 106, Operand.tmp 110], argTypes := #[23, 32] }, type := 3, pos := "top05.go:37", after := #[{ on := 0, ground := Ground.data }, { on := 4, ground := Ground.data }], guard := none }
def twn22_o6 : Oper := { dst := some 11, op := Op.assign (Operand.tmp 111), type := 3, pos := "top05.go:37", after := #[{ on := 5, ground := Ground.data }, { on := 5, ground := Ground.chain }, { on := 0, ground := Ground.phase }, { on := 1, ground := Ground.phase }, { on := 2, ground := Ground.phase }, { on := 3, ground := Ground.phase }, { on := 4, ground := Ground.phase }, { on := 5, ground := Ground.phase }], guard := none }
def twn22_ops : Array Oper := #[twn22_o0, twn22_o1, twn22_o2, twn22_o3, twn22_o4, twn22_o5, twn22_o6]
set_option maxRecDepth 100000 in
set_option maxHeartbeats 4000000 in
theorem twn22 {wb wo m wc i : Nat} {x : IdK} {sb : Nat} {r : Int} (Fin : World → Prop) (a : Act) (w : World) (Q : Exit → Act → World → Prop) (zz : a.tmps.size = 132)
    (t8 : a.tmps.getD 8 undef = .pointer (some ⟨sb, 0, none⟩))
    (t12 : a.tmps.getD 12 undef = .slice (some ⟨wb, wo, none⟩) m wc)
    (t13 : a.tmps.getD 13 undef = .int .i64 (i : Int))
    (hx : x.ok) (hi : i < m) (hm : m ≤ 1400000000000) (h0 : w.rangeAt wb (wo + 33 * i) x.c) (CR : Calls Try.prog 24 #[.pointer (some ⟨sb, 0, none⟩), x.v] w fun e w' => e = .returned (.int .i64 r) ∧ Fin w')
    (h : ∀ (a' : Act) (w' : World), Fin w' → a' = (((((((a).put (some 106) (.pointer (some ⟨sb, 0, none⟩))).put (some 107) (.slice (some ⟨wb, wo, none⟩) m wc)).put (some 108) (.int .i64 (i : Int))).put (some 109) (.pointer (some ⟨wb, wo + 33 * i, none⟩))).put (some 110) (x.v)).put (some 111) (.int .i64 r)).put (some 11) (.int .i64 r) → Q .normal a' w') :
    (Code.region 22 twn22_ops false).wp Try.prog Q a w := by
  refine z0 rfl ?_
  refine zv rfl (exec_move rfl (zi t8 rfl)) ?_
  refine zv rfl (exec_move rfl (zi t12 rfl)) ?_
  refine zv rfl (exec_move rfl (zi t13 rfl)) ?_
  refine zv rfl (exec_indexAt rfl (zg zz rfl) (zg zz rfl) (ix_idl hi hm _)) ?_
  refine zv rfl (exec_load rfl (zg zz rfl) (load_id_at hx h0)) ?_
  refine zc rfl (exec_c2 rfl (zg zz rfl) (zg zz rfl)) (CR) (fun e x5 hx => ?_)
  obtain ⟨rfl, HF⟩ := hx
  refine ⟨_, rfl, ?_⟩
  refine zv rfl (exec_assign rfl (zg zz rfl)) ?_
  exact ze rfl (h _ _ (HF) rfl)
def twn23_o0 : Oper := { dst := some 112, op := Op.build 32 #[(1, Operand.const (Value.int IntKind.i64 1))], type := 32, pos := "top05.go:40", after := #[], guard := none }
def twn23_o1 : Oper := { dst := some 14, op := Op.alloc 32, type := 0, pos := "top05.go:40", after := #[], guard := none }
def twn23_o2 : Oper := { dst := none, op := Op.store 32 (Operand.tmp 14) (Operand.tmp 112), type := 0, pos := "top05.go:40", after := #[{ on := 1, ground := Ground.data }, { on := 0, ground := Ground.data }, { on := 0, ground := Ground.phase }, { on := 1, ground := Ground.phase }], guard := none }
def twn23_ops : Array Oper := #[twn23_o0, twn23_o1, twn23_o2]
set_option maxRecDepth 100000 in
set_option maxHeartbeats 4000000 in
theorem twn23 {w2 : World} (a : Act) (w : World) (Q : Exit → Act → World → Prop) (zz : a.tmps.size = 132)
    (E1 : (Instr.storeAt 32 (.pointer (some ⟨w.heap.size, 0, none⟩)) oneId.v).run Try.prog (w.alloc (.cells zId.c.toArray 32)) = .ok () w2)
    (h : ∀ (a' : Act) (w' : World), w' = w2 → a' = ((a).put (some 112) (oneId.v)).put (some 14) (.pointer (some ⟨w.heap.size, 0, none⟩)) → Q .normal a' w') :
    (Code.region 23 twn23_ops false).wp Try.prog Q a w := by
  refine z0 rfl ?_
  refine zv rfl (exec_build (pv := #[(1, .int .i64 1)]) rfl (by first | (simp [Act.eval]; done) | (simp; rfl)) (build_one _)) ?_
  refine zv (v := .pointer (some ⟨w.heap.size, 0, none⟩)) rfl (exec_alloc rfl (id_zero _)) ?_
  refine zs rfl (exec_store rfl (zg zz rfl) (zg zz rfl) E1) ?_
  exact ze rfl (h _ _ (rfl) rfl)
def twn25_o0 : Oper := { dst := some 114, op := Op.move (Operand.tmp 15), type := 23, pos := "top05.go:42", after := #[], guard := none }
def twn25_o1 : Oper := { dst := some 115, op := Op.load 32 (Operand.tmp 14), type := 32, pos := "top05.go:42", after := #[], guard := none }
def twn25_o2 : Oper := { dst := some 116, op := Op.build 32 #[], type := 32, pos := "top05.go:42", after := #[], guard := none }
def twn25_o3 : Oper := { dst := some 117, op := Op.call { callee := Callee.value (Operand.func 10), args := #[Operand.tmp 114, Operand.tmp 115, Operand.tmp 116], argTypes := #[23, 32, 32] }, type := 36, pos := "top05.go:42", after := #[{ on := 0, ground := Ground.data }, { on := 1, ground := Ground.data }, { on := 2, ground := Ground.data }], guard := none }
def twn25_o4 : Oper := { dst := some 118, op := Op.binOp BinOp.eql 36 (Operand.tmp 117) (Operand.const (Value.int IntKind.i64 0)) 36, type := 4, pos := "top05.go:42", after := #[{ on := 3, ground := Ground.data }], guard := none }
def twn25_o5 : Oper := { dst := some 119, op := Op.move (Operand.tmp 118), type := 4, pos := "top05.go:42", after := #[{ on := 4, ground := Ground.data }, { on := 3, ground := Ground.chain }], guard := none }
def twn25_o6 : Oper := { dst := some 120, op := Op.move (Operand.tmp 15), type := 23, pos := "top05.go:42", after := #[{ on := 5, ground := Ground.guard }], guard := some (5, true) }
def twn25_o7 : Oper := { dst := some 121, op := Op.call { callee := Callee.value (Operand.func 22), args := #[Operand.tmp 120], argTypes := #[23] }, type := 44, pos := "top05.go:42", after := #[{ on := 6, ground := Ground.data }, { on := 5, ground := Ground.chain }, { on := 5, ground := Ground.guard }], guard := some (5, true) }
def twn25_o8 : Oper := { dst := some 122, op := Op.call { callee := Callee.builtin Builtin.len, args := #[Operand.tmp 121], argTypes := #[44] }, type := 3, pos := "top05.go:42", after := #[{ on := 7, ground := Ground.data }, { on := 5, ground := Ground.guard }], guard := some (5, true) }
def twn25_o9 : Oper := { dst := some 123, op := Op.binOp BinOp.eql 3 (Operand.tmp 122) (Operand.const (Value.int IntKind.i64 1)) 3, type := 4, pos := "top05.go:42", after := #[{ on := 8, ground := Ground.data }, { on := 5, ground := Ground.guard }], guard := some (5, true) }
def twn25_o10 : Oper := { dst := some 124, op := Op.pick (Operand.tmp 119) (Operand.tmp 123) (Operand.const (Value.bool false)), type := 4, pos := "top05.go:42", after := #[{ on := 5, ground := Ground.data }, { on := 9, ground := Ground.data }], guard := none }
def twn25_o11 : Oper := { dst := some 125, op := Op.move (Operand.tmp 124), type := 4, pos := "top05.go:42", after := #[{ on := 10, ground := Ground.data }, { on := 7, ground := Ground.chain }], guard := none }
def twn25_o12 : Oper := { dst := some 126, op := Op.move (Operand.tmp 12), type := 44, pos := "top05.go:42", after := #[{ on := 11, ground := Ground.guard }], guard := some (11, true) }
def twn25_o13 : Oper := { dst := some 127, op := Op.call { callee := Callee.builtin Builtin.len, args := #[Operand.tmp 126], argTypes := #[44] }, type := 3, pos := "top05.go:42", after := #[{ on := 12, ground := Ground.data }, { on := 11, ground := Ground.guard }], guard := some (11, true) }
def twn25_o14 : Oper := { dst := some 128, op := Op.move (Operand.tmp 7), type := 23, pos := "top05.go:42", after := #[{ on := 11, ground := Ground.guard }], guard := some (11, true) }
def twn25_o15 : Oper := { dst := some 129, op := Op.call { callee := Callee.value (Operand.func 32), args := #[Operand.tmp 128], argTypes := #[23] }, type := 3, pos := "top05.go:42", after := #[{ on := 14, ground := Ground.data }, { on := 11, ground := Ground.chain }, { on := 11, ground := Ground.guard }], guard := some (11, true) }
def twn25_o16 : Oper := { dst := some 130, op := Op.binOp BinOp.eql 3 (Operand.tmp 127) (Operand.tmp 129) 3, type := 4, pos := "top05.go:42", after := #[{ on := 13, ground := Ground.data }, { on := 15, ground := Ground.data }, { on := 11, ground := Ground.guard }], guard := some (11, true) }
def twn25_o17 : Oper := { dst := some 131, op := Op.pick (Operand.tmp 125) (Operand.tmp 130) (Operand.const (Value.bool false)), type := 4, pos := "top05.go:42", after := #[{ on := 11, ground := Ground.data }, { on := 16, ground := Ground.data }], guard := none }
def twn25_o18 : Oper := { dst := some 6, op := Op.assign (Operand.tmp 131), type := 4, pos := "top05.go:42", after := #[{ on := 17, ground := Ground.data }, { on := 15, ground := Ground.chain }, { on := 0, ground := Ground.phase }, { on := 1, ground := Ground.phase }, { on := 2, ground := Ground.phase }, { on := 3, ground := Ground.phase }, { on := 4, ground := Ground.phase }, { on := 5, ground := Ground.phase }, { on := 6, ground := Ground.phase }, { on := 7, ground := Ground.phase }, { on := 8, ground := Ground.phase }, { on := 9, ground := Ground.phase }, { on := 10, ground := Ground.phase }, { on := 11, ground := Ground.phase }, { on := 12, ground := Ground.phase }, { on := 13, ground := Ground.phase }, { on := 14, ground := Ground.phase }, { on := 15, ground := Ground.phase }, { on := 16, ground := Ground.phase }, { on := 17, ground := Ground.phase }], guard := none }
def twn25_ops : Array Oper := #[twn25_o0, twn25_o1, twn25_o2, twn25_o3, twn25_o4, twn25_o5, twn25_o6, twn25_o7, twn25_o8, twn25_o9, twn25_o10, twn25_o11, twn25_o12, twn25_o13, twn25_o14, twn25_o15, twn25_o16, twn25_o17, twn25_o18]
set_option maxRecDepth 100000 in
set_option maxHeartbeats 4000000 in
theorem twn25 {sa sc bx n rc : Nat} {ra : Option Addr} (Fin : World → Prop) (a : Act) (w : World) (Q : Exit → Act → World → Prop) (zz : a.tmps.size = 132)
    (t7 : a.tmps.getD 7 undef = .pointer (some ⟨sa, 0, none⟩))
    (t12 : a.tmps.getD 12 undef = .slice ra n rc)
    (t14 : a.tmps.getD 14 undef = .pointer (some ⟨bx, 0, none⟩))
    (t15 : a.tmps.getD 15 undef = .pointer (some ⟨sc, 0, none⟩))
    (ib : IdAt w bx oneId) (CI : Calls Try.prog 10 #[.pointer (some ⟨sc, 0, none⟩), oneId.v, zId.v] w fun e w' => e = .returned (.int .i64 0) ∧ Calls Try.prog 22 #[.pointer (some ⟨sc, 0, none⟩)] w' fun e w' => ∃ v3 c3, e = .returned (.slice v3 1 c3) ∧ Calls Try.prog 32 #[.pointer (some ⟨sa, 0, none⟩)] w' fun e w' => e = .returned (.int .i64 (n : Int)) ∧ Fin w')
    (h : ∀ (v3 : Option Addr) (c3 : Nat) (a' : Act) (w' : World), Fin w' → a' = (((((((((((((((((((a).put (some 114) (.pointer (some ⟨sc, 0, none⟩))).put (some 115) (oneId.v)).put (some 116) (zId.v)).put (some 117) (.int .i64 0)).put (some 118) (.bool true)).put (some 119) (.bool true)).put (some 120) (.pointer (some ⟨sc, 0, none⟩))).put (some 121) (.slice v3 1 c3)).put (some 122) (.int .i64 (1 : Int))).put (some 123) (.bool true)).put (some 124) (.bool true)).put (some 125) (.bool true)).put (some 126) (.slice ra n rc)).put (some 127) (.int .i64 (n : Int))).put (some 128) (.pointer (some ⟨sa, 0, none⟩))).put (some 129) (.int .i64 (n : Int))).put (some 130) (.bool true)).put (some 131) (.bool true)).put (some 6) (.bool true) → Q .normal a' w') :
    (Code.region 25 twn25_ops false).wp Try.prog Q a w := by
  refine z0 rfl ?_
  refine zv rfl (exec_move rfl (zi t15 rfl)) ?_
  refine zv rfl (exec_load rfl (zi t14 rfl) (load_id oneId_ok ib)) ?_
  refine zv rfl (exec_build0 rfl (build_id _)) ?_
  refine zc rfl (exec_c3 rfl (zg zz rfl) (zg zz rfl) (zg zz rfl)) (CI) (fun e x3 hx => ?_)
  obtain ⟨rfl, CB⟩ := hx
  refine ⟨_, rfl, ?_⟩
  refine zv (v := .bool true) rfl (ex_eql36 rfl (zg zz rfl) rfl (by decide)) ?_
  refine zv rfl (exec_move rfl (zg zz rfl)) ?_
  refine zv (zw zz rfl rfl rfl (zg zz rfl)) (exec_move rfl (zi t15 rfl)) ?_
  refine zc (zw zz rfl rfl rfl (zg zz rfl)) (exec_c1 rfl (zg zz rfl)) (CB) (fun e x7 hx => ?_)
  obtain ⟨v3, c3, rfl, CL⟩ := hx
  refine ⟨_, rfl, ?_⟩
  refine zv (zw zz rfl rfl rfl (zg zz rfl)) (exec_len rfl (zg zz rfl) (len_ids _ _ _ _ _)) ?_
  refine zv (v := .bool true) (zw zz rfl rfl rfl (zg zz rfl)) (ex_eql rfl (zg zz rfl) rfl (by decide)) ?_
  refine zv rfl (exec_pickT rfl (zg zz rfl) (zg zz rfl)) ?_
  refine zv rfl (exec_move rfl (zg zz rfl)) ?_
  refine zv (zw zz rfl rfl rfl (zg zz rfl)) (exec_move rfl (zi t12 rfl)) ?_
  refine zv (zw zz rfl rfl rfl (zg zz rfl)) (exec_len rfl (zg zz rfl) (len_ids _ _ _ _ _)) ?_
  refine zv (zw zz rfl rfl rfl (zg zz rfl)) (exec_move rfl (zi t7 rfl)) ?_
  refine zc (zw zz rfl rfl rfl (zg zz rfl)) (exec_c1 rfl (zg zz rfl)) (CL) (fun e x15 hx => ?_)
  obtain ⟨rfl, HF⟩ := hx
  replace h := h v3 c3
  refine ⟨_, rfl, ?_⟩
  refine zv (v := .bool true) (zw zz rfl rfl rfl (zg zz rfl)) (ex_eql rfl (zg zz rfl) (zg zz rfl) (by simp)) ?_
  refine zv rfl (exec_pickT rfl (zg zz rfl) (zg zz rfl)) ?_
  refine zv rfl (exec_assign rfl (zg zz rfl)) ?_
  exact ze rfl (h _ _ (HF) rfl)
end Go.Proofs.Ytlejbdepoemcjaa

namespace Go.Proofs.Ytlejbdepoemcjaa
open Go.RowKit Sq
set_option linter.unusedVariables false
set_option linter.unusedSimpArgs false

/-- Two sequences that have no block in common, both laid since w. -/
structure TW (w : World) (s : Sx) (A : List Elt) (t : Sx) (B : List Elt) (W : World) : Prop where
  p : SeqAt W s A
  q : SeqAt W t B
  lp : ∀ j ∈ s.bl, w.heap.size ≤ j
  lq : ∀ j ∈ t.bl, w.heap.size ≤ j
  dj : ∀ j ∈ s.bl, j ∉ t.bl
  bel : Below w.heap.size w W
section
variable {w W : World} {s t : Sx} {A B : List Elt}
theorem TW.symm (h : TW w s A t B W) : TW w t B s A W := ⟨h.q, h.p, h.lq, h.lp, fun j h1 h2 => h.dj j h2 h1, h.bel⟩
theorem TW.below {W' : World} (h : TW w s A t B W) (b : Below W.heap.size W W') : TW w s A t B W' := ⟨h.p.below b, h.q.below b, h.lp, h.lq, h.dj, h.bel.trans (b.mono h.bel.size)⟩
theorem TW.drew (h : TW w s A t B W) : TW w s A t B W.drew := h.below ((Below.refl _ _).drew)
theorem TW.nxt {W' : World} {s' : Sx} {A' : List Elt} (h : TW w s A t B W) (nx : Nxt s W s' A' W') : TW w s' A' t B W' := by
  have bb : Below w.heap.size W W' := nx.tch.belowS h.bel.size h.lp
  refine ⟨nx.at', h.q.keep (fun j hj => nx.tch.block j (h.q.lt j hj) (fun r => h.dj j r hj)), fun j hj => ?_, h.lq, fun j hj hq => ?_, h.bel.trans bb⟩
  · rcases nx.bl j hj with q | q
    · exact h.lp j q
    · exact Nat.le_trans h.bel.size q
  · rcases nx.bl j hj with r | r
    · exact h.dj j r hq
    · have := h.q.lt j hq; omega
end
/-- What a sequence has are Ids of the first i puts. -/
def Fresh (l : List PutV) (i : Nat) (A : List Elt) : Prop := ∀ x, hasE A x = true → ∃ p ∈ l.take i, p.id = x
theorem Fresh.no {l : List PutV} {i : Nat} {A : List Elt} {x : IdK} (h : Fresh l i A) (hn : ∀ p ∈ l.take i, p.id ≠ x) : hasE A x = false := by
  cases q : hasE A x with
  | false => rfl
  | true => obtain ⟨p, hp, e⟩ := h x q; exact absurd e (hn p hp)
theorem Fresh.step {l : List PutV} {i : Nat} {A : List Elt} (h : Fresh l i A) (ok : SeqOk A) (hi : i < l.length) (u : Bool) : Fresh l (i + 1) (if u = true then insR A l[i].id l[i].bh else A) := by
  have old : Fresh l (i + 1) A := fun x hx => by
    obtain ⟨p, hp, e⟩ := h x hx
    exact ⟨p, by rw [List.take_add_one]; exact List.mem_append_left _ hp, e⟩
  split
  · by_cases hc : insC A l[i].id l[i].bh = 0
    · intro x hx
      rw [hasE_ins ok hc, Bool.or_eq_true, decide_eq_true_eq] at hx
      rcases hx with hx | rfl
      · exact old x hx
      · exact ⟨l[i], by rw [List.take_add_one, List.getElem?_eq_getElem hi]; exact List.mem_append_right _ (by simp), rfl⟩
    · rw [insR_no hc]; exact old
  · exact old
theorem len_ite (A : List Elt) (k b : IdK) (u : Bool) {i : Nat} (h : A.length ≤ i) : (if u = true then insR A k b else A).length ≤ i + 1 := by
  split
  · have := insR_len A k b; omega
  · omega
theorem ok_ite {A : List Elt} (ok : SeqOk A) {k b : IdK} (hk : k.ok) (hb : b.ok) (u : Bool) : SeqOk (if u = true then insR A k b else A) := by
  split
  · exact ok.ins hk hb
  · exact ok
/-- Behind i puts. -/
def Ws (l : List PutV) (w : World) (sa sb i : Nat) (W : World) : Prop := ∃ (s : Sx) (A : List Elt) (t : Sx) (B : List Elt), s.sb = sa ∧ t.sb = sb ∧ TW w s A t B W ∧ Agree A B ∧ A.length ≤ i ∧ B.length ≤ i ∧ Fresh l i A ∧ Fresh l i B
/-- In the midst of put i: the first sequence has it, if u. -/
def Wh (l : List PutV) (p : PutV) (u : Bool) (w : World) (sa sb i : Nat) (W : World) : Prop := ∃ (s : Sx) (A : List Elt) (t : Sx) (B : List Elt), s.sb = sa ∧ t.sb = sb ∧ TW w s (if u = true then insR A p.id p.bh else A) t B W ∧ SeqOk A ∧ Agree A B ∧ A.length ≤ i ∧ B.length ≤ i ∧ Fresh l i A ∧ Fresh l i B ∧ hasE A p.id = false ∧ hasE B p.id = false
section
variable {l : List PutV} {w W : World} {sa sb i : Nat} {p : PutV} {u : Bool}
theorem Ws.below {W' : World} (h : Ws l w sa sb i W) (b : Below W.heap.size W W') : Ws l w sa sb i W' := by
  obtain ⟨s, A, t, B, e1, e2, h1, h2⟩ := h
  exact ⟨s, A, t, B, e1, e2, h1.below b, h2⟩
theorem Ws.drew (h : Ws l w sa sb i W) : Ws l w sa sb i W.drew := h.below ((Below.refl _ _).drew)
theorem Ws.bel (h : Ws l w sa sb i W) : Below w.heap.size w W := by
  obtain ⟨s, A, t, B, e1, e2, h1, h2⟩ := h
  exact h1.bel
theorem Wh.bel (h : Wh l p u w sa sb i W) : Below w.heap.size w W := by
  obtain ⟨s, A, t, B, e1, e2, h1, h2⟩ := h
  exact h1.bel
theorem Wh.drew (h : Wh l p u w sa sb i W) : Wh l p u w sa sb i W.drew := by
  obtain ⟨s, A, t, B, e1, e2, h1, h2⟩ := h
  exact ⟨s, A, t, B, e1, e2, h1.drew, h2⟩
theorem Ws.half (h : Ws l w sa sb i W) (hn : ∀ q ∈ l.take i, q.id ≠ p.id) : Wh l p false w sa sb i W := by
  obtain ⟨s, A, t, B, e1, e2, h1, h2, h3, h4, h5, h6⟩ := h
  exact ⟨s, A, t, B, e1, e2, h1, h1.p.lk.ok, h2, h3, h4, h5, h6, h5.no hn, h6.no hn⟩
theorem Ws.insA (h : Ws l w sa sb i W) (hn : ∀ q ∈ l.take i, q.id ≠ p.id) (hp : p.ok) (hi : i ≤ 1048576) : Calls Try.prog 10 #[.pointer (some ⟨sa, 0, none⟩), p.id.v, p.bh.v] W fun e w' => ∃ c : Int, e = .returned (.int .i64 c) ∧ Wh l p true w sa sb i w' := by
  obtain ⟨s, A, t, B, rfl, e2, h1, h2, h3, h4, h5, h6⟩ := h
  refine (insert_any (k := p.id) (b := p.bh) h1.p hp.id hp.bh (by omega)).mono ?_
  rintro e w' ⟨rfl, s', nx⟩
  exact ⟨_, rfl, s', A, t, B, nx.sb, e2, h1.nxt nx, h1.p.lk.ok, h2, h3, h4, h5, h6, h5.no hn, h6.no hn⟩
theorem Wh.done (h : Wh l p u w sa sb i W) (hi : i < l.length) (e : l[i] = p) : Ws l w sa sb (i + 1) W := by
  obtain ⟨s, A, t, B, e1, e2, h1, h2, h3, h4, h5, h6, h7, h8, h9⟩ := h
  subst e
  exact ⟨s, _, t, B, e1, e2, h1, by have := h3.step h2 h1.q.lk.ok (b := l[i].bh) h8 h9 u false; simpa using this, len_ite _ _ _ _ h4, by omega, h6.step h2 hi u, by have := h7.step h1.q.lk.ok hi false; simpa using this⟩
theorem Wh.insB (h : Wh l p u w sa sb i W) (hp : p.ok) (hm : i ≤ 1048576) (hi : i < l.length) (e : l[i] = p) : Calls Try.prog 10 #[.pointer (some ⟨sb, 0, none⟩), p.id.v, p.bh.v] W fun e w' => ∃ c : Int, e = .returned (.int .i64 c) ∧ Ws l w sa sb (i + 1) w' := by
  obtain ⟨s, A, t, B, e1, rfl, h1, h2, h3, h4, h5, h6, h7, h8, h9⟩ := h
  have okB := h1.q.lk.ok
  subst e
  refine (insert_any (k := l[i].id) (b := l[i].bh) h1.q hp.id hp.bh (by omega)).mono ?_
  rintro e w' ⟨rfl, t', nx⟩
  exact ⟨_, rfl, s, _, t', insR B l[i].id l[i].bh, e1, nx.sb, (h1.symm.nxt nx).symm, by have := h3.step h2 okB (b := l[i].bh) h8 h9 u true; simpa using this, len_ite _ _ _ _ h4, by have := len_ite B l[i].id l[i].bh true h5; simpa using this, h6.step h2 hi u, by have := h7.step okB hi true; simpa using this⟩
end
theorem ws_new {l : List PutV} {w W W1 W2 : World} {s t : Sx} (h1 : SeqAt W1 s []) (l1 : ∀ j ∈ s.bl, w.heap.size ≤ j) (b1 : Below w.heap.size w W1) (h2 : SeqAt W2 t []) (l2 : ∀ j ∈ t.bl, W1.heap.size ≤ j) (b2 : Below W1.heap.size W1 W2) : Ws l w s.sb t.sb 0 W2 :=
  ⟨s, [], t, [], rfl, rfl, ⟨h1.below b2, h2, l1, fun j hj => Nat.le_trans b1.size (l2 j hj), fun j hj hq => by have := h1.lt j hj; have := l2 j hq; omega, b1.trans (b2.mono b1.size)⟩, rfl, Nat.le_refl _, Nat.le_refl _, fun x hx => by simp [hasE] at hx, fun x hx => by simp [hasE] at hx⟩
end Go.Proofs.Ytlejbdepoemcjaa

namespace Go.Proofs.Ytlejbdepoemcjaa
open Go.RowKit Sq
set_option linter.unusedVariables false
set_option linter.unusedSimpArgs false

/-- Behind the puts: the ranks in the second of what the first has rise. -/
theorem agree_get {A B : List Elt} (h : Agree A B) (ok : SeqOk B) {n : Nat} (hn : n = (idsE A false).length) {j k : Nat} (hj : j < k) (hk : k < n) (hx : 0 ≤ aheadE B false ((idsE A false).getD j zId)) (hy : 0 ≤ aheadE B false ((idsE A false).getD k zId)) : aheadE B false ((idsE A false).getD j zId) < aheadE B false ((idsE A false).getD k zId) := by
  have e1 : ∀ (L : List IdK) (q : Nat) (hq : q < L.length), L.getD q zId = L[q] := fun L q hq => by rw [List.getD_eq_getElem?_getD, List.getElem?_eq_getElem hq]; rfl
  have := (List.pairwise_iff_getElem.1 (h.stays.pair ok)) j k (by omega) (by omega) hj
  rw [e1 _ j (by omega)] at hx ⊢
  rw [e1 _ k (by omega)] at hy ⊢
  exact this hx hy
def rkW (A B : List Elt) (j : Nat) : Int := aheadE B false ((idsE A false).getD j zId)
/-- Both sequences and the first one's list. -/
structure TL (w : World) (s : Sx) (A : List Elt) (t : Sx) (B : List Elt) (v : Value) (W : World) : Prop where
  tw : TW w s A t B W
  ls : OwnI W w.heap.size v (idsE A false)
section
variable {w W : World} {s t : Sx} {A B : List Elt} {v : Value}
theorem TL.below {W' : World} (h : TL w s A t B v W) (b : Below W.heap.size W W') : TL w s A t B v W' := ⟨h.tw.below b, h.ls.below b⟩
theorem TW.ids_ok (h : TW w s A t B W) : ∀ x ∈ idsE A false, x.ok := fun x hx => by
  obtain ⟨e, he, rfl⟩ := List.mem_map.1 hx
  exact (h.p.lk.ok.ok e (List.mem_filter.1 he).1).1
theorem TW.ids (h : TW w s A t B W) (hl : A.length ≤ 1048576) : Calls Try.prog 22 #[.pointer (some ⟨s.sb, 0, none⟩)] W fun e w' => ∃ v n c, e = .returned (.slice v n c) ∧ (n = (idsE A false).length ∧ n ≤ 1400000000000) ∧ TL w s A t B (.slice v n c) w' := by
  refine (ids_any h.p).mono ?_
  rintro e w' ⟨v, rfl, ow, b⟩
  have ow' : OwnI w' w.heap.size v (idsE A false) := by
    refine ⟨ow.1, ?_⟩
    rcases ow.2 with q | ⟨g, cap, cur, e, hb, r⟩
    · exact .inl q
    · exact .inr ⟨g, cap, cur, e, Nat.le_trans h.bel.size hb, r⟩
  obtain ⟨a, c, rfl, _, _⟩ := ow.open h.ids_ok
  have : (idsE A false).length ≤ A.length := by unfold idsE; rw [List.length_map]; exact List.length_filter_le _ _
  exact ⟨a, _, c, rfl, ⟨rfl, by unfold idsE at this; omega⟩, h.below b, ow'⟩
theorem TL.get {a : Option Addr} {n c k : Nat} (h : TL w s A t B (.slice a n c) W) (hn : n = (idsE A false).length) (hk : k < n) : ∃ wb wo, a = some ⟨wb, wo, none⟩ ∧ ((idsE A false).getD k zId).ok ∧ W.rangeAt wb (wo + 33 * k) ((idsE A false).getD k zId).c := by
  have a2 := h.tw.ids_ok
  obtain ⟨a, c', e, ia, _⟩ := h.ls.open a2
  cases e
  rw [List.getD_eq_getElem?_getD, List.getElem?_eq_getElem (by omega), Option.getD_some]
  rcases ia with q | ⟨b, off, e, _, hr⟩
  · have : (idsE A false).length = 0 := by rw [q]; rfl
    omega
  · exact ⟨b, off, e, a2 _ (List.getElem_mem _), hr k _ (List.getElem?_eq_getElem (by omega))⟩
end
theorem one_ins : insC [] oneId zId = 0 := by decide
theorem one_len : (idsE (insR [] oneId zId) false).length = 1 := by decide
/-- The third sequence, of one put, and the first one's length. -/
theorem woven_end {w W7 W8 : World} {s t s3 : Sx} {A B : List Elt} {v : Value} {n : Nat} (h : TL w s A t B v W7) (h3 : SeqAt W8 s3 []) (l3 : ∀ j ∈ s3.bl, W7.heap.size ≤ j) (b3 : Below W7.heap.size W7 W8) (hn : n = (idsE A false).length) :
    Calls Try.prog 10 #[.pointer (some ⟨s3.sb, 0, none⟩), oneId.v, zId.v] W8 fun e w' => e = .returned (.int .i64 0) ∧ Calls Try.prog 22 #[.pointer (some ⟨s3.sb, 0, none⟩)] w' fun e w' => ∃ v3 c3, e = .returned (.slice v3 1 c3) ∧ Calls Try.prog 32 #[.pointer (some ⟨s.sb, 0, none⟩)] w' fun e w' => e = .returned (.int .i64 (n : Int)) ∧ Below w.heap.size w w' := by
  refine (insert_any (k := oneId) (b := zId) h3 oneId_ok zId_ok (by simp)).mono ?_
  rintro e w' ⟨rfl, s', nx⟩
  refine ⟨by rw [one_ins]; rfl, ?_⟩
  have bb : Below W7.heap.size W8 w' := nx.tch.belowS b3.size l3
  have h' : TL w s A t B v w' := h.below (b3.trans bb)
  rw [← nx.sb]
  refine (ids_any nx.at').mono ?_
  rintro e w2 ⟨v2, rfl, ow, b2⟩
  obtain ⟨a, c, rfl, _, _⟩ := ow.open (fun x hx => by
    obtain ⟨e, he, rfl⟩ := List.mem_map.1 hx
    exact (nx.at'.lk.ok.ok e (List.mem_filter.1 he).1).1)
  refine ⟨a, c, ?_, ?_⟩
  · have := one_len
    unfold idsE at this
    rw [this]
  · have h2 := h'.below b2
    refine (len_any h2.tw.p).mono ?_
    rintro e w3 ⟨rfl, b4⟩
    refine ⟨?_, (h2.below b4).tw.bel⟩
    rw [hn]; unfold idsE; rw [List.length_map]
theorem box_one (w : World) : ∃ w', (Instr.storeAt 32 (.pointer (some ⟨w.heap.size, 0, none⟩)) oneId.v).run Try.prog (w.alloc (.cells zId.c.toArray 32)) = .ok () w' ∧ IdAt w' w.heap.size oneId ∧ Below w.heap.size w w' := by
  have hb := id_new w zId
  have bx : Below w.heap.size w (w.alloc (.cells zId.c.toArray 32)) := (Below.refl _ _).alloc (Nat.le_refl _) _
  exact ⟨_, store_id zId_ok oneId_ok hb, hb.set oneId, bx.trans (set_below _ bx.size (Nat.le_refl _))⟩
end Go.Proofs.Ytlejbdepoemcjaa

namespace Go.Proofs.Ytlejbdepoemcjaa
open Go.RowKit Sq
set_option linter.unusedVariables false
set_option linter.unusedSimpArgs false

set_option maxRecDepth 100000 in
set_option maxHeartbeats 8000000 in
theorem woven_all (a : Option Addr) (c : Nat) (l : List PutV) (a1 : Option Addr) (c1 : Nat) (U : List Bool) (a2 : Option Addr) (c2 : Nat) (V : List Bool) (w : World) (hP : PutsAt w a l) (ok : ∀ x ∈ l, x.ok) (hl : l.length ≤ 1048576) (hU : BoolsAt w a1 U) (hUl : U.length ≤ 1048576) (hV : BoolsAt w a2 V) (hVl : V.length ≤ 1048576) : Calls Try.prog 6 #[.slice a l.length c, .slice a1 U.length c1, .slice a2 V.length c2] w fun e w' => e = .returned (.bool true) ∧ Below w.heap.size w w' := by
  obtain ⟨m, hm⟩ : ∃ m, l.length = m := ⟨_, rfl⟩
  obtain ⟨n1, hn1⟩ : ∃ n, U.length = n := ⟨_, rfl⟩
  obtain ⟨n2, hn2⟩ : ∃ n, V.length = n := ⟨_, rfl⟩
  have HNA := hidMk (new_any w)
  have HM := hidMk (And.intro hm hl)
  have HN1 := hidMk (And.intro hn1 hUl)
  have HN2 := hidMk (And.intro hn2 hVl)
  have HP := hidMk hP
  have HU := hidMk hU
  have HV := hidMk hV
  rw [hm, hn1, hn2]
  clear hm hn1 hn2 hl hUl hVl hP hU hV
  go_enter Try.func6, Try.ntmps6
  go_wp2_with (first
    | (go_at_call 7; refine HNA.out.mono ?_; rintro e w1 ⟨s, rfl, h1, l1, b1⟩; have C1 := hidMk (And.intro h1 (And.intro l1 b1)); clear h1 l1 b1 HNA)
    | (go_at_call 7; refine (new_any _).mono ?_; rintro e w2 ⟨t, rfl, h2, l2, b2⟩; have C2 := hidMk (ws_new (l := l) (W := w) C1.out.1 C1.out.2.1 C1.out.2.2 h2 l2 b2); clear h2 l2 b2 C1)
    | fail)
  generalize s.sb = sa at *
  generalize t.sb = sb at *
  go_loopw [9] (fun v9 wr => ∃ (i : Nat), v9 = .int .i64 (i : Int) ∧ i ≤ m ∧ Hid (Ws l w sa sb i wr)) (fun v9 wr => m - (match v9 with | .int _ i => i.toNat | _ => 0))
  case atStart => exact ⟨0, rfl, Nat.zero_le _, C2⟩
  case round =>
    clear C2
    obtain ⟨i, rfl, him, hI⟩ := hrel
    have hmb : m ≤ 1400000000000 := by have := HM.out; omega
    by_cases hi : i < m
    · have hi' : i < l.length := by have := HM.out.1; omega
      obtain ⟨pb, po, rfl, hb, hr⟩ := HP.out.get hi'
      have hpo := ok l[i] (List.getElem_mem hi')
      obtain ⟨p, hpe⟩ : ∃ p, l[i] = p := ⟨_, rfl⟩
      rw [hpe] at hr hpo
      have HPE := hidMk hpe
      have HR := hidMk hr
      clear hpe hr
      have hib : i ≤ 1048576 := by have := HM.out; omega
      go_wp2
      go_loopw [10] (fun v10 wq => ∃ (k : Nat), v10 = .int .i64 (k : Int) ∧ k ≤ i ∧ Hid (Ws l w sa sb i wq) ∧ Hid (∀ q ∈ l.take k, q.id ≠ p.id)) (fun v10 wq => i - (match v10 with | .int _ k => k.toNat | _ => 0))
      case atStart => exact ⟨0, rfl, Nat.zero_le _, hI, fun q hq => by simp at hq⟩
      case round =>
        clear hI
        obtain ⟨k, rfl, hki, hQ, hT⟩ := hrel
        by_cases hk : k < i
        · have hkl : k < l.length := by omega
          obtain ⟨pb', po', he', _, hrk⟩ := HP.out.get hkl
          cases he'
          have hqo := ok l[k] (List.getElem_mem hkl)
          obtain ⟨q, hqe⟩ : ∃ q, l[k] = q := ⟨_, rfl⟩
          rw [hqe] at hrk hqo
          have HT1 : Hid (q.id ≠ p.id → ∀ x ∈ l.take (k + 1), x.id ≠ p.id) := fun h x hx => by
            rw [List.take_add_one, List.getElem?_eq_getElem hkl, hqe] at hx
            rcases List.mem_append.1 hx with hx | hx
            · exact hT.out x hx
            · have : x = q := by simpa using hx
              rw [this]; exact h
          clear hqe
          go_upto_region 8 with fail
          by_cases he : q.id = p.id
          · refine twn8 (p := p) (q := q) (r := true) _ _ _ rfl rfl rfl rfl hpo hi hmb hqo (by omega) (rangeAt_keep HR.out (hQ.out.drew.bel.block pb hb)) (rangeAt_keep hrk (hQ.out.drew.bel.block pb hb)) (decide_eq_true he) ?_
            intro a' w4 hw4 ha
            subst ha
            obtain rfl : w4 = wr.drew := hw4
            simp only [Act.put, List.setIfInBounds_toArray, List.set_cons_zero, List.set_cons_succ]
            have Q4 := hidMk hQ.out.drew.bel
            clear hrk hQ
            go_wp2
            go_ret
            exact ⟨rfl, Q4.out⟩
          · refine twn8 (p := p) (q := q) (r := false) _ _ _ rfl rfl rfl rfl hpo hi hmb hqo (by omega) (rangeAt_keep HR.out (hQ.out.drew.bel.block pb hb)) (rangeAt_keep hrk (hQ.out.drew.bel.block pb hb)) (decide_eq_false he) ?_
            intro a' w4 hw4 ha
            subst ha
            obtain rfl : w4 = wr.drew := hw4
            simp only [Act.put, List.setIfInBounds_toArray, List.set_cons_zero, List.set_cons_succ]
            have Q4 := hidMk hQ.out.drew
            have HE := hidMk he
            clear hrk hQ he
            go_wp2
            have hq : ((k : Int) + 1) = ((k + 1 : Nat) : Int) := by omega
            rw [hq]
            refine ⟨⟨k + 1, rfl, hk, Q4, HT1.out HE.out⟩, ?_⟩
            show i - ((k + 1 : Nat) : Int).toNat < i - (k : Int).toNat
            omega
        · obtain rfl : i = k := by omega
          clear hki
          go_upto_region 10 with fail
          by_cases hu : i < n1
          · have hu' : i < U.length := by have := HN1.out.1; omega
            obtain ⟨ub, uo, rfl, hub, hur⟩ := HU.out.get hu'
            have hur2 := (World.cell?_of_block (a := ⟨ub, uo + i, none⟩) (hQ.out.bel.block ub hub)).trans hur
            generalize U[i] = v at *
            refine twn10a (v := v) _ _ _ rfl rfl rfl hu (by have := HN1.out; omega) hur2 ?_
            intro a' wh hw5 ha
            subst ha
            obtain rfl : wh = wr := hw5
            simp only [Act.put, List.setIfInBounds_toArray, List.set_cons_zero, List.set_cons_succ]
            clear hur2 hur
            cases v with
            | true =>
              go_upto_region 11 with fail
              refine twn11 (p := p) (fun wz => Wh l p true w sa sb i wz) _ _ _ rfl rfl rfl rfl hpo hi hmb (rangeAt_keep HR.out (hQ.out.drew.bel.block pb hb)) ((hQ.out.drew.insA hT.out hpo hib).mono fun e w' ⟨c, h1, h2⟩ => ⟨c, h1, rangeAt_keep HR.out (h2.bel.block pb hb), h2⟩) ?_
              intro c' a' wj h6 ha
              subst ha
              simp only [Act.put, List.setIfInBounds_toArray, List.set_cons_zero, List.set_cons_succ]
              have H := hidMk h6
              clear h6 hQ
              go_upto_region 12 with fail
              by_cases hv : i < n2
              · have hv' : i < V.length := by have := HN2.out.1; omega
                obtain ⟨bb, bo, rfl, hbb, hbr⟩ := HV.out.get hv'
                have hbr2 := (World.cell?_of_block (a := ⟨bb, bo + i, none⟩) (H.out.bel.block bb hbb)).trans hbr
                generalize V[i] = v at *
                refine twn12a (v := v) _ _ _ rfl rfl rfl hv (by have := HN2.out; omega) hbr2 ?_
                intro a' w7 hw7 ha
                subst ha
                obtain rfl : w7 = wj := hw7
                simp only [Act.put, List.setIfInBounds_toArray, List.set_cons_zero, List.set_cons_succ]
                clear hbr2 hbr
                cases v with
                | true =>
                  go_upto_region 13 with fail
                  refine twn13 (p := p) (fun wz => Ws l w sa sb (i + 1) wz) _ _ _ rfl rfl rfl rfl hpo hi hmb (rangeAt_keep HR.out (H.out.drew.bel.block pb hb)) ((H.out.drew.insB hpo hib hi' HPE.out).mono fun e w' ⟨c, h1, h2⟩ => ⟨c, h1, rangeAt_keep HR.out (h2.bel.block pb hb), h2⟩) ?_
                  intro c' a' w8 h8 ha
                  subst ha
                  simp only [Act.put, List.setIfInBounds_toArray, List.set_cons_zero, List.set_cons_succ]
                  have D := hidMk h8
                  clear h8 H
                  go_wp2
                  have hq : ((i : Int) + 1) = ((i + 1 : Nat) : Int) := by omega
                  rw [hq]
                  refine ⟨⟨i + 1, rfl, hi, D⟩, ?_⟩
                  show m - ((i + 1 : Nat) : Int).toNat < m - (i : Int).toNat
                  omega
                | false =>
                  have D := hidMk (H.out.done hi' HPE.out)
                  clear H
                  go_wp2
                  have hq : ((i : Int) + 1) = ((i + 1 : Nat) : Int) := by omega
                  rw [hq]
                  refine ⟨⟨i + 1, rfl, hi, D⟩, ?_⟩
                  show m - ((i + 1 : Nat) : Int).toNat < m - (i : Int).toNat
                  omega
              · refine twn12b _ _ _ rfl rfl rfl hv ?_
                intro a' w7 hw7 ha
                subst ha
                obtain rfl : w7 = wj := hw7
                simp only [Act.put, List.setIfInBounds_toArray, List.set_cons_zero, List.set_cons_succ]
                have D := hidMk (H.out.done hi' HPE.out)
                clear H
                go_wp2
                have hq : ((i : Int) + 1) = ((i + 1 : Nat) : Int) := by omega
                rw [hq]
                refine ⟨⟨i + 1, rfl, hi, D⟩, ?_⟩
                show m - ((i + 1 : Nat) : Int).toNat < m - (i : Int).toNat
                omega
            | false =>
              have H := hidMk (hQ.out.half hT.out)
              clear hQ
              go_upto_region 12 with fail
              by_cases hv : i < n2
              · have hv' : i < V.length := by have := HN2.out.1; omega
                obtain ⟨bb, bo, rfl, hbb, hbr⟩ := HV.out.get hv'
                have hbr2 := (World.cell?_of_block (a := ⟨bb, bo + i, none⟩) (H.out.bel.block bb hbb)).trans hbr
                generalize V[i] = v at *
                refine twn12a (v := v) _ _ _ rfl rfl rfl hv (by have := HN2.out; omega) hbr2 ?_
                intro a' w7 hw7 ha
                subst ha
                obtain rfl : w7 = wh := hw7
                simp only [Act.put, List.setIfInBounds_toArray, List.set_cons_zero, List.set_cons_succ]
                clear hbr2 hbr
                cases v with
                | true =>
                  go_upto_region 13 with fail
                  refine twn13 (p := p) (fun wz => Ws l w sa sb (i + 1) wz) _ _ _ rfl rfl rfl rfl hpo hi hmb (rangeAt_keep HR.out (H.out.drew.bel.block pb hb)) ((H.out.drew.insB hpo hib hi' HPE.out).mono fun e w' ⟨c, h1, h2⟩ => ⟨c, h1, rangeAt_keep HR.out (h2.bel.block pb hb), h2⟩) ?_
                  intro c' a' w8 h8 ha
                  subst ha
                  simp only [Act.put, List.setIfInBounds_toArray, List.set_cons_zero, List.set_cons_succ]
                  have D := hidMk h8
                  clear h8 H
                  go_wp2
                  have hq : ((i : Int) + 1) = ((i + 1 : Nat) : Int) := by omega
                  rw [hq]
                  refine ⟨⟨i + 1, rfl, hi, D⟩, ?_⟩
                  show m - ((i + 1 : Nat) : Int).toNat < m - (i : Int).toNat
                  omega
                | false =>
                  have D := hidMk (H.out.done hi' HPE.out)
                  clear H
                  go_wp2
                  have hq : ((i : Int) + 1) = ((i + 1 : Nat) : Int) := by omega
                  rw [hq]
                  refine ⟨⟨i + 1, rfl, hi, D⟩, ?_⟩
                  show m - ((i + 1 : Nat) : Int).toNat < m - (i : Int).toNat
                  omega
              · refine twn12b _ _ _ rfl rfl rfl hv ?_
                intro a' w7 hw7 ha
                subst ha
                obtain rfl : w7 = wh := hw7
                simp only [Act.put, List.setIfInBounds_toArray, List.set_cons_zero, List.set_cons_succ]
                have D := hidMk (H.out.done hi' HPE.out)
                clear H
                go_wp2
                have hq : ((i : Int) + 1) = ((i + 1 : Nat) : Int) := by omega
                rw [hq]
                refine ⟨⟨i + 1, rfl, hi, D⟩, ?_⟩
                show m - ((i + 1 : Nat) : Int).toNat < m - (i : Int).toNat
                omega
          · refine twn10b _ _ _ rfl rfl rfl hu ?_
            intro a' wh hw5 ha
            subst ha
            have H : Hid (Wh l p false w sa sb i wh) := by rw [show wh = _ from hw5]; exact hQ.out.half hT.out
            clear hQ hw5
            simp only [Act.put, List.setIfInBounds_toArray, List.set_cons_zero, List.set_cons_succ]
            go_upto_region 12 with fail
            by_cases hv : i < n2
            · have hv' : i < V.length := by have := HN2.out.1; omega
              obtain ⟨bb, bo, rfl, hbb, hbr⟩ := HV.out.get hv'
              have hbr2 := (World.cell?_of_block (a := ⟨bb, bo + i, none⟩) (H.out.bel.block bb hbb)).trans hbr
              generalize V[i] = v at *
              refine twn12a (v := v) _ _ _ rfl rfl rfl hv (by have := HN2.out; omega) hbr2 ?_
              intro a' w7 hw7 ha
              subst ha
              obtain rfl : w7 = wh := hw7
              simp only [Act.put, List.setIfInBounds_toArray, List.set_cons_zero, List.set_cons_succ]
              clear hbr2 hbr
              cases v with
              | true =>
                go_upto_region 13 with fail
                refine twn13 (p := p) (fun wz => Ws l w sa sb (i + 1) wz) _ _ _ rfl rfl rfl rfl hpo hi hmb (rangeAt_keep HR.out (H.out.drew.bel.block pb hb)) ((H.out.drew.insB hpo hib hi' HPE.out).mono fun e w' ⟨c, h1, h2⟩ => ⟨c, h1, rangeAt_keep HR.out (h2.bel.block pb hb), h2⟩) ?_
                intro c' a' w8 h8 ha
                subst ha
                simp only [Act.put, List.setIfInBounds_toArray, List.set_cons_zero, List.set_cons_succ]
                have D := hidMk h8
                clear h8 H
                go_wp2
                have hq : ((i : Int) + 1) = ((i + 1 : Nat) : Int) := by omega
                rw [hq]
                refine ⟨⟨i + 1, rfl, hi, D⟩, ?_⟩
                show m - ((i + 1 : Nat) : Int).toNat < m - (i : Int).toNat
                omega
              | false =>
                have D := hidMk (H.out.done hi' HPE.out)
                clear H
                go_wp2
                have hq : ((i : Int) + 1) = ((i + 1 : Nat) : Int) := by omega
                rw [hq]
                refine ⟨⟨i + 1, rfl, hi, D⟩, ?_⟩
                show m - ((i + 1 : Nat) : Int).toNat < m - (i : Int).toNat
                omega
            · refine twn12b _ _ _ rfl rfl rfl hv ?_
              intro a' w7 hw7 ha
              subst ha
              obtain rfl : w7 = wh := hw7
              simp only [Act.put, List.setIfInBounds_toArray, List.set_cons_zero, List.set_cons_succ]
              have D := hidMk (H.out.done hi' HPE.out)
              clear H
              go_wp2
              have hq : ((i : Int) + 1) = ((i + 1 : Nat) : Int) := by omega
              rw [hq]
              refine ⟨⟨i + 1, rfl, hi, D⟩, ?_⟩
              show m - ((i + 1 : Nat) : Int).toNat < m - (i : Int).toNat
              omega
    · obtain rfl : m = i := by omega
      clear him hi
      obtain ⟨s, A, t, B, rfl, rfl, hTW, hAg, hA, hB, _, _⟩ := hI.out
      have HTW := hidMk hTW
      have HAg := hidMk hAg
      have hAl : A.length ≤ 1048576 := by have := HM.out; omega
      clear hI hTW hAg
      go_wp2_with (first
        | (go_at_call 22; refine (HTW.out.ids hAl).mono ?_; rintro e w3 ⟨v3, n3, c3, rfl, hn3, B3⟩; have O3 := hidMk B3; have HN3 := hidMk hn3; clear B3 hn3 HTW)
        | fail)
      go_loopw [11, 13] (fun v11 v13 wq => ∃ (k : Nat) (z : Int), v11 = .int .i64 z ∧ v13 = .int .i64 (k : Int) ∧ k ≤ n3 ∧ Hid (TL w s A t B (.slice v3 n3 c3) wq) ∧ Hid (∀ j, k ≤ j → j < n3 → 0 ≤ rkW A B j → z < rkW A B j)) (fun v11 v13 wq => n3 - (match v13 with | .int _ k => k.toNat | _ => 0))
      case atStart => exact ⟨0, -1, rfl, rfl, Nat.zero_le _, O3, fun j _ _ h => by omega⟩
      case round =>
        clear O3
        obtain ⟨k, z, rfl, rfl, hkn, hO, hz⟩ := hrel
        have hnb := HN3.out.2
        by_cases hk : k < n3
        · obtain ⟨wb, wo, rfl, hx, hr3⟩ := hO.out.get HN3.out.1 hk
          have CH := has_any hO.out.tw.q hx
          go_upto_region 19 with fail
          have hlt := rangeAt_lt hr3 (by rw [IdK.len hx]; omega)
          refine twn19 (x := (idsE A false).getD k zId) (r := hasE B ((idsE A false).getD k zId)) (fun wz => TL w s A t B (.slice (some ⟨wb, wo, none⟩) n3 c3) wz ∧ wz.rangeAt wb (wo + 33 * k) ((idsE A false).getD k zId).c) _ _ _ rfl rfl rfl rfl hx hk hnb hr3 (CH.mono fun e w' ⟨h1, h2⟩ => ⟨h1, hO.out.below h2, rangeAt_below hr3 h2 hlt⟩) ?_
          rintro a' w4 ⟨B4, R4⟩ ha
          subst ha
          simp only [Act.put, List.setIfInBounds_toArray, List.set_cons_zero, List.set_cons_succ]
          have hmore : Hid (∀ j, k + 1 ≤ j → j < n3 → 0 ≤ rkW A B k → 0 ≤ rkW A B j → rkW A B k < rkW A B j) := fun j h1 h2 h3 h4 => agree_get HAg.out hO.out.tw.q.lk.ok HN3.out.1 (by omega) h2 h3 h4
          have hzk : Hid (0 ≤ rkW A B k → z < rkW A B k) := fun q => hz.out k (Nat.le_refl _) hk q
          have hpos : Hid (hasE B ((idsE A false).getD k zId) = true → 0 ≤ rkW A B k) := fun q => rank_pos (c := false) q
          have CR : Hid (∀ X, TL w s A t B (.slice (some ⟨wb, wo, none⟩) n3 c3) X → Calls Try.prog 24 #[.pointer (some ⟨t.sb, 0, none⟩), ((idsE A false).getD k zId).v] X fun e w' => e = .returned (.int .i64 (rkW A B k)) ∧ Below X.heap.size X w') := fun X hX => rank_any hX.tw.q hx
          generalize (idsE A false).getD k zId = x at *
          generalize rkW A B k = r at *
          have O4 := hidMk B4
          have HR4 := hidMk R4
          clear CH hr3 hO B4 R4
          cases hh : hasE B x with
          | true =>
            have hr0 : 0 ≤ r := hpos.out hh
            go_upto_region 20 with fail
            have hlt4 := rangeAt_lt HR4.out (by rw [IdK.len hx]; omega)
            refine twn20 (x := x) (r := r) (z := z) (fun wz => TL w s A t B (.slice (some ⟨wb, wo, none⟩) n3 c3) wz ∧ wz.rangeAt wb (wo + 33 * k) x.c) _ _ _ rfl rfl rfl rfl rfl hx hk hnb (decide_eq_false (by have := hzk.out hr0; omega)) HR4.out ((CR.out _ O4.out).mono fun e w' ⟨h1, h2⟩ => ⟨h1, O4.out.below h2, rangeAt_below HR4.out h2 hlt4⟩) ?_
            rintro a' w5 ⟨B5, R5⟩ ha
            subst ha
            simp only [Act.put, List.setIfInBounds_toArray, List.set_cons_zero, List.set_cons_succ]
            clear O4 HR4 hlt4 hlt
            go_upto_region 22 with fail
            refine twn22 (x := x) (r := r) (fun wz => TL w s A t B (.slice (some ⟨wb, wo, none⟩) n3 c3) wz) _ _ _ rfl rfl rfl rfl hx hk hnb R5 ((CR.out _ B5).mono fun e w' ⟨h1, h2⟩ => ⟨h1, B5.below h2⟩) ?_
            intro a' w6 B6 ha
            subst ha
            simp only [Act.put, List.setIfInBounds_toArray, List.set_cons_zero, List.set_cons_succ]
            have O6 := hidMk B6
            have HR0 := hidMk hr0
            clear B5 R5 B6 CR hzk hz hpos hh hr0
            go_wp2
            have hq : ((k : Int) + 1) = ((k + 1 : Nat) : Int) := by omega
            rw [hq]
            refine ⟨⟨k + 1, r, rfl, rfl, hk, O6, fun j h1 h2 h3 => hmore.out j h1 h2 HR0.out h3⟩, ?_⟩
            show n3 - ((k + 1 : Nat) : Int).toNat < n3 - (k : Int).toNat
            omega
          | false =>
            clear CR hzk hpos hh hmore HR4 hlt
            go_wp2
            have hq : ((k : Int) + 1) = ((k + 1 : Nat) : Int) := by omega
            rw [hq]
            refine ⟨⟨k + 1, z, rfl, rfl, hk, O4, fun j h1 h2 h3 => hz.out j (by omega) h2 h3⟩, ?_⟩
            show n3 - ((k + 1 : Nat) : Int).toNat < n3 - (k : Int).toNat
            omega
        · obtain rfl : n3 = k := by omega
          clear hkn hk hz
          go_upto_region 23 with fail
          obtain ⟨w7, E1, hbox, b7⟩ := box_one wr
          refine twn23 _ _ _ rfl E1 ?_
          intro a' w7' hw7 ha
          subst ha
          obtain rfl : w7' = w7 := hw7
          simp only [Act.put, List.setIfInBounds_toArray, List.set_cons_zero, List.set_cons_succ]
          have O7 := hidMk (hO.out.below b7)
          have HBX := hidMk hbox
          clear hO E1 b7 hbox
          generalize wr.heap.size = bx at *
          go_upto_region 25 with (first
            | (go_at_call 7; refine (new_any _).mono ?_; rintro e w8 ⟨s3, rfl, h3, l3, b3⟩; have CE := hidMk (woven_end O7.out h3 l3 b3 HN3.out.1); have HX8 := hidMk (HBX.out.below b3); clear h3 l3 b3 O7 HBX)
            | fail)
          refine twn25 (fun wz => Below w.heap.size w wz) _ _ _ rfl rfl rfl rfl rfl HX8.out CE.out ?_
          intro v9 c9 a' w9 hw9 ha
          subst ha
          simp only [Act.put, List.setIfInBounds_toArray, List.set_cons_zero, List.set_cons_succ]
          have HB9 := hidMk hw9
          clear hw9 CE HX8
          go_wp2
          go_ret
          exact ⟨rfl, HB9.out⟩
end Go.Proofs.Ytlejbdepoemcjaa

