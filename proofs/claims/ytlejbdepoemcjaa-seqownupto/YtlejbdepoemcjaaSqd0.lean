import Derived.Test.YtlejbdepoemcjaaZr
import Derived.Test.YtlejbdepoemcjaaSqc
namespace Go.Proofs.Ytlejbdepoemcjaa
open Go.RowKit Sq
set_option linter.unusedVariables false
set_option linter.unusedSimpArgs false

def has1_o0 : Oper := { dst := some 5, op := Op.move (Operand.tmp 0), type := 23, pos := "seq.go:135", after := #[], guard := none }
def has1_o1 : Oper := { dst := some 6, op := Op.binOp BinOp.neq 23 (Operand.tmp 5) (Operand.const (Value.pointer none)) 23, type := 4, pos := "seq.go:135", after := #[{ on := 0, ground := Ground.data }], guard := none }
def has1_o2 : Oper := { dst := some 7, op := Op.move (Operand.tmp 6), type := 4, pos := "seq.go:135", after := #[{ on := 1, ground := Ground.data }], guard := none }
def has1_o3 : Oper := { dst := some 8, op := Op.move (Operand.tmp 0), type := 23, pos := "seq.go:135", after := #[{ on := 2, ground := Ground.guard }], guard := some (2, true) }
def has1_o4 : Oper := { dst := some 9, op := Op.nilCheck (Operand.tmp 8), type := 0, pos := "seq.go:135", after := #[{ on := 3, ground := Ground.data }, { on := 2, ground := Ground.guard }], guard := some (2, true) }
def has1_o5 : Oper := { dst := some 10, op := Op.fieldAddr 92 (Operand.tmp 9) 0, type := 0, pos := "seq.go:135", after := #[{ on := 4, ground := Ground.data }, { on := 2, ground := Ground.guard }], guard := some (2, true) }
def has1_o6 : Oper := { dst := some 11, op := Op.load 84 (Operand.tmp 10), type := 84, pos := "seq.go:135", after := #[{ on := 5, ground := Ground.data }, { on := 2, ground := Ground.guard }], guard := some (2, true) }
def has1_o7 : Oper := { dst := some 12, op := Op.load 32 (Operand.tmp 3), type := 32, pos := "seq.go:135", after := #[{ on := 2, ground := Ground.guard }], guard := some (2, true) }
def has1_o8 : Oper := { dst := some 13, op := Op.lookup 84 (Operand.tmp 11) (Operand.tmp 12) false, type := 3, pos := "seq.go:135", after := #[{ on := 6, ground := Ground.data }, { on := 7, ground := Ground.data }, { on := 2, ground := Ground.guard }], guard := some (2, true) }
def has1_o9 : Oper := { dst := some 14, op := Op.binOp BinOp.neq 3 (Operand.tmp 13) (Operand.const (Value.int IntKind.i64 0)) 3, type := 4, pos := "seq.go:135", after := #[{ on := 8, ground := Ground.data }, { on := 2, ground := Ground.guard }], guard := some (2, true) }
def has1_o10 : Oper := { dst := some 15, op := Op.pick (Operand.tmp 7) (Operand.tmp 14) (Operand.const (Value.bool false)), type := 4, pos := "seq.go:135", after := #[{ on := 2, ground := Ground.data }, { on := 9, ground := Ground.data }], guard := none }
def has1_o11 : Oper := { dst := some 4, op := Op.assign (Operand.tmp 15), type := 4, pos := "seq.go:135", after := #[{ on := 10, ground := Ground.data }, { on := 2, ground := Ground.chain }, { on := 0, ground := Ground.phase }, { on := 1, ground := Ground.phase }, { on := 2, ground := Ground.phase }, { on := 3, ground := Ground.phase }, { on := 4, ground := Ground.phase }, { on := 5, ground := Ground.phase }, { on := 6, ground := Ground.phase }, { on := 7, ground := Ground.phase }, { on := 8, ground := Ground.phase }, { on := 9, ground := Ground.phase }, { on := 10, ground := Ground.phase }], guard := none }
def has1_ops : Array Oper := #[has1_o0, has1_o1, has1_o2, has1_o3, has1_o4, has1_o5, has1_o6, has1_o7, has1_o8, has1_o9, has1_o10, has1_o11]
set_option maxRecDepth 100000 in
set_option maxHeartbeats 4000000 in
theorem has1 {s : Sx} {E : List Elt} {b1 i : Nat} {k : IdK} {r : Bool} (a : Act) (w : World) (Q : Exit → Act → World → Prop) (zz : a.tmps.size = 16)
    (t0 : a.tmps.getD 0 undef = .pointer (some ⟨s.sb, 0, none⟩))
    (t3 : a.tmps.getD 3 undef = .pointer (some ⟨b1, 0, none⟩))
    (hS : SeqAt w s E) (hk : k.ok) (ib1 : IdAt w b1 k) (ei : spotOf s k = i) (hr : decide ((i : Int) ≠ 0) = r)
    (h : ∀ (a' : Act) (w' : World), w' = w.drew → a' = ((((((((((((a).put (some 5) (.pointer (some ⟨s.sb, 0, none⟩))).put (some 6) (.bool true)).put (some 7) (.bool true)).put (some 8) (.pointer (some ⟨s.sb, 0, none⟩))).put (some 9) (.pointer (some ⟨s.sb, 0, none⟩))).put (some 10) (.pointer (some ⟨s.sb, 0, none⟩))).put (some 11) (.map (some s.mb))).put (some 12) (k.v)).put (some 13) (.int .i64 (i : Int))).put (some 14) (.bool r)).put (some 15) (.bool r)).put (some 4) (.bool r) → Q .normal a' w') :
    (Code.region 1 has1_ops true).wp Try.prog Q a w := by
  refine y0 (fun w' => w' = w.drew) (rfl) (fun hHeld => ?_)
  refine yv 0 rfl rfl (fun w1 hw => exec_move rfl (zi t0 rfl)) hHeld ?_
  refine yv (v := .bool true) 1 rfl rfl (fun w1 hw => zu1 (zg (i := 5) zz rfl) (fun b t5 => by show (execOp b.eval has1_o1).run _ _ = _; unfold has1_o1; go_simp)) hHeld ?_
  refine yv 2 rfl rfl (fun w1 hw => exec_move rfl (zg zz rfl)) hHeld ?_
  refine yv 3 rfl (zw zz rfl rfl rfl (zg zz rfl)) (fun w1 hw => exec_move rfl (zi t0 rfl)) hHeld ?_
  refine yv 4 rfl (zw zz rfl rfl rfl (zg zz rfl)) (fun w1 hw => exec_nilCheck rfl (zg zz rfl)) hHeld ?_
  refine yv 5 rfl (zw zz rfl rfl rfl (zg zz rfl)) (fun w1 hw => exec_fieldAt rfl (zg zz rfl) (fg_92_0 _ _ _)) hHeld ?_
  refine yv 6 rfl (zw zz rfl rfl rfl (zg zz rfl)) (fun w1 hw => exec_load rfl (zg zz rfl) (ld_map (hw ▸ hS.drew : SeqAt _ s E).c0)) hHeld ?_
  refine yv 7 rfl (zw zz rfl rfl rfl (zg zz rfl)) (fun w1 hw => exec_load rfl (zi t3 rfl) (load_id hk (hw ▸ ib1 : IdAt _ b1 k))) hHeld ?_
  refine yv (v := .int .i64 (i : Int)) 8 rfl (zw zz rfl rfl rfl (zg zz rfl)) (fun w1 hw => exec_lookup rfl (zg zz rfl) (zg zz rfl) (by rw [look_spot (hw ▸ hS.drew : SeqAt _ s E) k hk, ei])) hHeld ?_
  refine yv (v := .bool r) 9 rfl (zw zz rfl rfl rfl (zg zz rfl)) (fun w1 hw => ex_neq rfl (zg zz rfl) rfl hr) hHeld ?_
  refine yv 10 rfl rfl (fun w1 hw => exec_pickT rfl (zg zz rfl) (zg zz rfl)) hHeld ?_
  refine yv 11 rfl rfl (fun w1 hw => exec_assign rfl (zg zz rfl)) hHeld ?_
  exact ye rfl (h _ _ (hHeld) rfl)
def elem1_o0 : Oper := { dst := some 5, op := Op.move (Operand.tmp 0), type := 23, pos := "seq.go:92", after := #[], guard := none }
def elem1_o1 : Oper := { dst := some 6, op := Op.nilCheck (Operand.tmp 5), type := 0, pos := "seq.go:92", after := #[{ on := 0, ground := Ground.data }], guard := none }
def elem1_o2 : Oper := { dst := some 7, op := Op.fieldAddr 92 (Operand.tmp 6) 1, type := 0, pos := "seq.go:92", after := #[{ on := 1, ground := Ground.data }], guard := none }
def elem1_o3 : Oper := { dst := some 8, op := Op.fieldAddr 87 (Operand.tmp 7) 0, type := 0, pos := "seq.go:92", after := #[{ on := 2, ground := Ground.data }], guard := none }
def elem1_o4 : Oper := { dst := some 9, op := Op.load 85 (Operand.tmp 8), type := 85, pos := "seq.go:92", after := #[{ on := 3, ground := Ground.data }], guard := none }
def elem1_o5 : Oper := { dst := some 10, op := Op.move (Operand.tmp 1), type := 3, pos := "seq.go:92", after := #[], guard := none }
def elem1_o6 : Oper := { dst := some 11, op := Op.indexAddr 85 (Operand.tmp 9) (Operand.tmp 10), type := 0, pos := "seq.go:92", after := #[{ on := 4, ground := Ground.data }, { on := 5, ground := Ground.data }], guard := none }
def elem1_o7 : Oper := { dst := some 12, op := Op.fieldAddr 113 (Operand.tmp 11) 0, type := 0, pos := "seq.go:92", after := #[{ on := 6, ground := Ground.data }], guard := none }
def elem1_o8 : Oper := { dst := some 4, op := Op.assign (Operand.tmp 12), type := 96, pos := "seq.go:92", after := #[{ on := 7, ground := Ground.data }, { on := 0, ground := Ground.phase }, { on := 1, ground := Ground.phase }, { on := 2, ground := Ground.phase }, { on := 3, ground := Ground.phase }, { on := 4, ground := Ground.phase }, { on := 5, ground := Ground.phase }, { on := 6, ground := Ground.phase }, { on := 7, ground := Ground.phase }], guard := none }
def elem1_ops : Array Oper := #[elem1_o0, elem1_o1, elem1_o2, elem1_o3, elem1_o4, elem1_o5, elem1_o6, elem1_o7, elem1_o8]
set_option maxRecDepth 100000 in
set_option maxHeartbeats 4000000 in
theorem elem1 {s : Sx} {i : Nat} (a : Act) (w : World) (Q : Exit → Act → World → Prop) (zz : a.tmps.size = 13)
    (t0 : a.tmps.getD 0 undef = .pointer (some ⟨s.sb, 0, none⟩))
    (t1 : a.tmps.getD 1 undef = .int .i64 (i : Int))
    (hR : SqAt w s.sb 1 s.g s.cap s.L) (hi : i < s.L.length)
    (h : ∀ (a' : Act) (w' : World), w' = w → a' = (((((((((a).put (some 5) (.pointer (some ⟨s.sb, 0, none⟩))).put (some 6) (.pointer (some ⟨s.sb, 0, none⟩))).put (some 7) (.pointer (some ⟨s.sb, 1, none⟩))).put (some 8) (.pointer (some ⟨s.sb, 1, none⟩))).put (some 9) (.slice (some ⟨s.g, 0, none⟩) (s.L).length s.cap)).put (some 10) (.int .i64 (i : Int))).put (some 11) (.pointer (some ⟨s.g, 73 * i, none⟩))).put (some 12) (.pointer (some ⟨s.g, 73 * i + 0, none⟩))).put (some 4) (.pointer (some ⟨s.g, 73 * i + 0, none⟩)) → Q .normal a' w') :
    (Code.region 1 elem1_ops false).wp Try.prog Q a w := by
  refine z0 rfl ?_
  refine zv rfl (exec_move rfl (zi t0 rfl)) ?_
  refine zv rfl (exec_nilCheck rfl (zg zz rfl)) ?_
  refine zv rfl (exec_fieldAt rfl (zg zz rfl) (fg_92_1 _ _ _)) ?_
  refine zv rfl (exec_fieldAt rfl (zg zz rfl) (fg_87_0 _ _ _)) ?_
  refine zv rfl (exec_load rfl (zg zz rfl) (R_sl hR)) ?_
  refine zv rfl (exec_move rfl (zi t1 rfl)) ?_
  refine zv rfl (exec_indexAt rfl (zg zz rfl) (zg zz rfl) (R_ix hi hR.len _)) ?_
  refine zv rfl (exec_fieldAt rfl (zg zz rfl) (fg_113_0 _ _ _)) ?_
  refine zv rfl (exec_assign rfl (zg zz rfl)) ?_
  exact ze rfl (h _ _ (rfl) rfl)
def ins3_o0 : Oper := { dst := some 12, op := Op.fieldAddr 32 (Operand.tmp 4) 1, type := 0, pos := "seq.go:40", after := #[], guard := none }
def ins3_o1 : Oper := { dst := some 13, op := Op.load 3 (Operand.tmp 12), type := 3, pos := "seq.go:40", after := #[{ on := 0, ground := Ground.data }], guard := none }
def ins3_o2 : Oper := { dst := some 14, op := Op.binOp BinOp.lss 3 (Operand.tmp 13) (Operand.const (Value.int IntKind.i64 1)) 3, type := 4, pos := "seq.go:40", after := #[{ on := 1, ground := Ground.data }], guard := none }
def ins3_o3 : Oper := { dst := some 11, op := Op.assign (Operand.tmp 14), type := 4, pos := "seq.go:40", after := #[{ on := 2, ground := Ground.data }], guard := none }
def ins3_ops : Array Oper := #[ins3_o0, ins3_o1, ins3_o2, ins3_o3]
set_option maxRecDepth 100000 in
set_option maxHeartbeats 4000000 in
theorem ins3 {b1 : Nat} {k : IdK} {r : Bool} (a : Act) (w : World) (Q : Exit → Act → World → Prop) (zz : a.tmps.size = 57)
    (t4 : a.tmps.getD 4 undef = .pointer (some ⟨b1, 0, none⟩))
    (hk : k.ok) (ib1 : IdAt w b1 k) (hr : decide (k.n < 1) = r)
    (h : ∀ (a' : Act) (w' : World), w' = w → a' = ((((a).put (some 12) (.pointer (some ⟨b1, 32, none⟩))).put (some 13) (.int .i64 k.n)).put (some 14) (.bool r)).put (some 11) (.bool r) → Q .normal a' w') :
    (Code.region 3 ins3_ops false).wp Try.prog Q a w := by
  refine z0 rfl ?_
  refine zv rfl (exec_fieldAt rfl (zi t4 rfl) (fg_32_1 _ _ _)) ?_
  refine zv rfl (exec_load rfl (zg zz rfl) (ld_n hk ib1)) ?_
  refine zv (v := .bool r) rfl (ex_lss rfl (zg zz rfl) rfl hr) ?_
  refine zv rfl (exec_assign rfl (zg zz rfl)) ?_
  exact ze rfl (h _ _ (rfl) rfl)
def ins5_o0 : Oper := { dst := some 16, op := Op.move (Operand.tmp 0), type := 23, pos := "seq.go:42", after := #[], guard := none }
def ins5_o1 : Oper := { dst := some 17, op := Op.load 32 (Operand.tmp 4), type := 32, pos := "seq.go:42", after := #[], guard := none }
def ins5_o2 : Oper := { dst := some 18, op := Op.call { callee := Callee.value (Operand.func 31), args := #[Operand.tmp 16, Operand.tmp 17], argTypes := #[23, 32] }, type := 4, pos := "seq.go:42", after := #[{ on := 0, ground := Ground.data }, { on := 1, ground := Ground.data }], guard := none }
def ins5_o3 : Oper := { dst := some 15, op := Op.assign (Operand.tmp 18), type := 4, pos := "seq.go:42", after := #[{ on := 2, ground := Ground.data }, { on := 2, ground := Ground.chain }], guard := none }
def ins5_ops : Array Oper := #[ins5_o0, ins5_o1, ins5_o2, ins5_o3]
set_option maxRecDepth 100000 in
set_option maxHeartbeats 4000000 in
theorem ins5 {s : Sx} {b1 : Nat} {k : IdK} {r : Bool} (a : Act) (w : World) (Q : Exit → Act → World → Prop) (zz : a.tmps.size = 57)
    (t0 : a.tmps.getD 0 undef = .pointer (some ⟨s.sb, 0, none⟩))
    (t4 : a.tmps.getD 4 undef = .pointer (some ⟨b1, 0, none⟩))
    (hk : k.ok) (ib1 : IdAt w b1 k) (CH : Calls Try.prog 31 #[.pointer (some ⟨s.sb, 0, none⟩), k.v] w fun e w' => e = .returned (.bool r) ∧ Below w.heap.size w w')
    (h : ∀ (a' : Act) (w' : World), Below w.heap.size w w' → a' = ((((a).put (some 16) (.pointer (some ⟨s.sb, 0, none⟩))).put (some 17) (k.v)).put (some 18) (.bool r)).put (some 15) (.bool r) → Q .normal a' w') :
    (Code.region 5 ins5_ops false).wp Try.prog Q a w := by
  refine z0 rfl ?_
  refine zv rfl (exec_move rfl (zi t0 rfl)) ?_
  refine zv rfl (exec_load rfl (zi t4 rfl) (load_id hk ib1)) ?_
  refine zc rfl (exec_c2 rfl (zg zz rfl) (zg zz rfl)) (CH) (fun e x2 hx => ?_)
  obtain ⟨rfl, S1⟩ := hx
  refine ⟨_, rfl, ?_⟩
  refine zv rfl (exec_assign rfl (zg zz rfl)) ?_
  exact ze rfl (h _ _ (S1) rfl)
def ins7a_o0 : Oper := { dst := some 20, op := Op.load 32 (Operand.tmp 5), type := 32, pos := "seq.go:44", after := #[], guard := none }
def ins7a_o1 : Oper := { dst := some 21, op := Op.build 32 #[], type := 32, pos := "seq.go:44", after := #[], guard := none }
def ins7a_o2 : Oper := { dst := some 22, op := Op.binOp BinOp.neq 32 (Operand.tmp 20) (Operand.tmp 21) 32, type := 4, pos := "seq.go:44", after := #[{ on := 0, ground := Ground.data }, { on := 1, ground := Ground.data }], guard := none }
def ins7a_o3 : Oper := { dst := some 23, op := Op.move (Operand.tmp 22), type := 4, pos := "seq.go:44", after := #[{ on := 2, ground := Ground.data }], guard := none }
def ins7a_o4 : Oper := { dst := some 24, op := Op.move (Operand.tmp 0), type := 23, pos := "seq.go:44", after := #[{ on := 3, ground := Ground.guard }], guard := some (3, true) }
def ins7a_o5 : Oper := { dst := some 25, op := Op.load 32 (Operand.tmp 5), type := 32, pos := "seq.go:44", after := #[{ on := 3, ground := Ground.guard }], guard := some (3, true) }
def ins7a_o6 : Oper := { dst := some 26, op := Op.call { callee := Callee.value (Operand.func 31), args := #[Operand.tmp 24, Operand.tmp 25], argTypes := #[23, 32] }, type := 4, pos := "seq.go:44", after := #[{ on := 4, ground := Ground.data }, { on := 5, ground := Ground.data }, { on := 3, ground := Ground.chain }, { on := 3, ground := Ground.guard }], guard := some (3, true) }
def ins7a_o7 : Oper := { dst := some 27, op := Op.unOp UnOp.not 4 (Operand.tmp 26), type := 4, pos := "seq.go:44", after := #[{ on := 6, ground := Ground.data }, { on := 3, ground := Ground.guard }], guard := some (3, true) }
def ins7a_o8 : Oper := { dst := some 28, op := Op.pick (Operand.tmp 23) (Operand.tmp 27) (Operand.const (Value.bool false)), type := 4, pos := "seq.go:44", after := #[{ on := 3, ground := Ground.data }, { on := 7, ground := Ground.data }], guard := none }
def ins7a_o9 : Oper := { dst := some 19, op := Op.assign (Operand.tmp 28), type := 4, pos := "seq.go:44", after := #[{ on := 8, ground := Ground.data }, { on := 6, ground := Ground.chain }], guard := none }
def ins7a_ops : Array Oper := #[ins7a_o0, ins7a_o1, ins7a_o2, ins7a_o3, ins7a_o4, ins7a_o5, ins7a_o6, ins7a_o7, ins7a_o8, ins7a_o9]
set_option maxRecDepth 100000 in
set_option maxHeartbeats 4000000 in
theorem ins7a {s : Sx} {b2 : Nat} {k : IdK} {r : Bool} (a : Act) (w : World) (Q : Exit → Act → World → Prop) (zz : a.tmps.size = 57)
    (t0 : a.tmps.getD 0 undef = .pointer (some ⟨s.sb, 0, none⟩))
    (t5 : a.tmps.getD 5 undef = .pointer (some ⟨b2, 0, none⟩))
    (hk : k.ok) (ib2 : IdAt w b2 k) (hz : (!decide (k = zId)) = true) (CH : Calls Try.prog 31 #[.pointer (some ⟨s.sb, 0, none⟩), k.v] w fun e w' => e = .returned (.bool r) ∧ Below w.heap.size w w')
    (h : ∀ (a' : Act) (w' : World), Below w.heap.size w w' → a' = ((((((((((a).put (some 20) (k.v)).put (some 21) (zId.v)).put (some 22) (.bool true)).put (some 23) (.bool true)).put (some 24) (.pointer (some ⟨s.sb, 0, none⟩))).put (some 25) (k.v)).put (some 26) (.bool r)).put (some 27) (.bool (!r))).put (some 28) (.bool (!r))).put (some 19) (.bool (!r)) → Q .normal a' w') :
    (Code.region 7 ins7a_ops false).wp Try.prog Q a w := by
  refine z0 rfl ?_
  refine zv rfl (exec_load rfl (zi t5 rfl) (load_id hk ib2)) ?_
  refine zv rfl (exec_build0 rfl (build_id _)) ?_
  refine zv (v := .bool true) rfl (ex_neqI rfl (zg zz rfl) (zg zz rfl) hk zId_ok hz) ?_
  refine zv rfl (exec_move rfl (zg zz rfl)) ?_
  refine zv (zw zz rfl rfl rfl (zg zz rfl)) (exec_move rfl (zi t0 rfl)) ?_
  refine zv (zw zz rfl rfl rfl (zg zz rfl)) (exec_load rfl (zi t5 rfl) (load_id hk ib2)) ?_
  refine zc (zw zz rfl rfl rfl (zg zz rfl)) (exec_c2 rfl (zg zz rfl) (zg zz rfl)) (CH) (fun e x6 hx => ?_)
  obtain ⟨rfl, S1⟩ := hx
  refine ⟨_, rfl, ?_⟩
  refine zv (zw zz rfl rfl rfl (zg zz rfl)) (exec_not rfl (zg zz rfl)) ?_
  refine zv rfl (exec_pickT rfl (zg zz rfl) (zg zz rfl)) ?_
  refine zv rfl (exec_assign rfl (zg zz rfl)) ?_
  exact ze rfl (h _ _ (S1) rfl)
set_option maxRecDepth 100000 in
set_option maxHeartbeats 4000000 in
theorem ins7b {s : Sx} {b2 : Nat} {k : IdK} (a : Act) (w : World) (Q : Exit → Act → World → Prop) (zz : a.tmps.size = 57)
    (t0 : a.tmps.getD 0 undef = .pointer (some ⟨s.sb, 0, none⟩))
    (t5 : a.tmps.getD 5 undef = .pointer (some ⟨b2, 0, none⟩))
    (hk : k.ok) (ib2 : IdAt w b2 k) (hz : (!decide (k = zId)) = false)
    (h : ∀ (a' : Act) (w' : World), w' = w → a' = ((((((((((a).put (some 20) (k.v)).put (some 21) (zId.v)).put (some 22) (.bool false)).put (some 23) (.bool false)).put (some 24) (undef)).put (some 25) (undef)).put (some 26) (undef)).put (some 27) (undef)).put (some 28) (.bool false)).put (some 19) (.bool false) → Q .normal a' w') :
    (Code.region 7 ins7a_ops false).wp Try.prog Q a w := by
  refine z0 rfl ?_
  refine zv rfl (exec_load rfl (zi t5 rfl) (load_id hk ib2)) ?_
  refine zv rfl (exec_build0 rfl (build_id _)) ?_
  refine zv (v := .bool false) rfl (ex_neqI rfl (zg zz rfl) (zg zz rfl) hk zId_ok hz) ?_
  refine zv rfl (exec_move rfl (zg zz rfl)) ?_
  refine zn (zx zz rfl rfl rfl (zg zz rfl)) ?_
  refine zn (zx zz rfl rfl rfl (zg zz rfl)) ?_
  refine zn (zx zz rfl rfl rfl (zg zz rfl)) ?_
  refine zn (zx zz rfl rfl rfl (zg zz rfl)) ?_
  refine zv rfl (exec_pickF rfl (zg zz rfl) rfl) ?_
  refine zv rfl (exec_assign rfl (zg zz rfl)) ?_
  exact ze rfl (h _ _ (rfl) rfl)
def ins9_o0 : Oper := { dst := some 29, op := Op.move (Operand.tmp 0), type := 23, pos := "seq.go:47", after := #[], guard := none }
def ins9_o1 : Oper := { dst := some 30, op := Op.nilCheck (Operand.tmp 29), type := 0, pos := "seq.go:47", after := #[{ on := 0, ground := Ground.data }], guard := none }
def ins9_o2 : Oper := { dst := some 31, op := Op.fieldAddr 92 (Operand.tmp 30) 0, type := 0, pos := "seq.go:47", after := #[{ on := 1, ground := Ground.data }], guard := none }
def ins9_o3 : Oper := { dst := some 32, op := Op.load 84 (Operand.tmp 31), type := 84, pos := "seq.go:47", after := #[{ on := 2, ground := Ground.data }], guard := none }
def ins9_o4 : Oper := { dst := some 33, op := Op.load 32 (Operand.tmp 5), type := 32, pos := "seq.go:47", after := #[], guard := none }
def ins9_o5 : Oper := { dst := some 34, op := Op.lookup 84 (Operand.tmp 32) (Operand.tmp 33) false, type := 3, pos := "seq.go:47", after := #[{ on := 3, ground := Ground.data }, { on := 4, ground := Ground.data }], guard := none }
def ins9_o6 : Oper := { dst := some 7, op := Op.assign (Operand.tmp 34), type := 3, pos := "seq.go:47", after := #[{ on := 5, ground := Ground.data }, { on := 0, ground := Ground.phase }, { on := 1, ground := Ground.phase }, { on := 2, ground := Ground.phase }, { on := 3, ground := Ground.phase }, { on := 4, ground := Ground.phase }, { on := 5, ground := Ground.phase }], guard := none }
def ins9_ops : Array Oper := #[ins9_o0, ins9_o1, ins9_o2, ins9_o3, ins9_o4, ins9_o5, ins9_o6]
set_option maxRecDepth 100000 in
set_option maxHeartbeats 4000000 in
theorem ins9 {s : Sx} {E : List Elt} {b2 i : Nat} {k : IdK} (a : Act) (w : World) (Q : Exit → Act → World → Prop) (zz : a.tmps.size = 57)
    (t0 : a.tmps.getD 0 undef = .pointer (some ⟨s.sb, 0, none⟩))
    (t5 : a.tmps.getD 5 undef = .pointer (some ⟨b2, 0, none⟩))
    (hS : SeqAt w s E) (hk : k.ok) (ib2 : IdAt w b2 k) (ei : spotOf s k = i)
    (h : ∀ (a' : Act) (w' : World), w' = w.drew → a' = (((((((a).put (some 29) (.pointer (some ⟨s.sb, 0, none⟩))).put (some 30) (.pointer (some ⟨s.sb, 0, none⟩))).put (some 31) (.pointer (some ⟨s.sb, 0, none⟩))).put (some 32) (.map (some s.mb))).put (some 33) (k.v)).put (some 34) (.int .i64 (i : Int))).put (some 7) (.int .i64 (i : Int)) → Q .normal a' w') :
    (Code.region 9 ins9_ops true).wp Try.prog Q a w := by
  refine y0 (fun w' => w' = w.drew) (rfl) (fun hHeld => ?_)
  refine yv 0 rfl rfl (fun w1 hw => exec_move rfl (zi t0 rfl)) hHeld ?_
  refine yv 1 rfl rfl (fun w1 hw => exec_nilCheck rfl (zg zz rfl)) hHeld ?_
  refine yv 2 rfl rfl (fun w1 hw => exec_fieldAt rfl (zg zz rfl) (fg_92_0 _ _ _)) hHeld ?_
  refine yv 3 rfl rfl (fun w1 hw => exec_load rfl (zg zz rfl) (ld_map (hw ▸ hS.drew : SeqAt _ s E).c0)) hHeld ?_
  refine yv 4 rfl rfl (fun w1 hw => exec_load rfl (zi t5 rfl) (load_id hk (hw ▸ ib2 : IdAt _ b2 k))) hHeld ?_
  refine yv (v := .int .i64 (i : Int)) 5 rfl rfl (fun w1 hw => exec_lookup rfl (zg zz rfl) (zg zz rfl) (by rw [look_spot (hw ▸ hS.drew : SeqAt _ s E) k hk, ei])) hHeld ?_
  refine yv 6 rfl rfl (fun w1 hw => exec_assign rfl (zg zz rfl)) hHeld ?_
  exact ye rfl (h _ _ (hHeld) rfl)
def ins10_o0 : Oper := { dst := some 35, op := Op.move (Operand.tmp 0), type := 23, pos := "seq.go:48", after := #[], guard := none }
def ins10_o1 : Oper := { dst := some 36, op := Op.move (Operand.tmp 7), type := 3, pos := "seq.go:48", after := #[], guard := none }
def ins10_o2 : Oper := { dst := some 37, op := Op.call { callee := Callee.value (Operand.func 34), args := #[Operand.tmp 35, Operand.tmp 36], argTypes := #[23, 3] }, type := 96, pos := "seq.go:48", after := #[{ on := 0, ground := Ground.data }, { on := 1, ground := Ground.data }], guard := none }
def ins10_o3 : Oper := { dst := some 38, op := Op.nilCheck (Operand.tmp 37), type := 0, pos := "seq.go:48", after := #[{ on := 2, ground := Ground.data }], guard := none }
def ins10_o4 : Oper := { dst := some 39, op := Op.fieldAddr 90 (Operand.tmp 38) 2, type := 0, pos := "seq.go:48", after := #[{ on := 3, ground := Ground.data }], guard := none }
def ins10_o5 : Oper := { dst := some 40, op := Op.load 3 (Operand.tmp 39), type := 3, pos := "seq.go:48", after := #[{ on := 4, ground := Ground.data }], guard := none }
def ins10_o6 : Oper := { dst := some 41, op := Op.binOp BinOp.add 3 (Operand.tmp 40) (Operand.const (Value.int IntKind.i64 1)) 3, type := 3, pos := "seq.go:48", after := #[{ on := 5, ground := Ground.data }], guard := none }
def ins10_o7 : Oper := { dst := some 42, op := Op.nilCheck (Operand.tmp 37), type := 0, pos := "seq.go:48", after := #[{ on := 2, ground := Ground.data }, { on := 0, ground := Ground.phase }, { on := 1, ground := Ground.phase }, { on := 2, ground := Ground.phase }, { on := 3, ground := Ground.phase }, { on := 4, ground := Ground.phase }, { on := 5, ground := Ground.phase }, { on := 6, ground := Ground.phase }], guard := none }
def ins10_o8 : Oper := { dst := some 43, op := Op.fieldAddr 90 (Operand.tmp 42) 2, type := 0, pos := "seq.go:48", after := #[{ on := 7, ground := Ground.data }, { on := 0, ground := Ground.phase }, { on := 1, ground := Ground.phase }, { on := 2, ground := Ground.phase }, { on := 3, ground := Ground.phase }, { on := 4, ground := Ground.phase }, { on := 5, ground := Ground.phase }, { on := 6, ground := Ground.phase }], guard := none }
def ins10_o9 : Oper := { dst := none, op := Op.store 3 (Operand.tmp 43) (Operand.tmp 41), type := 0, pos := "seq.go:48", after := #[{ on := 8, ground := Ground.data }, { on := 6, ground := Ground.data }, { on := 2, ground := Ground.chain }, { on := 0, ground := Ground.phase }, { on := 1, ground := Ground.phase }, { on := 2, ground := Ground.phase }, { on := 3, ground := Ground.phase }, { on := 4, ground := Ground.phase }, { on := 5, ground := Ground.phase }, { on := 6, ground := Ground.phase }], guard := none }
def ins10_ops : Array Oper := #[ins10_o0, ins10_o1, ins10_o2, ins10_o3, ins10_o4, ins10_o5, ins10_o6, ins10_o7, ins10_o8, ins10_o9]
set_option maxRecDepth 100000 in
set_option maxHeartbeats 4000000 in
theorem ins10 {s : Sx} {E : List Elt} {i : Nat} {w2 : World} (a : Act) (w : World) (Q : Exit → Act → World → Prop) (zz : a.tmps.size = 57)
    (t0 : a.tmps.getD 0 undef = .pointer (some ⟨s.sb, 0, none⟩))
    (t7 : a.tmps.getD 7 undef = .int .i64 (i : Int))
    (hS : SeqAt w s E) (hi : i < s.L.length) (hf : -9223372036854775808 ≤ (gt s.L i).kp.fol + 1 ∧ (gt s.L i).kp.fol + 1 ≤ 9223372036854775807) (CE : Calls Try.prog 34 #[.pointer (some ⟨s.sb, 0, none⟩), .int .i64 (i : Int)] w fun e w' => e = .returned (.pointer (some ⟨s.g, 73 * i + 0, none⟩)) ∧ w' = w) (ES : (Instr.storeAt 3 (.pointer (some ⟨s.g, 73 * i + 0 + 66, none⟩)) (.int .i64 ((gt s.L i).kp.fol + 1))).run Try.prog w = .ok () w2)
    (h : ∀ (a' : Act) (w' : World), w' = w2 → a' = (((((((((a).put (some 35) (.pointer (some ⟨s.sb, 0, none⟩))).put (some 36) (.int .i64 (i : Int))).put (some 37) (.pointer (some ⟨s.g, 73 * i + 0, none⟩))).put (some 38) (.pointer (some ⟨s.g, 73 * i + 0, none⟩))).put (some 39) (.pointer (some ⟨s.g, 73 * i + 0 + 66, none⟩))).put (some 40) (.int .i64 (gt s.L i).kp.fol)).put (some 41) (.int .i64 ((gt s.L i).kp.fol + 1))).put (some 42) (.pointer (some ⟨s.g, 73 * i + 0, none⟩))).put (some 43) (.pointer (some ⟨s.g, 73 * i + 0 + 66, none⟩)) → Q .normal a' w') :
    (Code.region 10 ins10_ops false).wp Try.prog Q a w := by
  refine z0 rfl ?_
  refine zv rfl (exec_move rfl (zi t0 rfl)) ?_
  refine zv rfl (exec_move rfl (zi t7 rfl)) ?_
  refine zc rfl (exec_c2 rfl (zg zz rfl) (zg zz rfl)) (CE) (fun e x2 hx => ?_)
  obtain ⟨rfl, rfl⟩ := hx
  refine ⟨_, rfl, ?_⟩
  refine zv rfl (exec_nilCheck rfl (zg zz rfl)) ?_
  refine zv rfl (exec_fieldAt rfl (zg zz rfl) (fg_90_2 _ _ _)) ?_
  refine zv rfl (exec_load rfl (zg zz rfl) (R_fol hS.row hi)) ?_
  refine zv (v := .int .i64 ((gt s.L i).kp.fol + 1)) rfl (ex_add rfl (zg zz rfl) rfl hf) ?_
  refine zv rfl (exec_nilCheck rfl (zg zz rfl)) ?_
  refine zv rfl (exec_fieldAt rfl (zg zz rfl) (fg_90_2 _ _ _)) ?_
  refine zs rfl (exec_store rfl (zg zz rfl) (zg zz rfl) ES) ?_
  exact ze rfl (h _ _ (rfl) rfl)
def IS (s : Sx) (b1 b2 : Nat) (k q : IdK) (w' : World) : Prop := w'.cell? ⟨s.sb, 0, none⟩ = some (.map (some s.mb)) ∧ IdAt w' b1 k ∧ IdAt w' b2 q
def ins11_o0 : Oper := { dst := some 44, op := Op.move (Operand.tmp 0), type := 23, pos := "seq.go:49", after := #[], guard := none }
def ins11_o1 : Oper := { dst := some 45, op := Op.nilCheck (Operand.tmp 44), type := 0, pos := "seq.go:49", after := #[{ on := 0, ground := Ground.data }], guard := none }
def ins11_o2 : Oper := { dst := some 46, op := Op.fieldAddr 92 (Operand.tmp 45) 0, type := 0, pos := "seq.go:49", after := #[{ on := 1, ground := Ground.data }], guard := none }
def ins11_o3 : Oper := { dst := some 47, op := Op.load 84 (Operand.tmp 46), type := 84, pos := "seq.go:49", after := #[{ on := 2, ground := Ground.data }], guard := none }
def ins11_o4 : Oper := { dst := some 48, op := Op.load 32 (Operand.tmp 4), type := 32, pos := "seq.go:49", after := #[], guard := none }
def ins11_o5 : Oper := { dst := some 49, op := Op.move (Operand.tmp 0), type := 23, pos := "seq.go:49", after := #[], guard := none }
def ins11_o6 : Oper := { dst := some 50, op := Op.nilCheck (Operand.tmp 49), type := 0, pos := "seq.go:49", after := #[{ on := 5, ground := Ground.data }], guard := none }
def ins11_o7 : Oper := { dst := some 51, op := Op.fieldAddr 92 (Operand.tmp 50) 1, type := 0, pos := "seq.go:49", after := #[{ on := 6, ground := Ground.data }], guard := none }
def ins11_o8 : Oper := { dst := some 52, op := Op.move (Operand.tmp 7), type := 3, pos := "seq.go:49", after := #[], guard := none }
def ins11_o9 : Oper := { dst := some 53, op := Op.load 32 (Operand.tmp 4), type := 32, pos := "seq.go:49", after := #[], guard := none }
def ins11_o10 : Oper := { dst := some 54, op := Op.load 32 (Operand.tmp 5), type := 32, pos := "seq.go:49", after := #[], guard := none }
def ins11_o11 : Oper := { dst := some 55, op := Op.build 90 #[(0, Operand.tmp 53), (1, Operand.tmp 54)], type := 90, pos := "seq.go:49", after := #[{ on := 9, ground := Ground.data }, { on := 10, ground := Ground.data }], guard := none }
def ins11_o12 : Oper := { dst := some 56, op := Op.call { callee := Callee.value (Operand.func 35), args := #[Operand.tmp 51, Operand.tmp 52, Operand.tmp 55], argTypes := #[87, 3, 90] }, type := 3, pos := "seq.go:49", after := #[{ on := 7, ground := Ground.data }, { on := 8, ground := Ground.data }, { on := 11, ground := Ground.data }], guard := none }
def ins11_o13 : Oper := { dst := none, op := Op.mapUpdate 84 (Operand.tmp 47) (Operand.tmp 48) (Operand.tmp 56), type := 0, pos := "seq.go:49", after := #[{ on := 3, ground := Ground.data }, { on := 4, ground := Ground.data }, { on := 12, ground := Ground.data }, { on := 12, ground := Ground.chain }, { on := 0, ground := Ground.phase }, { on := 1, ground := Ground.phase }, { on := 2, ground := Ground.phase }, { on := 3, ground := Ground.phase }, { on := 4, ground := Ground.phase }, { on := 5, ground := Ground.phase }, { on := 6, ground := Ground.phase }, { on := 7, ground := Ground.phase }, { on := 8, ground := Ground.phase }, { on := 9, ground := Ground.phase }, { on := 10, ground := Ground.phase }, { on := 11, ground := Ground.phase }, { on := 12, ground := Ground.phase }], guard := none }
def ins11_ops : Array Oper := #[ins11_o0, ins11_o1, ins11_o2, ins11_o3, ins11_o4, ins11_o5, ins11_o6, ins11_o7, ins11_o8, ins11_o9, ins11_o10, ins11_o11, ins11_o12, ins11_o13]
set_option maxRecDepth 100000 in
set_option maxHeartbeats 4000000 in
theorem ins11 {s : Sx} {b1 b2 i n : Nat} {k q : IdK} (Fin : World → Prop) (a : Act) (w : World) (Q : Exit → Act → World → Prop) (zz : a.tmps.size = 57)
    (t0 : a.tmps.getD 0 undef = .pointer (some ⟨s.sb, 0, none⟩))
    (t4 : a.tmps.getD 4 undef = .pointer (some ⟨b1, 0, none⟩))
    (t5 : a.tmps.getD 5 undef = .pointer (some ⟨b2, 0, none⟩))
    (t7 : a.tmps.getD 7 undef = .int .i64 (i : Int))
    (hk : k.ok) (hq : q.ok) (h0 : IS s b1 b2 k q w.drew) (CP : Calls Try.prog 35 #[.pointer (some ⟨s.sb, 1, none⟩), .int .i64 (i : Int), KpV.v ⟨k, q, 0⟩] w.drew fun e w' => e = .returned (.int .i64 (n : Int)) ∧ IS s b1 b2 k q w' ∧ ∃ y, (Instr.mapUpdate 84 (.map (some s.mb)) k.v (.int .i64 (n : Int))).run Try.prog w' = .ok () y ∧ Fin y)
    (h : ∀ (a' : Act) (w' : World), Fin w' → a' = (((((((((((((a).put (some 44) (.pointer (some ⟨s.sb, 0, none⟩))).put (some 45) (.pointer (some ⟨s.sb, 0, none⟩))).put (some 46) (.pointer (some ⟨s.sb, 0, none⟩))).put (some 47) (.map (some s.mb))).put (some 48) (k.v)).put (some 49) (.pointer (some ⟨s.sb, 0, none⟩))).put (some 50) (.pointer (some ⟨s.sb, 0, none⟩))).put (some 51) (.pointer (some ⟨s.sb, 1, none⟩))).put (some 52) (.int .i64 (i : Int))).put (some 53) (k.v)).put (some 54) (q.v)).put (some 55) (KpV.v ⟨k, q, 0⟩)).put (some 56) (.int .i64 (n : Int)) → Q .normal a' w') :
    (Code.region 11 ins11_ops true).wp Try.prog Q a w := by
  refine x0 13 (fun w' => IS s b1 b2 k q w') (h0) (fun hHeld => ?_)
  refine xv 0 rfl rfl (fun w1 hw => exec_move rfl (zi t0 rfl)) hHeld ?_
  refine xv 1 rfl rfl (fun w1 hw => exec_nilCheck rfl (zg zz rfl)) hHeld ?_
  refine xv 2 rfl rfl (fun w1 hw => exec_fieldAt rfl (zg zz rfl) (fg_92_0 _ _ _)) hHeld ?_
  refine xv 3 rfl rfl (fun w1 hw => exec_load rfl (zg zz rfl) (ld_map hw.1)) hHeld ?_
  refine xv 4 rfl rfl (fun w1 hw => exec_load rfl (zi t4 rfl) (load_id hk hw.2.1)) hHeld ?_
  refine xv 5 rfl rfl (fun w1 hw => exec_move rfl (zi t0 rfl)) hHeld ?_
  refine xv 6 rfl rfl (fun w1 hw => exec_nilCheck rfl (zg zz rfl)) hHeld ?_
  refine xv 7 rfl rfl (fun w1 hw => exec_fieldAt rfl (zg zz rfl) (fg_92_1 _ _ _)) hHeld ?_
  refine xv 8 rfl rfl (fun w1 hw => exec_move rfl (zi t7 rfl)) hHeld ?_
  refine xv 9 rfl rfl (fun w1 hw => exec_load rfl (zi t4 rfl) (load_id hk hw.2.1)) hHeld ?_
  refine xv 10 rfl rfl (fun w1 hw => exec_load rfl (zi t5 rfl) (load_id hq hw.2.2)) hHeld ?_
  refine xv (v := KpV.v ⟨k, q, 0⟩) 11 rfl rfl (fun w1 hw => ex_el rfl (zg zz rfl) (zg zz rfl) hk hq) hHeld ?_
  refine xc 12 rfl rfl (exec_c3 rfl (zg zz rfl) (zg zz rfl) (zg zz rfl)) (CP) (fun e x12 hx => ?_)
  obtain ⟨rfl, S1, y, EM, HF⟩ := hx
  refine ⟨_, rfl, fun _ => S1, fun hHeld => ?_⟩
  replace hHeld := hHeld (by decide)
  refine xs 13 rfl rfl (exec_mapUpdate rfl (zg zz rfl) (zg zz rfl) (zg zz rfl) EM) (fun hne => absurd rfl hne) (fun _ => ?_)
  exact xe rfl (h _ _ (HF) rfl)
def tak3_o0 : Oper := { dst := some 10, op := Op.move (Operand.tmp 0), type := 23, pos := "seq.go:58", after := #[], guard := none }
def tak3_o1 : Oper := { dst := some 11, op := Op.load 32 (Operand.tmp 3), type := 32, pos := "seq.go:58", after := #[], guard := none }
def tak3_o2 : Oper := { dst := some 12, op := Op.call { callee := Callee.value (Operand.func 31), args := #[Operand.tmp 10, Operand.tmp 11], argTypes := #[23, 32] }, type := 4, pos := "seq.go:58", after := #[{ on := 0, ground := Ground.data }, { on := 1, ground := Ground.data }], guard := none }
def tak3_o3 : Oper := { dst := some 13, op := Op.unOp UnOp.not 4 (Operand.tmp 12), type := 4, pos := "seq.go:58", after := #[{ on := 2, ground := Ground.data }], guard := none }
def tak3_o4 : Oper := { dst := some 9, op := Op.assign (Operand.tmp 13), type := 4, pos := "seq.go:58", after := #[{ on := 3, ground := Ground.data }, { on := 2, ground := Ground.chain }], guard := none }
def tak3_ops : Array Oper := #[tak3_o0, tak3_o1, tak3_o2, tak3_o3, tak3_o4]
set_option maxRecDepth 100000 in
set_option maxHeartbeats 4000000 in
theorem tak3 {s : Sx} {b1 : Nat} {k : IdK} {r : Bool} (a : Act) (w : World) (Q : Exit → Act → World → Prop) (zz : a.tmps.size = 65)
    (t0 : a.tmps.getD 0 undef = .pointer (some ⟨s.sb, 0, none⟩))
    (t3 : a.tmps.getD 3 undef = .pointer (some ⟨b1, 0, none⟩))
    (hk : k.ok) (ib1 : IdAt w b1 k) (CH : Calls Try.prog 31 #[.pointer (some ⟨s.sb, 0, none⟩), k.v] w fun e w' => e = .returned (.bool r) ∧ Below w.heap.size w w')
    (h : ∀ (a' : Act) (w' : World), Below w.heap.size w w' → a' = (((((a).put (some 10) (.pointer (some ⟨s.sb, 0, none⟩))).put (some 11) (k.v)).put (some 12) (.bool r)).put (some 13) (.bool (!r))).put (some 9) (.bool (!r)) → Q .normal a' w') :
    (Code.region 3 tak3_ops false).wp Try.prog Q a w := by
  refine z0 rfl ?_
  refine zv rfl (exec_move rfl (zi t0 rfl)) ?_
  refine zv rfl (exec_load rfl (zi t3 rfl) (load_id hk ib1)) ?_
  refine zc rfl (exec_c2 rfl (zg zz rfl) (zg zz rfl)) (CH) (fun e x2 hx => ?_)
  obtain ⟨rfl, S1⟩ := hx
  refine ⟨_, rfl, ?_⟩
  refine zv rfl (exec_not rfl (zg zz rfl)) ?_
  refine zv rfl (exec_assign rfl (zg zz rfl)) ?_
  exact ze rfl (h _ _ (S1) rfl)
def tak5_o0 : Oper := { dst := some 15, op := Op.move (Operand.tmp 0), type := 23, pos := "seq.go:60", after := #[], guard := none }
def tak5_o1 : Oper := { dst := some 16, op := Op.move (Operand.tmp 0), type := 23, pos := "seq.go:60", after := #[], guard := none }
def tak5_o2 : Oper := { dst := some 17, op := Op.nilCheck (Operand.tmp 16), type := 0, pos := "seq.go:60", after := #[{ on := 1, ground := Ground.data }], guard := none }
def tak5_o3 : Oper := { dst := some 18, op := Op.fieldAddr 92 (Operand.tmp 17) 0, type := 0, pos := "seq.go:60", after := #[{ on := 2, ground := Ground.data }], guard := none }
def tak5_o4 : Oper := { dst := some 19, op := Op.load 84 (Operand.tmp 18), type := 84, pos := "seq.go:60", after := #[{ on := 3, ground := Ground.data }], guard := none }
def tak5_o5 : Oper := { dst := some 20, op := Op.load 32 (Operand.tmp 3), type := 32, pos := "seq.go:60", after := #[], guard := none }
def tak5_o6 : Oper := { dst := some 21, op := Op.lookup 84 (Operand.tmp 19) (Operand.tmp 20) false, type := 3, pos := "seq.go:60", after := #[{ on := 4, ground := Ground.data }, { on := 5, ground := Ground.data }], guard := none }
def tak5_o7 : Oper := { dst := some 22, op := Op.call { callee := Callee.value (Operand.func 34), args := #[Operand.tmp 15, Operand.tmp 21], argTypes := #[23, 3] }, type := 96, pos := "seq.go:60", after := #[{ on := 0, ground := Ground.data }, { on := 6, ground := Ground.data }], guard := none }
def tak5_o8 : Oper := { dst := some 23, op := Op.nilCheck (Operand.tmp 22), type := 0, pos := "seq.go:60", after := #[{ on := 7, ground := Ground.data }], guard := none }
def tak5_o9 : Oper := { dst := some 24, op := Op.fieldAddr 90 (Operand.tmp 23) 2, type := 0, pos := "seq.go:60", after := #[{ on := 8, ground := Ground.data }], guard := none }
def tak5_o10 : Oper := { dst := some 25, op := Op.load 3 (Operand.tmp 24), type := 3, pos := "seq.go:60", after := #[{ on := 9, ground := Ground.data }], guard := none }
def tak5_o11 : Oper := { dst := some 26, op := Op.binOp BinOp.gtr 3 (Operand.tmp 25) (Operand.const (Value.int IntKind.i64 0)) 3, type := 4, pos := "seq.go:60", after := #[{ on := 10, ground := Ground.data }], guard := none }
def tak5_o12 : Oper := { dst := some 14, op := Op.assign (Operand.tmp 26), type := 4, pos := "seq.go:60", after := #[{ on := 11, ground := Ground.data }, { on := 7, ground := Ground.chain }], guard := none }
def tak5_ops : Array Oper := #[tak5_o0, tak5_o1, tak5_o2, tak5_o3, tak5_o4, tak5_o5, tak5_o6, tak5_o7, tak5_o8, tak5_o9, tak5_o10, tak5_o11, tak5_o12]
set_option maxRecDepth 100000 in
set_option maxHeartbeats 4000000 in
theorem tak5 {s : Sx} {E : List Elt} {b1 i : Nat} {k : IdK} {r : Bool} (a : Act) (w : World) (Q : Exit → Act → World → Prop) (zz : a.tmps.size = 65)
    (t0 : a.tmps.getD 0 undef = .pointer (some ⟨s.sb, 0, none⟩))
    (t3 : a.tmps.getD 3 undef = .pointer (some ⟨b1, 0, none⟩))
    (hS : SeqAt w s E) (hk : k.ok) (ib1 : IdAt w b1 k) (ei : spotOf s k = i) (hi : i < s.L.length) (hr : decide ((gt s.L i).kp.fol > 0) = r) (CE : Calls Try.prog 34 #[.pointer (some ⟨s.sb, 0, none⟩), .int .i64 (i : Int)] w.drew fun e w' => e = .returned (.pointer (some ⟨s.g, 73 * i + 0, none⟩)) ∧ w' = w.drew)
    (h : ∀ (a' : Act) (w' : World), w' = w.drew → a' = (((((((((((((a).put (some 15) (.pointer (some ⟨s.sb, 0, none⟩))).put (some 16) (.pointer (some ⟨s.sb, 0, none⟩))).put (some 17) (.pointer (some ⟨s.sb, 0, none⟩))).put (some 18) (.pointer (some ⟨s.sb, 0, none⟩))).put (some 19) (.map (some s.mb))).put (some 20) (k.v)).put (some 21) (.int .i64 (i : Int))).put (some 22) (.pointer (some ⟨s.g, 73 * i + 0, none⟩))).put (some 23) (.pointer (some ⟨s.g, 73 * i + 0, none⟩))).put (some 24) (.pointer (some ⟨s.g, 73 * i + 0 + 66, none⟩))).put (some 25) (.int .i64 (gt s.L i).kp.fol)).put (some 26) (.bool r)).put (some 14) (.bool r) → Q .normal a' w') :
    (Code.region 5 tak5_ops true).wp Try.prog Q a w := by
  refine y0 (fun w' => w' = w.drew) (rfl) (fun hHeld => ?_)
  refine yv 0 rfl rfl (fun w1 hw => exec_move rfl (zi t0 rfl)) hHeld ?_
  refine yv 1 rfl rfl (fun w1 hw => exec_move rfl (zi t0 rfl)) hHeld ?_
  refine yv 2 rfl rfl (fun w1 hw => exec_nilCheck rfl (zg zz rfl)) hHeld ?_
  refine yv 3 rfl rfl (fun w1 hw => exec_fieldAt rfl (zg zz rfl) (fg_92_0 _ _ _)) hHeld ?_
  refine yv 4 rfl rfl (fun w1 hw => exec_load rfl (zg zz rfl) (ld_map (hw ▸ hS.drew : SeqAt _ s E).c0)) hHeld ?_
  refine yv 5 rfl rfl (fun w1 hw => exec_load rfl (zi t3 rfl) (load_id hk (hw ▸ ib1 : IdAt _ b1 k))) hHeld ?_
  refine yv (v := .int .i64 (i : Int)) 6 rfl rfl (fun w1 hw => exec_lookup rfl (zg zz rfl) (zg zz rfl) (by rw [look_spot (hw ▸ hS.drew : SeqAt _ s E) k hk, ei])) hHeld ?_
  refine yc 7 rfl rfl (exec_c2 rfl (zg zz rfl) (zg zz rfl)) (CE) (fun e x7 hx => ?_)
  obtain ⟨rfl, rfl⟩ := hx
  refine ⟨_, rfl, rfl, fun hHeld => ?_⟩
  refine yv 8 rfl rfl (fun w1 hw => exec_nilCheck rfl (zg zz rfl)) hHeld ?_
  refine yv 9 rfl rfl (fun w1 hw => exec_fieldAt rfl (zg zz rfl) (fg_90_2 _ _ _)) hHeld ?_
  refine yv 10 rfl rfl (fun w1 hw => exec_load rfl (zg zz rfl) (R_fol (hw ▸ hS.drew : SeqAt _ s E).row hi)) hHeld ?_
  refine yv (v := .bool r) 11 rfl rfl (fun w1 hw => ex_gtr rfl (zg zz rfl) rfl hr) hHeld ?_
  refine yv 12 rfl rfl (fun w1 hw => exec_assign rfl (zg zz rfl)) hHeld ?_
  exact ye rfl (h _ _ (hHeld) rfl)
def tak7_o0 : Oper := { dst := some 27, op := Op.move (Operand.tmp 0), type := 23, pos := "seq.go:63", after := #[], guard := none }
def tak7_o1 : Oper := { dst := some 28, op := Op.nilCheck (Operand.tmp 27), type := 0, pos := "seq.go:63", after := #[{ on := 0, ground := Ground.data }], guard := none }
def tak7_o2 : Oper := { dst := some 29, op := Op.fieldAddr 92 (Operand.tmp 28) 0, type := 0, pos := "seq.go:63", after := #[{ on := 1, ground := Ground.data }], guard := none }
def tak7_o3 : Oper := { dst := some 30, op := Op.load 84 (Operand.tmp 29), type := 84, pos := "seq.go:63", after := #[{ on := 2, ground := Ground.data }], guard := none }
def tak7_o4 : Oper := { dst := some 31, op := Op.load 32 (Operand.tmp 3), type := 32, pos := "seq.go:63", after := #[], guard := none }
def tak7_o5 : Oper := { dst := some 32, op := Op.lookup 84 (Operand.tmp 30) (Operand.tmp 31) false, type := 3, pos := "seq.go:63", after := #[{ on := 3, ground := Ground.data }, { on := 4, ground := Ground.data }], guard := none }
def tak7_o6 : Oper := { dst := some 5, op := Op.assign (Operand.tmp 32), type := 3, pos := "seq.go:63", after := #[{ on := 5, ground := Ground.data }, { on := 0, ground := Ground.phase }, { on := 1, ground := Ground.phase }, { on := 2, ground := Ground.phase }, { on := 3, ground := Ground.phase }, { on := 4, ground := Ground.phase }, { on := 5, ground := Ground.phase }], guard := none }
def tak7_ops : Array Oper := #[tak7_o0, tak7_o1, tak7_o2, tak7_o3, tak7_o4, tak7_o5, tak7_o6]
set_option maxRecDepth 100000 in
set_option maxHeartbeats 4000000 in
theorem tak7 {s : Sx} {E : List Elt} {b1 i : Nat} {k : IdK} (a : Act) (w : World) (Q : Exit → Act → World → Prop) (zz : a.tmps.size = 65)
    (t0 : a.tmps.getD 0 undef = .pointer (some ⟨s.sb, 0, none⟩))
    (t3 : a.tmps.getD 3 undef = .pointer (some ⟨b1, 0, none⟩))
    (hS : SeqAt w s E) (hk : k.ok) (ib1 : IdAt w b1 k) (ei : spotOf s k = i)
    (h : ∀ (a' : Act) (w' : World), w' = w.drew → a' = (((((((a).put (some 27) (.pointer (some ⟨s.sb, 0, none⟩))).put (some 28) (.pointer (some ⟨s.sb, 0, none⟩))).put (some 29) (.pointer (some ⟨s.sb, 0, none⟩))).put (some 30) (.map (some s.mb))).put (some 31) (k.v)).put (some 32) (.int .i64 (i : Int))).put (some 5) (.int .i64 (i : Int)) → Q .normal a' w') :
    (Code.region 7 tak7_ops true).wp Try.prog Q a w := by
  refine y0 (fun w' => w' = w.drew) (rfl) (fun hHeld => ?_)
  refine yv 0 rfl rfl (fun w1 hw => exec_move rfl (zi t0 rfl)) hHeld ?_
  refine yv 1 rfl rfl (fun w1 hw => exec_nilCheck rfl (zg zz rfl)) hHeld ?_
  refine yv 2 rfl rfl (fun w1 hw => exec_fieldAt rfl (zg zz rfl) (fg_92_0 _ _ _)) hHeld ?_
  refine yv 3 rfl rfl (fun w1 hw => exec_load rfl (zg zz rfl) (ld_map (hw ▸ hS.drew : SeqAt _ s E).c0)) hHeld ?_
  refine yv 4 rfl rfl (fun w1 hw => exec_load rfl (zi t3 rfl) (load_id hk (hw ▸ ib1 : IdAt _ b1 k))) hHeld ?_
  refine yv (v := .int .i64 (i : Int)) 5 rfl rfl (fun w1 hw => exec_lookup rfl (zg zz rfl) (zg zz rfl) (by rw [look_spot (hw ▸ hS.drew : SeqAt _ s E) k hk, ei])) hHeld ?_
  refine yv 6 rfl rfl (fun w1 hw => exec_assign rfl (zg zz rfl)) hHeld ?_
  exact ye rfl (h _ _ (hHeld) rfl)
def tak8_o0 : Oper := { dst := some 33, op := Op.move (Operand.tmp 0), type := 23, pos := "seq.go:64", after := #[], guard := none }
def tak8_o1 : Oper := { dst := some 34, op := Op.move (Operand.tmp 0), type := 23, pos := "seq.go:64", after := #[], guard := none }
def tak8_o2 : Oper := { dst := some 35, op := Op.nilCheck (Operand.tmp 34), type := 0, pos := "seq.go:64", after := #[{ on := 1, ground := Ground.data }], guard := none }
def tak8_o3 : Oper := { dst := some 36, op := Op.fieldAddr 92 (Operand.tmp 35) 0, type := 0, pos := "seq.go:64", after := #[{ on := 2, ground := Ground.data }], guard := none }
def tak8_o4 : Oper := { dst := some 37, op := Op.load 84 (Operand.tmp 36), type := 84, pos := "seq.go:64", after := #[{ on := 3, ground := Ground.data }], guard := none }
def tak8_o5 : Oper := { dst := some 38, op := Op.move (Operand.tmp 0), type := 23, pos := "seq.go:64", after := #[], guard := none }
def tak8_o6 : Oper := { dst := some 39, op := Op.move (Operand.tmp 5), type := 3, pos := "seq.go:64", after := #[], guard := none }
def tak8_o7 : Oper := { dst := some 40, op := Op.call { callee := Callee.value (Operand.func 34), args := #[Operand.tmp 38, Operand.tmp 39], argTypes := #[23, 3] }, type := 96, pos := "seq.go:64", after := #[{ on := 5, ground := Ground.data }, { on := 6, ground := Ground.data }], guard := none }
def tak8_o8 : Oper := { dst := some 41, op := Op.nilCheck (Operand.tmp 40), type := 0, pos := "seq.go:64", after := #[{ on := 7, ground := Ground.data }], guard := none }
def tak8_o9 : Oper := { dst := some 42, op := Op.fieldAddr 90 (Operand.tmp 41) 1, type := 0, pos := "seq.go:64", after := #[{ on := 8, ground := Ground.data }], guard := none }
def tak8_o10 : Oper := { dst := some 43, op := Op.load 32 (Operand.tmp 42), type := 32, pos := "seq.go:64", after := #[{ on := 9, ground := Ground.data }], guard := none }
def tak8_o11 : Oper := { dst := some 44, op := Op.lookup 84 (Operand.tmp 37) (Operand.tmp 43) false, type := 3, pos := "seq.go:64", after := #[{ on := 4, ground := Ground.data }, { on := 10, ground := Ground.data }], guard := none }
def tak8_o12 : Oper := { dst := some 45, op := Op.call { callee := Callee.value (Operand.func 34), args := #[Operand.tmp 33, Operand.tmp 44], argTypes := #[23, 3] }, type := 96, pos := "seq.go:64", after := #[{ on := 0, ground := Ground.data }, { on := 11, ground := Ground.data }, { on := 7, ground := Ground.chain }], guard := none }
def tak8_o13 : Oper := { dst := some 46, op := Op.nilCheck (Operand.tmp 45), type := 0, pos := "seq.go:64", after := #[{ on := 12, ground := Ground.data }], guard := none }
def tak8_o14 : Oper := { dst := some 47, op := Op.fieldAddr 90 (Operand.tmp 46) 2, type := 0, pos := "seq.go:64", after := #[{ on := 13, ground := Ground.data }], guard := none }
def tak8_o15 : Oper := { dst := some 48, op := Op.load 3 (Operand.tmp 47), type := 3, pos := "seq.go:64", after := #[{ on := 14, ground := Ground.data }], guard := none }
def tak8_o16 : Oper := { dst := some 49, op := Op.binOp BinOp.sub 3 (Operand.tmp 48) (Operand.const (Value.int IntKind.i64 1)) 3, type := 3, pos := "seq.go:64", after := #[{ on := 15, ground := Ground.data }], guard := none }
def tak8_o17 : Oper := { dst := some 50, op := Op.nilCheck (Operand.tmp 45), type := 0, pos := "seq.go:64", after := #[{ on := 12, ground := Ground.data }, { on := 0, ground := Ground.phase }, { on := 1, ground := Ground.phase }, { on := 2, ground := Ground.phase }, { on := 3, ground := Ground.phase }, { on := 4, ground := Ground.phase }, { on := 5, ground := Ground.phase }, { on := 6, ground := Ground.phase }, { on := 7, ground := Ground.phase }, { on := 8, ground := Ground.phase }, { on := 9, ground := Ground.phase }, { on := 10, ground := Ground.phase }, { on := 11, ground := Ground.phase }, { on := 12, ground := Ground.phase }, { on := 13, ground := Ground.phase }, { on := 14, ground := Ground.phase }, { on := 15, ground := Ground.phase }, { on := 16, ground := Ground.phase }], guard := none }
def tak8_o18 : Oper := { dst := some 51, op := Op.fieldAddr 90 (Operand.tmp 50) 2, type := 0, pos := "seq.go:64", after := #[{ on := 17, ground := Ground.data }, { on := 0, ground := Ground.phase }, { on := 1, ground := Ground.phase }, { on := 2, ground := Ground.phase }, { on := 3, ground := Ground.phase }, { on := 4, ground := Ground.phase }, { on := 5, ground := Ground.phase }, { on := 6, ground := Ground.phase }, { on := 7, ground := Ground.phase }, { on := 8, ground := Ground.phase }, { on := 9, ground := Ground.phase }, { on := 10, ground := Ground.phase }, { on := 11, ground := Ground.phase }, { on := 12, ground := Ground.phase }, { on := 13, ground := Ground.phase }, { on := 14, ground := Ground.phase }, { on := 15, ground := Ground.phase }, { on := 16, ground := Ground.phase }], guard := none }
def tak8_o19 : Oper := { dst := none, op := Op.store 3 (Operand.tmp 51) (Operand.tmp 49), type := 0, pos := "seq.go:64", after := #[{ on := 18, ground := Ground.data }, { on := 16, ground := Ground.data }, { on := 12, ground := Ground.chain }, { on := 0, ground := Ground.phase }, { on := 1, ground := Ground.phase }, { on := 2, ground := Ground.phase }, { on := 3, ground := Ground.phase }, { on := 4, ground := Ground.phase }, { on := 5, ground := Ground.phase }, { on := 6, ground := Ground.phase }, { on := 7, ground := Ground.phase }, { on := 8, ground := Ground.phase }, { on := 9, ground := Ground.phase }, { on := 10, ground := Ground.phase }, { on := 11, ground := Ground.phase }, { on := 12, ground := Ground.phase }, { on := 13, ground := Ground.phase }, { on := 14, ground := Ground.phase }, { on := 15, ground := Ground.phase }, { on := 16, ground := Ground.phase }], guard := none }
def tak8_ops : Array Oper := #[tak8_o0, tak8_o1, tak8_o2, tak8_o3, tak8_o4, tak8_o5, tak8_o6, tak8_o7, tak8_o8, tak8_o9, tak8_o10, tak8_o11, tak8_o12, tak8_o13, tak8_o14, tak8_o15, tak8_o16, tak8_o17, tak8_o18, tak8_o19]
set_option maxRecDepth 100000 in
set_option maxHeartbeats 4000000 in
theorem tak8 {s : Sx} {E : List Elt} {i j : Nat} {w2 : World} (a : Act) (w : World) (Q : Exit → Act → World → Prop) (zz : a.tmps.size = 65)
    (t0 : a.tmps.getD 0 undef = .pointer (some ⟨s.sb, 0, none⟩))
    (t5 : a.tmps.getD 5 undef = .int .i64 (i : Int))
    (hS : SeqAt w s E) (hi : i < s.L.length) (hj : j < s.L.length) (LJ : (Instr.lookup 84 (.map (some s.mb)) (gt s.L i).kp.bh.v false).run Try.prog w.drew = .ok (.int .i64 (j : Int)) w.drew) (hf : -9223372036854775808 ≤ (gt s.L j).kp.fol - 1 ∧ (gt s.L j).kp.fol - 1 ≤ 9223372036854775807) (CE : Calls Try.prog 34 #[.pointer (some ⟨s.sb, 0, none⟩), .int .i64 (i : Int)] w.drew fun e w' => e = .returned (.pointer (some ⟨s.g, 73 * i + 0, none⟩)) ∧ w' = w.drew) (CE2 : Calls Try.prog 34 #[.pointer (some ⟨s.sb, 0, none⟩), .int .i64 (j : Int)] w.drew fun e w' => e = .returned (.pointer (some ⟨s.g, 73 * j + 0, none⟩)) ∧ w' = w.drew) (ES : (Instr.storeAt 3 (.pointer (some ⟨s.g, 73 * j + 0 + 66, none⟩)) (.int .i64 ((gt s.L j).kp.fol - 1))).run Try.prog w.drew = .ok () w2)
    (h : ∀ (a' : Act) (w' : World), w' = w2 → a' = (((((((((((((((((((a).put (some 33) (.pointer (some ⟨s.sb, 0, none⟩))).put (some 34) (.pointer (some ⟨s.sb, 0, none⟩))).put (some 35) (.pointer (some ⟨s.sb, 0, none⟩))).put (some 36) (.pointer (some ⟨s.sb, 0, none⟩))).put (some 37) (.map (some s.mb))).put (some 38) (.pointer (some ⟨s.sb, 0, none⟩))).put (some 39) (.int .i64 (i : Int))).put (some 40) (.pointer (some ⟨s.g, 73 * i + 0, none⟩))).put (some 41) (.pointer (some ⟨s.g, 73 * i + 0, none⟩))).put (some 42) (.pointer (some ⟨s.g, 73 * i + 0 + 33, none⟩))).put (some 43) ((gt s.L i).kp.bh.v)).put (some 44) (.int .i64 (j : Int))).put (some 45) (.pointer (some ⟨s.g, 73 * j + 0, none⟩))).put (some 46) (.pointer (some ⟨s.g, 73 * j + 0, none⟩))).put (some 47) (.pointer (some ⟨s.g, 73 * j + 0 + 66, none⟩))).put (some 48) (.int .i64 (gt s.L j).kp.fol)).put (some 49) (.int .i64 ((gt s.L j).kp.fol - 1))).put (some 50) (.pointer (some ⟨s.g, 73 * j + 0, none⟩))).put (some 51) (.pointer (some ⟨s.g, 73 * j + 0 + 66, none⟩)) → Q .normal a' w') :
    (Code.region 8 tak8_ops true).wp Try.prog Q a w := by
  refine x0 19 (fun w' => w' = w.drew) (rfl) (fun hHeld => ?_)
  refine xv 0 rfl rfl (fun w1 hw => exec_move rfl (zi t0 rfl)) hHeld ?_
  refine xv 1 rfl rfl (fun w1 hw => exec_move rfl (zi t0 rfl)) hHeld ?_
  refine xv 2 rfl rfl (fun w1 hw => exec_nilCheck rfl (zg zz rfl)) hHeld ?_
  refine xv 3 rfl rfl (fun w1 hw => exec_fieldAt rfl (zg zz rfl) (fg_92_0 _ _ _)) hHeld ?_
  refine xv 4 rfl rfl (fun w1 hw => exec_load rfl (zg zz rfl) (ld_map (hw ▸ hS.drew : SeqAt _ s E).c0)) hHeld ?_
  refine xv 5 rfl rfl (fun w1 hw => exec_move rfl (zi t0 rfl)) hHeld ?_
  refine xv 6 rfl rfl (fun w1 hw => exec_move rfl (zi t5 rfl)) hHeld ?_
  refine xc 7 rfl rfl (exec_c2 rfl (zg zz rfl) (zg zz rfl)) (CE) (fun e x7 hx => ?_)
  obtain ⟨rfl, rfl⟩ := hx
  refine ⟨_, rfl, fun _ => rfl, fun hHeld => ?_⟩
  replace hHeld := hHeld (by decide)
  refine xv 8 rfl rfl (fun w1 hw => exec_nilCheck rfl (zg zz rfl)) hHeld ?_
  refine xv 9 rfl rfl (fun w1 hw => exec_fieldAt rfl (zg zz rfl) (fg_90_1 _ _ _)) hHeld ?_
  refine xv 10 rfl rfl (fun w1 hw => exec_load rfl (zg zz rfl) (R_bh (hw ▸ hS.drew : SeqAt _ s E).row hi)) hHeld ?_
  refine xv (v := .int .i64 (j : Int)) 11 rfl rfl (fun w1 hw => exec_lookup rfl (zg zz rfl) (zg zz rfl) (hw ▸ LJ : (Instr.lookup 84 (.map (some s.mb)) (gt s.L i).kp.bh.v false).run Try.prog w1 = .ok (.int .i64 (j : Int)) w1)) hHeld ?_
  refine xc 12 rfl rfl (exec_c2 rfl (zg zz rfl) (zg zz rfl)) (CE2) (fun e x12 hx => ?_)
  obtain ⟨rfl, rfl⟩ := hx
  refine ⟨_, rfl, fun _ => rfl, fun hHeld => ?_⟩
  replace hHeld := hHeld (by decide)
  refine xv 13 rfl rfl (fun w1 hw => exec_nilCheck rfl (zg zz rfl)) hHeld ?_
  refine xv 14 rfl rfl (fun w1 hw => exec_fieldAt rfl (zg zz rfl) (fg_90_2 _ _ _)) hHeld ?_
  refine xv 15 rfl rfl (fun w1 hw => exec_load rfl (zg zz rfl) (R_fol (hw ▸ hS.drew : SeqAt _ s E).row hj)) hHeld ?_
  refine xv (v := .int .i64 ((gt s.L j).kp.fol - 1)) 16 rfl rfl (fun w1 hw => ex_sub rfl (zg zz rfl) rfl hf) hHeld ?_
  refine xv 17 rfl rfl (fun w1 hw => exec_nilCheck rfl (zg zz rfl)) hHeld ?_
  refine xv 18 rfl rfl (fun w1 hw => exec_fieldAt rfl (zg zz rfl) (fg_90_2 _ _ _)) hHeld ?_
  refine xs 19 rfl rfl (exec_store rfl (zg zz rfl) (zg zz rfl) ES) (fun hne => absurd rfl hne) (fun _ => ?_)
  exact xe rfl (h _ _ (rfl) rfl)
def tak9_o0 : Oper := { dst := some 52, op := Op.move (Operand.tmp 0), type := 23, pos := "seq.go:65", after := #[], guard := none }
def tak9_o1 : Oper := { dst := some 53, op := Op.nilCheck (Operand.tmp 52), type := 0, pos := "seq.go:65", after := #[{ on := 0, ground := Ground.data }], guard := none }
def tak9_o2 : Oper := { dst := some 54, op := Op.fieldAddr 92 (Operand.tmp 53) 1, type := 0, pos := "seq.go:65", after := #[{ on := 1, ground := Ground.data }], guard := none }
def tak9_o3 : Oper := { dst := some 55, op := Op.move (Operand.tmp 5), type := 3, pos := "seq.go:65", after := #[], guard := none }
def tak9_o4 : Oper := { dst := some 56, op := Op.call { callee := Callee.value (Operand.func 37), args := #[Operand.tmp 54, Operand.tmp 55], argTypes := #[87, 3] }, type := 0, pos := "seq.go:65", after := #[{ on := 2, ground := Ground.data }, { on := 3, ground := Ground.data }], guard := none }
def tak9_ops : Array Oper := #[tak9_o0, tak9_o1, tak9_o2, tak9_o3, tak9_o4]
set_option maxRecDepth 100000 in
set_option maxHeartbeats 4000000 in
theorem tak9 {s : Sx} {i : Nat} (Fin : World → Prop) (a : Act) (w : World) (Q : Exit → Act → World → Prop) (zz : a.tmps.size = 65)
    (t0 : a.tmps.getD 0 undef = .pointer (some ⟨s.sb, 0, none⟩))
    (t5 : a.tmps.getD 5 undef = .int .i64 (i : Int))
    (CT : Calls Try.prog 37 #[.pointer (some ⟨s.sb, 1, none⟩), .int .i64 (i : Int)] w fun e w' => e = .returned (.tuple #[]) ∧ Fin w')
    (h : ∀ (a' : Act) (w' : World), Fin w' → a' = (((((a).put (some 52) (.pointer (some ⟨s.sb, 0, none⟩))).put (some 53) (.pointer (some ⟨s.sb, 0, none⟩))).put (some 54) (.pointer (some ⟨s.sb, 1, none⟩))).put (some 55) (.int .i64 (i : Int))).put (some 56) (.tuple #[]) → Q .normal a' w') :
    (Code.region 9 tak9_ops false).wp Try.prog Q a w := by
  refine z0 rfl ?_
  refine zv rfl (exec_move rfl (zi t0 rfl)) ?_
  refine zv rfl (exec_nilCheck rfl (zg zz rfl)) ?_
  refine zv rfl (exec_fieldAt rfl (zg zz rfl) (fg_92_1 _ _ _)) ?_
  refine zv rfl (exec_move rfl (zi t5 rfl)) ?_
  refine zc rfl (exec_c2 rfl (zg zz rfl) (zg zz rfl)) (CT) (fun e x4 hx => ?_)
  obtain ⟨rfl, HF⟩ := hx
  refine ⟨_, rfl, ?_⟩
  exact ze rfl (h _ _ (HF) rfl)
def tak10_o0 : Oper := { dst := some 57, op := Op.move (Operand.tmp 0), type := 23, pos := "seq.go:66", after := #[], guard := none }
def tak10_o1 : Oper := { dst := some 58, op := Op.nilCheck (Operand.tmp 57), type := 0, pos := "seq.go:66", after := #[{ on := 0, ground := Ground.data }], guard := none }
def tak10_o2 : Oper := { dst := some 59, op := Op.fieldAddr 92 (Operand.tmp 58) 0, type := 0, pos := "seq.go:66", after := #[{ on := 1, ground := Ground.data }], guard := none }
def tak10_o3 : Oper := { dst := some 60, op := Op.load 84 (Operand.tmp 59), type := 84, pos := "seq.go:66", after := #[{ on := 2, ground := Ground.data }], guard := none }
def tak10_o4 : Oper := { dst := some 61, op := Op.load 32 (Operand.tmp 3), type := 32, pos := "seq.go:66", after := #[], guard := none }
def tak10_o5 : Oper := { dst := none, op := Op.call { callee := Callee.builtin Builtin.delete, args := #[Operand.tmp 60, Operand.tmp 61], argTypes := #[84, 32] }, type := 0, pos := "seq.go:66", after := #[{ on := 3, ground := Ground.data }, { on := 4, ground := Ground.data }], guard := none }
def tak10_ops : Array Oper := #[tak10_o0, tak10_o1, tak10_o2, tak10_o3, tak10_o4, tak10_o5]
set_option maxRecDepth 100000 in
set_option maxHeartbeats 4000000 in
theorem tak10 {s : Sx} {b1 : Nat} {k : IdK} {w2 : World} (a : Act) (w : World) (Q : Exit → Act → World → Prop) (zz : a.tmps.size = 65)
    (t0 : a.tmps.getD 0 undef = .pointer (some ⟨s.sb, 0, none⟩))
    (t3 : a.tmps.getD 3 undef = .pointer (some ⟨b1, 0, none⟩))
    (hc : w.cell? ⟨s.sb, 0, none⟩ = some (.map (some s.mb))) (hk : k.ok) (ib1 : IdAt w b1 k) (ED : (Builtin.delete_ #[84, 32] 0 #[.map (some s.mb), k.v]).run Try.prog w.drew = .ok (.tuple #[]) w2)
    (h : ∀ (a' : Act) (w' : World), w' = w2 → a' = (((((a).put (some 57) (.pointer (some ⟨s.sb, 0, none⟩))).put (some 58) (.pointer (some ⟨s.sb, 0, none⟩))).put (some 59) (.pointer (some ⟨s.sb, 0, none⟩))).put (some 60) (.map (some s.mb))).put (some 61) (k.v) → Q .normal a' w') :
    (Code.region 10 tak10_ops true).wp Try.prog Q a w := by
  refine x0 5 (fun w' => w' = w.drew) (rfl) (fun hHeld => ?_)
  refine xv 0 rfl rfl (fun w1 hw => exec_move rfl (zi t0 rfl)) hHeld ?_
  refine xv 1 rfl rfl (fun w1 hw => exec_nilCheck rfl (zg zz rfl)) hHeld ?_
  refine xv 2 rfl rfl (fun w1 hw => exec_fieldAt rfl (zg zz rfl) (fg_92_0 _ _ _)) hHeld ?_
  refine xv 3 rfl rfl (fun w1 hw => exec_load rfl (zg zz rfl) (ld_map (cellW hw hc))) hHeld ?_
  refine xv 4 rfl rfl (fun w1 hw => exec_load rfl (zi t3 rfl) (load_id hk (hw ▸ ib1 : IdAt _ b1 k))) hHeld ?_
  refine xd 5 rfl rfl (exec_delete rfl (zg zz rfl) (zg zz rfl) ED) (fun hne => absurd rfl hne) (fun _ => ?_)
  exact xe rfl (h _ _ (rfl) rfl)
def tak11_o0 : Oper := { dst := some 62, op := Op.move (Operand.tmp 0), type := 23, pos := "seq.go:67", after := #[], guard := none }
def tak11_o1 : Oper := { dst := some 63, op := Op.move (Operand.tmp 5), type := 3, pos := "seq.go:67", after := #[], guard := none }
def tak11_o2 : Oper := { dst := some 64, op := Op.call { callee := Callee.value (Operand.func 38), args := #[Operand.tmp 62, Operand.tmp 63], argTypes := #[23, 3] }, type := 0, pos := "seq.go:67", after := #[{ on := 0, ground := Ground.data }, { on := 1, ground := Ground.data }], guard := none }
def tak11_ops : Array Oper := #[tak11_o0, tak11_o1, tak11_o2]
set_option maxRecDepth 100000 in
set_option maxHeartbeats 4000000 in
theorem tak11 {s : Sx} {i : Nat} (Fin : World → Prop) (a : Act) (w : World) (Q : Exit → Act → World → Prop) (zz : a.tmps.size = 65)
    (t0 : a.tmps.getD 0 undef = .pointer (some ⟨s.sb, 0, none⟩))
    (t5 : a.tmps.getD 5 undef = .int .i64 (i : Int))
    (CF : Calls Try.prog 38 #[.pointer (some ⟨s.sb, 0, none⟩), .int .i64 (i : Int)] w fun e w' => e = .returned (.tuple #[]) ∧ Fin w')
    (h : ∀ (a' : Act) (w' : World), Fin w' → a' = (((a).put (some 62) (.pointer (some ⟨s.sb, 0, none⟩))).put (some 63) (.int .i64 (i : Int))).put (some 64) (.tuple #[]) → Q .normal a' w') :
    (Code.region 11 tak11_ops false).wp Try.prog Q a w := by
  refine z0 rfl ?_
  refine zv rfl (exec_move rfl (zi t0 rfl)) ?_
  refine zv rfl (exec_move rfl (zi t5 rfl)) ?_
  refine zc rfl (exec_c2 rfl (zg zz rfl) (zg zz rfl)) (CF) (fun e x2 hx => ?_)
  obtain ⟨rfl, HF⟩ := hx
  refine ⟨_, rfl, ?_⟩
  exact ze rfl (h _ _ (HF) rfl)
def fol0_o0 : Oper := { dst := some 4, op := Op.move (Operand.tmp 1), type := 3, pos := "seq.go:73", after := #[], guard := none }
def fol0_o1 : Oper := { dst := some 5, op := Op.move (Operand.tmp 0), type := 23, pos := "seq.go:73", after := #[], guard := none }
def fol0_o2 : Oper := { dst := some 6, op := Op.nilCheck (Operand.tmp 5), type := 0, pos := "seq.go:73", after := #[{ on := 1, ground := Ground.data }], guard := none }
def fol0_o3 : Oper := { dst := some 7, op := Op.fieldAddr 92 (Operand.tmp 6) 1, type := 0, pos := "seq.go:73", after := #[{ on := 2, ground := Ground.data }], guard := none }
def fol0_o4 : Oper := { dst := some 8, op := Op.fieldAddr 87 (Operand.tmp 7) 0, type := 0, pos := "seq.go:73", after := #[{ on := 3, ground := Ground.data }], guard := none }
def fol0_o5 : Oper := { dst := some 9, op := Op.load 85 (Operand.tmp 8), type := 85, pos := "seq.go:73", after := #[{ on := 4, ground := Ground.data }], guard := none }
def fol0_o6 : Oper := { dst := some 10, op := Op.call { callee := Callee.builtin Builtin.len, args := #[Operand.tmp 9], argTypes := #[85] }, type := 3, pos := "seq.go:73", after := #[{ on := 5, ground := Ground.data }], guard := none }
def fol0_o7 : Oper := { dst := some 11, op := Op.binOp BinOp.lss 3 (Operand.tmp 4) (Operand.tmp 10) 3, type := 4, pos := "seq.go:73", after := #[{ on := 0, ground := Ground.data }, { on := 6, ground := Ground.data }], guard := none }
def fol0_ops : Array Oper := #[fol0_o0, fol0_o1, fol0_o2, fol0_o3, fol0_o4, fol0_o5, fol0_o6, fol0_o7]
set_option maxRecDepth 100000 in
set_option maxHeartbeats 4000000 in
theorem fol0 {s : Sx} {i : Nat} {r : Bool} (a : Act) (w : World) (Q : Exit → Act → World → Prop) (zz : a.tmps.size = 23)
    (t0 : a.tmps.getD 0 undef = .pointer (some ⟨s.sb, 0, none⟩))
    (t1 : a.tmps.getD 1 undef = .int .i64 (i : Int))
    (hR : SqAt w s.sb 1 s.g s.cap s.L) (hr : decide ((i : Int) < (s.L.length : Int)) = r)
    (h : ∀ (a' : Act) (w' : World), w' = w → a' = ((((((((a).put (some 4) (.int .i64 (i : Int))).put (some 5) (.pointer (some ⟨s.sb, 0, none⟩))).put (some 6) (.pointer (some ⟨s.sb, 0, none⟩))).put (some 7) (.pointer (some ⟨s.sb, 1, none⟩))).put (some 8) (.pointer (some ⟨s.sb, 1, none⟩))).put (some 9) (.slice (some ⟨s.g, 0, none⟩) (s.L).length s.cap)).put (some 10) (.int .i64 (s.L.length : Int))).put (some 11) (.bool r) → Q .normal a' w') :
    (Code.region 0 fol0_ops false).wp Try.prog Q a w := by
  refine z0 rfl ?_
  refine zv rfl (exec_move rfl (zi t1 rfl)) ?_
  refine zv rfl (exec_move rfl (zi t0 rfl)) ?_
  refine zv rfl (exec_nilCheck rfl (zg zz rfl)) ?_
  refine zv rfl (exec_fieldAt rfl (zg zz rfl) (fg_92_1 _ _ _)) ?_
  refine zv rfl (exec_fieldAt rfl (zg zz rfl) (fg_87_0 _ _ _)) ?_
  refine zv rfl (exec_load rfl (zg zz rfl) (R_sl hR)) ?_
  refine zv rfl (exec_len rfl (zg zz rfl) (len_sl _)) ?_
  refine zv (v := .bool r) rfl (ex_lss rfl (zg zz rfl) (zg zz rfl) hr) ?_
  exact ze rfl (h _ _ (rfl) rfl)
def fol1_o0 : Oper := { dst := some 12, op := Op.move (Operand.tmp 0), type := 23, pos := "seq.go:74", after := #[], guard := none }
def fol1_o1 : Oper := { dst := some 13, op := Op.nilCheck (Operand.tmp 12), type := 0, pos := "seq.go:74", after := #[{ on := 0, ground := Ground.data }], guard := none }
def fol1_o2 : Oper := { dst := some 14, op := Op.fieldAddr 92 (Operand.tmp 13) 0, type := 0, pos := "seq.go:74", after := #[{ on := 1, ground := Ground.data }], guard := none }
def fol1_o3 : Oper := { dst := some 15, op := Op.load 84 (Operand.tmp 14), type := 84, pos := "seq.go:74", after := #[{ on := 2, ground := Ground.data }], guard := none }
def fol1_o4 : Oper := { dst := some 16, op := Op.move (Operand.tmp 0), type := 23, pos := "seq.go:74", after := #[], guard := none }
def fol1_o5 : Oper := { dst := some 17, op := Op.move (Operand.tmp 1), type := 3, pos := "seq.go:74", after := #[], guard := none }
def fol1_o6 : Oper := { dst := some 18, op := Op.call { callee := Callee.value (Operand.func 34), args := #[Operand.tmp 16, Operand.tmp 17], argTypes := #[23, 3] }, type := 96, pos := "seq.go:74", after := #[{ on := 4, ground := Ground.data }, { on := 5, ground := Ground.data }], guard := none }
def fol1_o7 : Oper := { dst := some 19, op := Op.nilCheck (Operand.tmp 18), type := 0, pos := "seq.go:74", after := #[{ on := 6, ground := Ground.data }], guard := none }
def fol1_o8 : Oper := { dst := some 20, op := Op.fieldAddr 90 (Operand.tmp 19) 0, type := 0, pos := "seq.go:74", after := #[{ on := 7, ground := Ground.data }], guard := none }
def fol1_o9 : Oper := { dst := some 21, op := Op.load 32 (Operand.tmp 20), type := 32, pos := "seq.go:74", after := #[{ on := 8, ground := Ground.data }], guard := none }
def fol1_o10 : Oper := { dst := some 22, op := Op.move (Operand.tmp 1), type := 3, pos := "seq.go:74", after := #[], guard := none }
def fol1_o11 : Oper := { dst := none, op := Op.mapUpdate 84 (Operand.tmp 15) (Operand.tmp 21) (Operand.tmp 22), type := 0, pos := "seq.go:74", after := #[{ on := 3, ground := Ground.data }, { on := 9, ground := Ground.data }, { on := 10, ground := Ground.data }, { on := 6, ground := Ground.chain }, { on := 0, ground := Ground.phase }, { on := 1, ground := Ground.phase }, { on := 2, ground := Ground.phase }, { on := 3, ground := Ground.phase }, { on := 4, ground := Ground.phase }, { on := 5, ground := Ground.phase }, { on := 6, ground := Ground.phase }, { on := 7, ground := Ground.phase }, { on := 8, ground := Ground.phase }, { on := 9, ground := Ground.phase }, { on := 10, ground := Ground.phase }], guard := none }
def fol1_ops : Array Oper := #[fol1_o0, fol1_o1, fol1_o2, fol1_o3, fol1_o4, fol1_o5, fol1_o6, fol1_o7, fol1_o8, fol1_o9, fol1_o10, fol1_o11]
set_option maxRecDepth 100000 in
set_option maxHeartbeats 4000000 in
theorem fol1 {s : Sx} {i : Nat} {w2 : World} (a : Act) (w : World) (Q : Exit → Act → World → Prop) (zz : a.tmps.size = 23)
    (t0 : a.tmps.getD 0 undef = .pointer (some ⟨s.sb, 0, none⟩))
    (t1 : a.tmps.getD 1 undef = .int .i64 (i : Int))
    (hR : SqAt w s.sb 1 s.g s.cap s.L) (hc : w.cell? ⟨s.sb, 0, none⟩ = some (.map (some s.mb))) (hi : i < s.L.length) (CE : Calls Try.prog 34 #[.pointer (some ⟨s.sb, 0, none⟩), .int .i64 (i : Int)] w.drew fun e w' => e = .returned (.pointer (some ⟨s.g, 73 * i + 0, none⟩)) ∧ w' = w.drew) (EM : (Instr.mapUpdate 84 (.map (some s.mb)) (gt s.L i).kp.id.v (.int .i64 (i : Int))).run Try.prog w.drew = .ok () w2)
    (h : ∀ (a' : Act) (w' : World), w' = w2 → a' = (((((((((((a).put (some 12) (.pointer (some ⟨s.sb, 0, none⟩))).put (some 13) (.pointer (some ⟨s.sb, 0, none⟩))).put (some 14) (.pointer (some ⟨s.sb, 0, none⟩))).put (some 15) (.map (some s.mb))).put (some 16) (.pointer (some ⟨s.sb, 0, none⟩))).put (some 17) (.int .i64 (i : Int))).put (some 22) (.int .i64 (i : Int))).put (some 18) (.pointer (some ⟨s.g, 73 * i + 0, none⟩))).put (some 19) (.pointer (some ⟨s.g, 73 * i + 0, none⟩))).put (some 20) (.pointer (some ⟨s.g, 73 * i + 0 + 0, none⟩))).put (some 21) ((gt s.L i).kp.id.v) → Q .normal a' w') :
    (Code.region 1 fol1_ops true).wp Try.prog Q a w := by
  refine x0 11 (fun w' => w' = w.drew) (rfl) (fun hHeld => ?_)
  refine xv 0 rfl rfl (fun w1 hw => exec_move rfl (zi t0 rfl)) hHeld ?_
  refine xv 1 rfl rfl (fun w1 hw => exec_nilCheck rfl (zg zz rfl)) hHeld ?_
  refine xv 2 rfl rfl (fun w1 hw => exec_fieldAt rfl (zg zz rfl) (fg_92_0 _ _ _)) hHeld ?_
  refine xv 3 rfl rfl (fun w1 hw => exec_load rfl (zg zz rfl) (ld_map (cellW hw hc))) hHeld ?_
  refine xv 4 rfl rfl (fun w1 hw => exec_move rfl (zi t0 rfl)) hHeld ?_
  refine xv 5 rfl rfl (fun w1 hw => exec_move rfl (zi t1 rfl)) hHeld ?_
  refine xv 10 rfl rfl (fun w1 hw => exec_move rfl (zi t1 rfl)) hHeld ?_
  refine xc 6 rfl rfl (exec_c2 rfl (zg zz rfl) (zg zz rfl)) (CE) (fun e x6 hx => ?_)
  obtain ⟨rfl, rfl⟩ := hx
  refine ⟨_, rfl, fun _ => rfl, fun hHeld => ?_⟩
  replace hHeld := hHeld (by decide)
  refine xv 7 rfl rfl (fun w1 hw => exec_nilCheck rfl (zg zz rfl)) hHeld ?_
  refine xv 8 rfl rfl (fun w1 hw => exec_fieldAt rfl (zg zz rfl) (fg_90_0 _ _ _)) hHeld ?_
  refine xv 9 rfl rfl (fun w1 hw => exec_load rfl (zg zz rfl) (R_id (hw ▸ hR.drew : SqAt _ s.sb 1 s.g s.cap s.L) hi)) hHeld ?_
  refine xs 11 rfl rfl (exec_mapUpdate rfl (zg zz rfl) (zg zz rfl) (zg zz rfl) EM) (fun hne => absurd rfl hne) (fun _ => ?_)
  exact xe rfl (h _ _ (rfl) rfl)
def show3_o0 : Oper := { dst := some 11, op := Op.move (Operand.tmp 0), type := 23, pos := "seq.go:83", after := #[], guard := none }
def show3_o1 : Oper := { dst := some 12, op := Op.load 32 (Operand.tmp 4), type := 32, pos := "seq.go:83", after := #[], guard := none }
def show3_o2 : Oper := { dst := some 13, op := Op.call { callee := Callee.value (Operand.func 31), args := #[Operand.tmp 11, Operand.tmp 12], argTypes := #[23, 32] }, type := 4, pos := "seq.go:83", after := #[{ on := 0, ground := Ground.data }, { on := 1, ground := Ground.data }], guard := none }
def show3_o3 : Oper := { dst := some 14, op := Op.unOp UnOp.not 4 (Operand.tmp 13), type := 4, pos := "seq.go:83", after := #[{ on := 2, ground := Ground.data }], guard := none }
def show3_o4 : Oper := { dst := some 10, op := Op.assign (Operand.tmp 14), type := 4, pos := "seq.go:83", after := #[{ on := 3, ground := Ground.data }, { on := 2, ground := Ground.chain }], guard := none }
def show3_ops : Array Oper := #[show3_o0, show3_o1, show3_o2, show3_o3, show3_o4]
set_option maxRecDepth 100000 in
set_option maxHeartbeats 4000000 in
theorem show3 {s : Sx} {b1 : Nat} {k : IdK} {r : Bool} (a : Act) (w : World) (Q : Exit → Act → World → Prop) (zz : a.tmps.size = 26)
    (t0 : a.tmps.getD 0 undef = .pointer (some ⟨s.sb, 0, none⟩))
    (t4 : a.tmps.getD 4 undef = .pointer (some ⟨b1, 0, none⟩))
    (hk : k.ok) (ib1 : IdAt w b1 k) (CH : Calls Try.prog 31 #[.pointer (some ⟨s.sb, 0, none⟩), k.v] w fun e w' => e = .returned (.bool r) ∧ Below w.heap.size w w')
    (h : ∀ (a' : Act) (w' : World), Below w.heap.size w w' → a' = (((((a).put (some 11) (.pointer (some ⟨s.sb, 0, none⟩))).put (some 12) (k.v)).put (some 13) (.bool r)).put (some 14) (.bool (!r))).put (some 10) (.bool (!r)) → Q .normal a' w') :
    (Code.region 3 show3_ops false).wp Try.prog Q a w := by
  refine z0 rfl ?_
  refine zv rfl (exec_move rfl (zi t0 rfl)) ?_
  refine zv rfl (exec_load rfl (zi t4 rfl) (load_id hk ib1)) ?_
  refine zc rfl (exec_c2 rfl (zg zz rfl) (zg zz rfl)) (CH) (fun e x2 hx => ?_)
  obtain ⟨rfl, S1⟩ := hx
  refine ⟨_, rfl, ?_⟩
  refine zv rfl (exec_not rfl (zg zz rfl)) ?_
  refine zv rfl (exec_assign rfl (zg zz rfl)) ?_
  exact ze rfl (h _ _ (S1) rfl)
def show5_o0 : Oper := { dst := some 15, op := Op.move (Operand.tmp 0), type := 23, pos := "seq.go:86", after := #[], guard := none }
def show5_o1 : Oper := { dst := some 16, op := Op.nilCheck (Operand.tmp 15), type := 0, pos := "seq.go:86", after := #[{ on := 0, ground := Ground.data }], guard := none }
def show5_o2 : Oper := { dst := some 17, op := Op.fieldAddr 92 (Operand.tmp 16) 1, type := 0, pos := "seq.go:86", after := #[{ on := 1, ground := Ground.data }], guard := none }
def show5_o3 : Oper := { dst := some 18, op := Op.move (Operand.tmp 0), type := 23, pos := "seq.go:86", after := #[], guard := none }
def show5_o4 : Oper := { dst := some 19, op := Op.nilCheck (Operand.tmp 18), type := 0, pos := "seq.go:86", after := #[{ on := 3, ground := Ground.data }], guard := none }
def show5_o5 : Oper := { dst := some 20, op := Op.fieldAddr 92 (Operand.tmp 19) 0, type := 0, pos := "seq.go:86", after := #[{ on := 4, ground := Ground.data }], guard := none }
def show5_o6 : Oper := { dst := some 21, op := Op.load 84 (Operand.tmp 20), type := 84, pos := "seq.go:86", after := #[{ on := 5, ground := Ground.data }], guard := none }
def show5_o7 : Oper := { dst := some 22, op := Op.load 32 (Operand.tmp 4), type := 32, pos := "seq.go:86", after := #[], guard := none }
def show5_o8 : Oper := { dst := some 23, op := Op.lookup 84 (Operand.tmp 21) (Operand.tmp 22) false, type := 3, pos := "seq.go:86", after := #[{ on := 6, ground := Ground.data }, { on := 7, ground := Ground.data }], guard := none }
def show5_o9 : Oper := { dst := some 24, op := Op.move (Operand.tmp 2), type := 4, pos := "seq.go:86", after := #[], guard := none }
def show5_o10 : Oper := { dst := some 25, op := Op.call { callee := Callee.value (Operand.func 39), args := #[Operand.tmp 17, Operand.tmp 23, Operand.tmp 24], argTypes := #[87, 3, 4] }, type := 0, pos := "seq.go:86", after := #[{ on := 2, ground := Ground.data }, { on := 8, ground := Ground.data }, { on := 9, ground := Ground.data }], guard := none }
def show5_ops : Array Oper := #[show5_o0, show5_o1, show5_o2, show5_o3, show5_o4, show5_o5, show5_o6, show5_o7, show5_o8, show5_o9, show5_o10]
set_option maxRecDepth 100000 in
set_option maxHeartbeats 4000000 in
theorem show5 {s : Sx} {E : List Elt} {b1 i : Nat} {k : IdK} {b : Bool} (Fin : World → Prop) (a : Act) (w : World) (Q : Exit → Act → World → Prop) (zz : a.tmps.size = 26)
    (t0 : a.tmps.getD 0 undef = .pointer (some ⟨s.sb, 0, none⟩))
    (t4 : a.tmps.getD 4 undef = .pointer (some ⟨b1, 0, none⟩))
    (t2 : a.tmps.getD 2 undef = .bool b)
    (hS : SeqAt w s E) (hk : k.ok) (ib1 : IdAt w b1 k) (ei : spotOf s k = i) (CT : Calls Try.prog 39 #[.pointer (some ⟨s.sb, 1, none⟩), .int .i64 (i : Int), .bool b] w.drew fun e w' => e = .returned (.tuple #[]) ∧ Fin w')
    (h : ∀ (a' : Act) (w' : World), Fin w' → a' = (((((((((((a).put (some 15) (.pointer (some ⟨s.sb, 0, none⟩))).put (some 16) (.pointer (some ⟨s.sb, 0, none⟩))).put (some 17) (.pointer (some ⟨s.sb, 1, none⟩))).put (some 18) (.pointer (some ⟨s.sb, 0, none⟩))).put (some 19) (.pointer (some ⟨s.sb, 0, none⟩))).put (some 20) (.pointer (some ⟨s.sb, 0, none⟩))).put (some 21) (.map (some s.mb))).put (some 22) (k.v)).put (some 23) (.int .i64 (i : Int))).put (some 24) (.bool b)).put (some 25) (.tuple #[]) → Q .normal a' w') :
    (Code.region 5 show5_ops true).wp Try.prog Q a w := by
  refine x0 10 (fun w' => w' = w.drew) (rfl) (fun hHeld => ?_)
  refine xv 0 rfl rfl (fun w1 hw => exec_move rfl (zi t0 rfl)) hHeld ?_
  refine xv 1 rfl rfl (fun w1 hw => exec_nilCheck rfl (zg zz rfl)) hHeld ?_
  refine xv 2 rfl rfl (fun w1 hw => exec_fieldAt rfl (zg zz rfl) (fg_92_1 _ _ _)) hHeld ?_
  refine xv 3 rfl rfl (fun w1 hw => exec_move rfl (zi t0 rfl)) hHeld ?_
  refine xv 4 rfl rfl (fun w1 hw => exec_nilCheck rfl (zg zz rfl)) hHeld ?_
  refine xv 5 rfl rfl (fun w1 hw => exec_fieldAt rfl (zg zz rfl) (fg_92_0 _ _ _)) hHeld ?_
  refine xv 6 rfl rfl (fun w1 hw => exec_load rfl (zg zz rfl) (ld_map (hw ▸ hS.drew : SeqAt _ s E).c0)) hHeld ?_
  refine xv 7 rfl rfl (fun w1 hw => exec_load rfl (zi t4 rfl) (load_id hk (hw ▸ ib1 : IdAt _ b1 k))) hHeld ?_
  refine xv (v := .int .i64 (i : Int)) 8 rfl rfl (fun w1 hw => exec_lookup rfl (zg zz rfl) (zg zz rfl) (by rw [look_spot (hw ▸ hS.drew : SeqAt _ s E) k hk, ei])) hHeld ?_
  refine xv 9 rfl rfl (fun w1 hw => exec_move rfl (zi t2 rfl)) hHeld ?_
  refine xc 10 rfl rfl (exec_c3 rfl (zg zz rfl) (zg zz rfl) (zg zz rfl)) (CT) (fun e x10 hx => ?_)
  obtain ⟨rfl, HF⟩ := hx
  refine ⟨_, rfl, fun hne => absurd rfl hne, fun _ => ?_⟩
  exact xe rfl (h _ _ (HF) rfl)
def smany3_o0 : Oper := { dst := some 7, op := Op.move (Operand.tmp 0), type := 23, pos := "seq.go:109", after := #[], guard := none }
def smany3_o1 : Oper := { dst := some 8, op := Op.nilCheck (Operand.tmp 7), type := 0, pos := "seq.go:109", after := #[{ on := 0, ground := Ground.data }], guard := none }
def smany3_o2 : Oper := { dst := some 9, op := Op.fieldAddr 92 (Operand.tmp 8) 1, type := 0, pos := "seq.go:109", after := #[{ on := 1, ground := Ground.data }], guard := none }
def smany3_o3 : Oper := { dst := some 10, op := Op.move (Operand.tmp 1), type := 3, pos := "seq.go:109", after := #[], guard := none }
def smany3_o4 : Oper := { dst := some 11, op := Op.call { callee := Callee.value (Operand.func 85), args := #[Operand.tmp 9, Operand.tmp 10], argTypes := #[87, 3] }, type := 3, pos := "seq.go:109", after := #[{ on := 2, ground := Ground.data }, { on := 3, ground := Ground.data }], guard := none }
def smany3_o5 : Oper := { dst := some 4, op := Op.assign (Operand.tmp 11), type := 3, pos := "seq.go:109", after := #[{ on := 4, ground := Ground.data }, { on := 4, ground := Ground.chain }, { on := 0, ground := Ground.phase }, { on := 1, ground := Ground.phase }, { on := 2, ground := Ground.phase }, { on := 3, ground := Ground.phase }, { on := 4, ground := Ground.phase }], guard := none }
def smany3_ops : Array Oper := #[smany3_o0, smany3_o1, smany3_o2, smany3_o3, smany3_o4, smany3_o5]
set_option maxRecDepth 100000 in
set_option maxHeartbeats 4000000 in
theorem smany3 {s : Sx} {n : Nat} {c : Bool} (Fin : World → Prop) (a : Act) (w : World) (Q : Exit → Act → World → Prop) (zz : a.tmps.size = 12)
    (t0 : a.tmps.getD 0 undef = .pointer (some ⟨s.sb, 0, none⟩))
    (t1 : a.tmps.getD 1 undef = .int .i64 (nb c : Int))
    (CT : Calls Try.prog 85 #[.pointer (some ⟨s.sb, 1, none⟩), .int .i64 (nb c : Int)] w fun e w' => e = .returned (.int .i64 (n : Int)) ∧ Fin w')
    (h : ∀ (a' : Act) (w' : World), Fin w' → a' = ((((((a).put (some 7) (.pointer (some ⟨s.sb, 0, none⟩))).put (some 8) (.pointer (some ⟨s.sb, 0, none⟩))).put (some 9) (.pointer (some ⟨s.sb, 1, none⟩))).put (some 10) (.int .i64 (nb c : Int))).put (some 11) (.int .i64 (n : Int))).put (some 4) (.int .i64 (n : Int)) → Q .normal a' w') :
    (Code.region 3 smany3_ops false).wp Try.prog Q a w := by
  refine z0 rfl ?_
  refine zv rfl (exec_move rfl (zi t0 rfl)) ?_
  refine zv rfl (exec_nilCheck rfl (zg zz rfl)) ?_
  refine zv rfl (exec_fieldAt rfl (zg zz rfl) (fg_92_1 _ _ _)) ?_
  refine zv rfl (exec_move rfl (zi t1 rfl)) ?_
  refine zc rfl (exec_c2 rfl (zg zz rfl) (zg zz rfl)) (CT) (fun e x4 hx => ?_)
  obtain ⟨rfl, HF⟩ := hx
  refine ⟨_, rfl, ?_⟩
  refine zv rfl (exec_assign rfl (zg zz rfl)) ?_
  exact ze rfl (h _ _ (HF) rfl)
def ah1_o0 : Oper := { dst := some 7, op := Op.move (Operand.tmp 0), type := 23, pos := "seq.go:157", after := #[], guard := none }
def ah1_o1 : Oper := { dst := some 8, op := Op.load 32 (Operand.tmp 4), type := 32, pos := "seq.go:157", after := #[], guard := none }
def ah1_o2 : Oper := { dst := some 9, op := Op.call { callee := Callee.value (Operand.func 31), args := #[Operand.tmp 7, Operand.tmp 8], argTypes := #[23, 32] }, type := 4, pos := "seq.go:157", after := #[{ on := 0, ground := Ground.data }, { on := 1, ground := Ground.data }], guard := none }
def ah1_o3 : Oper := { dst := some 10, op := Op.unOp UnOp.not 4 (Operand.tmp 9), type := 4, pos := "seq.go:157", after := #[{ on := 2, ground := Ground.data }], guard := none }
def ah1_ops : Array Oper := #[ah1_o0, ah1_o1, ah1_o2, ah1_o3]
set_option maxRecDepth 100000 in
set_option maxHeartbeats 4000000 in
theorem ah1 {s : Sx} {b1 : Nat} {k : IdK} {r : Bool} (a : Act) (w : World) (Q : Exit → Act → World → Prop) (zz : a.tmps.size = 22)
    (t0 : a.tmps.getD 0 undef = .pointer (some ⟨s.sb, 0, none⟩))
    (t4 : a.tmps.getD 4 undef = .pointer (some ⟨b1, 0, none⟩))
    (hk : k.ok) (ib1 : IdAt w b1 k) (CH : Calls Try.prog 31 #[.pointer (some ⟨s.sb, 0, none⟩), k.v] w fun e w' => e = .returned (.bool r) ∧ Below w.heap.size w w')
    (h : ∀ (a' : Act) (w' : World), Below w.heap.size w w' → a' = ((((a).put (some 7) (.pointer (some ⟨s.sb, 0, none⟩))).put (some 8) (k.v)).put (some 9) (.bool r)).put (some 10) (.bool (!r)) → Q .normal a' w') :
    (Code.region 1 ah1_ops false).wp Try.prog Q a w := by
  refine z0 rfl ?_
  refine zv rfl (exec_move rfl (zi t0 rfl)) ?_
  refine zv rfl (exec_load rfl (zi t4 rfl) (load_id hk ib1)) ?_
  refine zc rfl (exec_c2 rfl (zg zz rfl) (zg zz rfl)) (CH) (fun e x2 hx => ?_)
  obtain ⟨rfl, S1⟩ := hx
  refine ⟨_, rfl, ?_⟩
  refine zv rfl (exec_not rfl (zg zz rfl)) ?_
  exact ze rfl (h _ _ (S1) rfl)
def ah3_o0 : Oper := { dst := some 11, op := Op.move (Operand.tmp 0), type := 23, pos := "seq.go:160", after := #[], guard := none }
def ah3_o1 : Oper := { dst := some 12, op := Op.nilCheck (Operand.tmp 11), type := 0, pos := "seq.go:160", after := #[{ on := 0, ground := Ground.data }], guard := none }
def ah3_o2 : Oper := { dst := some 13, op := Op.fieldAddr 92 (Operand.tmp 12) 1, type := 0, pos := "seq.go:160", after := #[{ on := 1, ground := Ground.data }], guard := none }
def ah3_o3 : Oper := { dst := some 14, op := Op.move (Operand.tmp 0), type := 23, pos := "seq.go:160", after := #[], guard := none }
def ah3_o4 : Oper := { dst := some 15, op := Op.nilCheck (Operand.tmp 14), type := 0, pos := "seq.go:160", after := #[{ on := 3, ground := Ground.data }], guard := none }
def ah3_o5 : Oper := { dst := some 16, op := Op.fieldAddr 92 (Operand.tmp 15) 0, type := 0, pos := "seq.go:160", after := #[{ on := 4, ground := Ground.data }], guard := none }
def ah3_o6 : Oper := { dst := some 17, op := Op.load 84 (Operand.tmp 16), type := 84, pos := "seq.go:160", after := #[{ on := 5, ground := Ground.data }], guard := none }
def ah3_o7 : Oper := { dst := some 18, op := Op.load 32 (Operand.tmp 4), type := 32, pos := "seq.go:160", after := #[], guard := none }
def ah3_o8 : Oper := { dst := some 19, op := Op.lookup 84 (Operand.tmp 17) (Operand.tmp 18) false, type := 3, pos := "seq.go:160", after := #[{ on := 6, ground := Ground.data }, { on := 7, ground := Ground.data }], guard := none }
def ah3_o9 : Oper := { dst := some 20, op := Op.move (Operand.tmp 2), type := 3, pos := "seq.go:160", after := #[], guard := none }
def ah3_o10 : Oper := { dst := some 21, op := Op.call { callee := Callee.value (Operand.func 88), args := #[Operand.tmp 13, Operand.tmp 19, Operand.tmp 20], argTypes := #[87, 3, 3] }, type := 3, pos := "seq.go:160", after := #[{ on := 2, ground := Ground.data }, { on := 8, ground := Ground.data }, { on := 9, ground := Ground.data }], guard := none }
def ah3_o11 : Oper := { dst := some 6, op := Op.assign (Operand.tmp 21), type := 3, pos := "seq.go:160", after := #[{ on := 10, ground := Ground.data }, { on := 10, ground := Ground.chain }, { on := 0, ground := Ground.phase }, { on := 1, ground := Ground.phase }, { on := 2, ground := Ground.phase }, { on := 3, ground := Ground.phase }, { on := 4, ground := Ground.phase }, { on := 5, ground := Ground.phase }, { on := 6, ground := Ground.phase }, { on := 7, ground := Ground.phase }, { on := 8, ground := Ground.phase }, { on := 9, ground := Ground.phase }, { on := 10, ground := Ground.phase }], guard := none }
def ah3_ops : Array Oper := #[ah3_o0, ah3_o1, ah3_o2, ah3_o3, ah3_o4, ah3_o5, ah3_o6, ah3_o7, ah3_o8, ah3_o9, ah3_o10, ah3_o11]
set_option maxRecDepth 100000 in
set_option maxHeartbeats 4000000 in
theorem ah3 {s : Sx} {E : List Elt} {b1 i n : Nat} {k : IdK} {c : Bool} (a : Act) (w : World) (Q : Exit → Act → World → Prop) (zz : a.tmps.size = 22)
    (t0 : a.tmps.getD 0 undef = .pointer (some ⟨s.sb, 0, none⟩))
    (t4 : a.tmps.getD 4 undef = .pointer (some ⟨b1, 0, none⟩))
    (t2 : a.tmps.getD 2 undef = .int .i64 (nb c : Int))
    (hS : SeqAt w s E) (hk : k.ok) (ib1 : IdAt w b1 k) (ei : spotOf s k = i) (CT : Calls Try.prog 88 #[.pointer (some ⟨s.sb, 1, none⟩), .int .i64 (i : Int), .int .i64 (nb c : Int)] w.drew fun e w' => e = .returned (.int .i64 (n : Int)) ∧ SeqAt w' s E ∧ IdAt w' b1 k ∧ Qt w w')
    (h : ∀ (a' : Act) (w' : World), Qt w w' → a' = ((((((((((((a).put (some 11) (.pointer (some ⟨s.sb, 0, none⟩))).put (some 12) (.pointer (some ⟨s.sb, 0, none⟩))).put (some 13) (.pointer (some ⟨s.sb, 1, none⟩))).put (some 14) (.pointer (some ⟨s.sb, 0, none⟩))).put (some 15) (.pointer (some ⟨s.sb, 0, none⟩))).put (some 16) (.pointer (some ⟨s.sb, 0, none⟩))).put (some 17) (.map (some s.mb))).put (some 18) (k.v)).put (some 19) (.int .i64 (i : Int))).put (some 20) (.int .i64 (nb c : Int))).put (some 21) (.int .i64 (n : Int))).put (some 6) (.int .i64 (n : Int)) → Q .normal a' w') :
    (Code.region 3 ah3_ops true).wp Try.prog Q a w := by
  refine y0 (fun w' => SeqAt w' s E ∧ IdAt w' b1 k ∧ Qt w w') (⟨hS.drew, ib1, Qt.drew w⟩) (fun hHeld => ?_)
  refine yv 0 rfl rfl (fun w1 hw => exec_move rfl (zi t0 rfl)) hHeld ?_
  refine yv 1 rfl rfl (fun w1 hw => exec_nilCheck rfl (zg zz rfl)) hHeld ?_
  refine yv 2 rfl rfl (fun w1 hw => exec_fieldAt rfl (zg zz rfl) (fg_92_1 _ _ _)) hHeld ?_
  refine yv 3 rfl rfl (fun w1 hw => exec_move rfl (zi t0 rfl)) hHeld ?_
  refine yv 4 rfl rfl (fun w1 hw => exec_nilCheck rfl (zg zz rfl)) hHeld ?_
  refine yv 5 rfl rfl (fun w1 hw => exec_fieldAt rfl (zg zz rfl) (fg_92_0 _ _ _)) hHeld ?_
  refine yv 6 rfl rfl (fun w1 hw => exec_load rfl (zg zz rfl) (ld_map hw.1.c0)) hHeld ?_
  refine yv 7 rfl rfl (fun w1 hw => exec_load rfl (zi t4 rfl) (load_id hk hw.2.1)) hHeld ?_
  refine yv (v := .int .i64 (i : Int)) 8 rfl rfl (fun w1 hw => exec_lookup rfl (zg zz rfl) (zg zz rfl) (by rw [look_spot hw.1 k hk, ei])) hHeld ?_
  refine yv 9 rfl rfl (fun w1 hw => exec_move rfl (zi t2 rfl)) hHeld ?_
  refine yc 10 rfl rfl (exec_c3 rfl (zg zz rfl) (zg zz rfl) (zg zz rfl)) (CT) (fun e x10 hx => ?_)
  obtain ⟨rfl, S1⟩ := hx
  refine ⟨_, rfl, S1, fun hHeld => ?_⟩
  refine yv 11 rfl rfl (fun w1 hw => exec_assign rfl (zg zz rfl)) hHeld ?_
  exact ye rfl (h _ _ (hHeld.2.2) rfl)
def be1_o0 : Oper := { dst := some 6, op := Op.move (Operand.tmp 0), type := 23, pos := "seq.go:140", after := #[], guard := none }
def be1_o1 : Oper := { dst := some 7, op := Op.load 32 (Operand.tmp 3), type := 32, pos := "seq.go:140", after := #[], guard := none }
def be1_o2 : Oper := { dst := some 8, op := Op.call { callee := Callee.value (Operand.func 31), args := #[Operand.tmp 6, Operand.tmp 7], argTypes := #[23, 32] }, type := 4, pos := "seq.go:140", after := #[{ on := 0, ground := Ground.data }, { on := 1, ground := Ground.data }], guard := none }
def be1_o3 : Oper := { dst := some 9, op := Op.unOp UnOp.not 4 (Operand.tmp 8), type := 4, pos := "seq.go:140", after := #[{ on := 2, ground := Ground.data }], guard := none }
def be1_ops : Array Oper := #[be1_o0, be1_o1, be1_o2, be1_o3]
set_option maxRecDepth 100000 in
set_option maxHeartbeats 4000000 in
theorem be1 {s : Sx} {b1 : Nat} {k : IdK} {r : Bool} (a : Act) (w : World) (Q : Exit → Act → World → Prop) (zz : a.tmps.size = 22)
    (t0 : a.tmps.getD 0 undef = .pointer (some ⟨s.sb, 0, none⟩))
    (t3 : a.tmps.getD 3 undef = .pointer (some ⟨b1, 0, none⟩))
    (hk : k.ok) (ib1 : IdAt w b1 k) (CH : Calls Try.prog 31 #[.pointer (some ⟨s.sb, 0, none⟩), k.v] w fun e w' => e = .returned (.bool r) ∧ Below w.heap.size w w')
    (h : ∀ (a' : Act) (w' : World), Below w.heap.size w w' → a' = ((((a).put (some 6) (.pointer (some ⟨s.sb, 0, none⟩))).put (some 7) (k.v)).put (some 8) (.bool r)).put (some 9) (.bool (!r)) → Q .normal a' w') :
    (Code.region 1 be1_ops false).wp Try.prog Q a w := by
  refine z0 rfl ?_
  refine zv rfl (exec_move rfl (zi t0 rfl)) ?_
  refine zv rfl (exec_load rfl (zi t3 rfl) (load_id hk ib1)) ?_
  refine zc rfl (exec_c2 rfl (zg zz rfl) (zg zz rfl)) (CH) (fun e x2 hx => ?_)
  obtain ⟨rfl, S1⟩ := hx
  refine ⟨_, rfl, ?_⟩
  refine zv rfl (exec_not rfl (zg zz rfl)) ?_
  exact ze rfl (h _ _ (S1) rfl)
def be2_o0 : Oper := { dst := some 10, op := Op.build 32 #[], type := 32, pos := "seq.go:141", after := #[], guard := none }
def be2_o1 : Oper := { dst := none, op := Op.store 32 (Operand.tmp 4) (Operand.tmp 10), type := 0, pos := "seq.go:141", after := #[{ on := 0, ground := Ground.data }, { on := 0, ground := Ground.phase }], guard := none }
def be2_o2 : Oper := { dst := some 5, op := Op.assign (Operand.const (Value.bool false)), type := 4, pos := "seq.go:141", after := #[{ on := 1, ground := Ground.chain }, { on := 0, ground := Ground.phase }, { on := 1, ground := Ground.phase }], guard := none }
def be2_ops : Array Oper := #[be2_o0, be2_o1, be2_o2]
set_option maxRecDepth 100000 in
set_option maxHeartbeats 4000000 in
theorem be2 {rb : Nat} {w2 : World} (a : Act) (w : World) (Q : Exit → Act → World → Prop) (zz : a.tmps.size = 22)
    (t4 : a.tmps.getD 4 undef = .pointer (some ⟨rb, 0, none⟩))
    (ES : (Instr.storeAt 32 (.pointer (some ⟨rb, 0, none⟩)) zId.v).run Try.prog w = .ok () w2)
    (h : ∀ (a' : Act) (w' : World), w' = w2 → a' = ((a).put (some 10) (zId.v)).put (some 5) (.bool false) → Q .normal a' w') :
    (Code.region 2 be2_ops false).wp Try.prog Q a w := by
  refine z0 rfl ?_
  refine zv rfl (exec_build0 rfl (build_id _)) ?_
  refine zs rfl (exec_store rfl (zi t4 rfl) (zg zz rfl) ES) ?_
  refine zv rfl (exec_assign rfl rfl) ?_
  exact ze rfl (h _ _ (rfl) rfl)
def be3_o0 : Oper := { dst := some 11, op := Op.move (Operand.tmp 0), type := 23, pos := "seq.go:143", after := #[], guard := none }
def be3_o1 : Oper := { dst := some 12, op := Op.move (Operand.tmp 0), type := 23, pos := "seq.go:143", after := #[], guard := none }
def be3_o2 : Oper := { dst := some 13, op := Op.nilCheck (Operand.tmp 12), type := 0, pos := "seq.go:143", after := #[{ on := 1, ground := Ground.data }], guard := none }
def be3_o3 : Oper := { dst := some 14, op := Op.fieldAddr 92 (Operand.tmp 13) 0, type := 0, pos := "seq.go:143", after := #[{ on := 2, ground := Ground.data }], guard := none }
def be3_o4 : Oper := { dst := some 15, op := Op.load 84 (Operand.tmp 14), type := 84, pos := "seq.go:143", after := #[{ on := 3, ground := Ground.data }], guard := none }
def be3_o5 : Oper := { dst := some 16, op := Op.load 32 (Operand.tmp 3), type := 32, pos := "seq.go:143", after := #[], guard := none }
def be3_o6 : Oper := { dst := some 17, op := Op.lookup 84 (Operand.tmp 15) (Operand.tmp 16) false, type := 3, pos := "seq.go:143", after := #[{ on := 4, ground := Ground.data }, { on := 5, ground := Ground.data }], guard := none }
def be3_o7 : Oper := { dst := some 18, op := Op.call { callee := Callee.value (Operand.func 34), args := #[Operand.tmp 11, Operand.tmp 17], argTypes := #[23, 3] }, type := 96, pos := "seq.go:143", after := #[{ on := 0, ground := Ground.data }, { on := 6, ground := Ground.data }], guard := none }
def be3_o8 : Oper := { dst := some 19, op := Op.nilCheck (Operand.tmp 18), type := 0, pos := "seq.go:143", after := #[{ on := 7, ground := Ground.data }], guard := none }
def be3_o9 : Oper := { dst := some 20, op := Op.fieldAddr 90 (Operand.tmp 19) 1, type := 0, pos := "seq.go:143", after := #[{ on := 8, ground := Ground.data }], guard := none }
def be3_o10 : Oper := { dst := some 21, op := Op.load 32 (Operand.tmp 20), type := 32, pos := "seq.go:143", after := #[{ on := 9, ground := Ground.data }], guard := none }
def be3_o11 : Oper := { dst := none, op := Op.store 32 (Operand.tmp 4) (Operand.tmp 21), type := 0, pos := "seq.go:143", after := #[{ on := 10, ground := Ground.data }, { on := 7, ground := Ground.chain }, { on := 0, ground := Ground.phase }, { on := 1, ground := Ground.phase }, { on := 2, ground := Ground.phase }, { on := 3, ground := Ground.phase }, { on := 4, ground := Ground.phase }, { on := 5, ground := Ground.phase }, { on := 6, ground := Ground.phase }, { on := 7, ground := Ground.phase }, { on := 8, ground := Ground.phase }, { on := 9, ground := Ground.phase }, { on := 10, ground := Ground.phase }], guard := none }
def be3_o12 : Oper := { dst := some 5, op := Op.assign (Operand.const (Value.bool true)), type := 4, pos := "seq.go:143", after := #[{ on := 11, ground := Ground.chain }, { on := 0, ground := Ground.phase }, { on := 1, ground := Ground.phase }, { on := 2, ground := Ground.phase }, { on := 3, ground := Ground.phase }, { on := 4, ground := Ground.phase }, { on := 5, ground := Ground.phase }, { on := 6, ground := Ground.phase }, { on := 7, ground := Ground.phase }, { on := 8, ground := Ground.phase }, { on := 9, ground := Ground.phase }, { on := 10, ground := Ground.phase }, { on := 11, ground := Ground.phase }], guard := none }
def be3_ops : Array Oper := #[be3_o0, be3_o1, be3_o2, be3_o3, be3_o4, be3_o5, be3_o6, be3_o7, be3_o8, be3_o9, be3_o10, be3_o11, be3_o12]
set_option maxRecDepth 100000 in
set_option maxHeartbeats 4000000 in
theorem be3 {s : Sx} {E : List Elt} {b1 rb i : Nat} {k : IdK} {w2 : World} (a : Act) (w : World) (Q : Exit → Act → World → Prop) (zz : a.tmps.size = 22)
    (t0 : a.tmps.getD 0 undef = .pointer (some ⟨s.sb, 0, none⟩))
    (t3 : a.tmps.getD 3 undef = .pointer (some ⟨b1, 0, none⟩))
    (t4 : a.tmps.getD 4 undef = .pointer (some ⟨rb, 0, none⟩))
    (hS : SeqAt w s E) (S2 : SeqAt w2 s E ∧ IdAt w2 b1 k) (hk : k.ok) (ib1 : IdAt w b1 k) (ei : spotOf s k = i) (hi : i < s.L.length) (CE : Calls Try.prog 34 #[.pointer (some ⟨s.sb, 0, none⟩), .int .i64 (i : Int)] w.drew fun e w' => e = .returned (.pointer (some ⟨s.g, 73 * i + 0, none⟩)) ∧ w' = w.drew) (ES : (Instr.storeAt 32 (.pointer (some ⟨rb, 0, none⟩)) (gt s.L i).kp.bh.v).run Try.prog w.drew = .ok () w2)
    (h : ∀ (a' : Act) (w' : World), w' = w2 → a' = ((((((((((((a).put (some 11) (.pointer (some ⟨s.sb, 0, none⟩))).put (some 12) (.pointer (some ⟨s.sb, 0, none⟩))).put (some 13) (.pointer (some ⟨s.sb, 0, none⟩))).put (some 14) (.pointer (some ⟨s.sb, 0, none⟩))).put (some 15) (.map (some s.mb))).put (some 16) (k.v)).put (some 17) (.int .i64 (i : Int))).put (some 18) (.pointer (some ⟨s.g, 73 * i + 0, none⟩))).put (some 19) (.pointer (some ⟨s.g, 73 * i + 0, none⟩))).put (some 20) (.pointer (some ⟨s.g, 73 * i + 0 + 33, none⟩))).put (some 21) ((gt s.L i).kp.bh.v)).put (some 5) (.bool true) → Q .normal a' w') :
    (Code.region 3 be3_ops true).wp Try.prog Q a w := by
  refine y0 (fun w' => SeqAt w' s E ∧ IdAt w' b1 k ∧ True) (⟨hS.drew, ib1, trivial⟩) (fun hHeld => ?_)
  refine yv 0 rfl rfl (fun w1 hw => exec_move rfl (zi t0 rfl)) hHeld ?_
  refine yv 1 rfl rfl (fun w1 hw => exec_move rfl (zi t0 rfl)) hHeld ?_
  refine yv 2 rfl rfl (fun w1 hw => exec_nilCheck rfl (zg zz rfl)) hHeld ?_
  refine yv 3 rfl rfl (fun w1 hw => exec_fieldAt rfl (zg zz rfl) (fg_92_0 _ _ _)) hHeld ?_
  refine yv 4 rfl rfl (fun w1 hw => exec_load rfl (zg zz rfl) (ld_map hw.1.c0)) hHeld ?_
  refine yv 5 rfl rfl (fun w1 hw => exec_load rfl (zi t3 rfl) (load_id hk hw.2.1)) hHeld ?_
  refine yv (v := .int .i64 (i : Int)) 6 rfl rfl (fun w1 hw => exec_lookup rfl (zg zz rfl) (zg zz rfl) (by rw [look_spot hw.1 k hk, ei])) hHeld ?_
  refine yc 7 rfl rfl (exec_c2 rfl (zg zz rfl) (zg zz rfl)) (CE) (fun e x7 hx => ?_)
  obtain ⟨rfl, rfl⟩ := hx
  refine ⟨_, rfl, ⟨hS.drew, ib1, trivial⟩, fun hHeld => ?_⟩
  refine yv 8 rfl rfl (fun w1 hw => exec_nilCheck rfl (zg zz rfl)) hHeld ?_
  refine yv 9 rfl rfl (fun w1 hw => exec_fieldAt rfl (zg zz rfl) (fg_90_1 _ _ _)) hHeld ?_
  refine yv 10 rfl rfl (fun w1 hw => exec_load rfl (zg zz rfl) (R_bh hw.1.row hi)) hHeld ?_
  refine ys 11 rfl rfl (exec_store rfl (zi t4 rfl) (zg zz rfl) ES) (⟨S2.1, S2.2, trivial⟩) (fun hHeld => ?_)
  refine yv 12 rfl rfl (fun w1 hw => exec_assign rfl rfl) hHeld ?_
  exact ye rfl (h _ _ (rfl) rfl)
def fi3_o0 : Oper := { dst := some 12, op := Op.move (Operand.tmp 0), type := 23, pos := "seq.go:177", after := #[], guard := none }
def fi3_o1 : Oper := { dst := some 13, op := Op.nilCheck (Operand.tmp 12), type := 0, pos := "seq.go:177", after := #[{ on := 0, ground := Ground.data }], guard := none }
def fi3_o2 : Oper := { dst := some 14, op := Op.fieldAddr 92 (Operand.tmp 13) 1, type := 0, pos := "seq.go:177", after := #[{ on := 1, ground := Ground.data }], guard := none }
def fi3_o3 : Oper := { dst := some 15, op := Op.move (Operand.tmp 1), type := 3, pos := "seq.go:177", after := #[], guard := none }
def fi3_o4 : Oper := { dst := some 16, op := Op.move (Operand.tmp 2), type := 3, pos := "seq.go:177", after := #[], guard := none }
def fi3_o5 : Oper := { dst := some 17, op := Op.call { callee := Callee.value (Operand.func 87), args := #[Operand.tmp 14, Operand.tmp 15, Operand.tmp 16], argTypes := #[87, 3, 3] }, type := 3, pos := "seq.go:177", after := #[{ on := 2, ground := Ground.data }, { on := 3, ground := Ground.data }, { on := 4, ground := Ground.data }], guard := none }
def fi3_o6 : Oper := { dst := some 8, op := Op.assign (Operand.tmp 17), type := 3, pos := "seq.go:177", after := #[{ on := 5, ground := Ground.data }, { on := 5, ground := Ground.chain }, { on := 0, ground := Ground.phase }, { on := 1, ground := Ground.phase }, { on := 2, ground := Ground.phase }, { on := 3, ground := Ground.phase }, { on := 4, ground := Ground.phase }, { on := 5, ground := Ground.phase }], guard := none }
def fi3_ops : Array Oper := #[fi3_o0, fi3_o1, fi3_o2, fi3_o3, fi3_o4, fi3_o5, fi3_o6]
set_option maxRecDepth 100000 in
set_option maxHeartbeats 4000000 in
theorem fi3 {s : Sx} {m : Int} {n : Nat} {c : Bool} (Fin : World → Prop) (a : Act) (w : World) (Q : Exit → Act → World → Prop) (zz : a.tmps.size = 27)
    (t0 : a.tmps.getD 0 undef = .pointer (some ⟨s.sb, 0, none⟩))
    (t1 : a.tmps.getD 1 undef = .int .i64 m)
    (t2 : a.tmps.getD 2 undef = .int .i64 (nb c : Int))
    (CT : Calls Try.prog 87 #[.pointer (some ⟨s.sb, 1, none⟩), .int .i64 m, .int .i64 (nb c : Int)] w fun e w' => e = .returned (.int .i64 (n : Int)) ∧ Fin w')
    (h : ∀ (a' : Act) (w' : World), Fin w' → a' = (((((((a).put (some 12) (.pointer (some ⟨s.sb, 0, none⟩))).put (some 13) (.pointer (some ⟨s.sb, 0, none⟩))).put (some 14) (.pointer (some ⟨s.sb, 1, none⟩))).put (some 15) (.int .i64 m)).put (some 16) (.int .i64 (nb c : Int))).put (some 17) (.int .i64 (n : Int))).put (some 8) (.int .i64 (n : Int)) → Q .normal a' w') :
    (Code.region 3 fi3_ops false).wp Try.prog Q a w := by
  refine z0 rfl ?_
  refine zv rfl (exec_move rfl (zi t0 rfl)) ?_
  refine zv rfl (exec_nilCheck rfl (zg zz rfl)) ?_
  refine zv rfl (exec_fieldAt rfl (zg zz rfl) (fg_92_1 _ _ _)) ?_
  refine zv rfl (exec_move rfl (zi t1 rfl)) ?_
  refine zv rfl (exec_move rfl (zi t2 rfl)) ?_
  refine zc rfl (exec_c3 rfl (zg zz rfl) (zg zz rfl) (zg zz rfl)) (CT) (fun e x5 hx => ?_)
  obtain ⟨rfl, HF⟩ := hx
  refine ⟨_, rfl, ?_⟩
  refine zv rfl (exec_assign rfl (zg zz rfl)) ?_
  exact ze rfl (h _ _ (HF) rfl)
def fi4_o0 : Oper := { dst := some 18, op := Op.move (Operand.tmp 8), type := 3, pos := "seq.go:178", after := #[], guard := none }
def fi4_o1 : Oper := { dst := some 19, op := Op.binOp BinOp.eql 3 (Operand.tmp 18) (Operand.const (Value.int IntKind.i64 0)) 3, type := 4, pos := "seq.go:178", after := #[{ on := 0, ground := Ground.data }], guard := none }
def fi4_ops : Array Oper := #[fi4_o0, fi4_o1]
set_option maxRecDepth 100000 in
set_option maxHeartbeats 4000000 in
theorem fi4 {i : Nat} {r : Bool} (a : Act) (w : World) (Q : Exit → Act → World → Prop) (zz : a.tmps.size = 27)
    (t8 : a.tmps.getD 8 undef = .int .i64 (i : Int))
    (hr : decide ((i : Int) = 0) = r)
    (h : ∀ (a' : Act) (w' : World), w' = w → a' = ((a).put (some 18) (.int .i64 (i : Int))).put (some 19) (.bool r) → Q .normal a' w') :
    (Code.region 4 fi4_ops false).wp Try.prog Q a w := by
  refine z0 rfl ?_
  refine zv rfl (exec_move rfl (zi t8 rfl)) ?_
  refine zv (v := .bool r) rfl (ex_eql rfl (zg zz rfl) rfl hr) ?_
  exact ze rfl (h _ _ (rfl) rfl)
def fi5_o0 : Oper := { dst := some 20, op := Op.build 32 #[], type := 32, pos := "seq.go:179", after := #[], guard := none }
def fi5_o1 : Oper := { dst := none, op := Op.store 32 (Operand.tmp 6) (Operand.tmp 20), type := 0, pos := "seq.go:179", after := #[{ on := 0, ground := Ground.data }, { on := 0, ground := Ground.phase }], guard := none }
def fi5_o2 : Oper := { dst := some 7, op := Op.assign (Operand.const (Value.bool false)), type := 4, pos := "seq.go:179", after := #[{ on := 1, ground := Ground.chain }, { on := 0, ground := Ground.phase }, { on := 1, ground := Ground.phase }], guard := none }
def fi5_ops : Array Oper := #[fi5_o0, fi5_o1, fi5_o2]
set_option maxRecDepth 100000 in
set_option maxHeartbeats 4000000 in
theorem fi5 {rb : Nat} {w2 : World} (a : Act) (w : World) (Q : Exit → Act → World → Prop) (zz : a.tmps.size = 27)
    (t6 : a.tmps.getD 6 undef = .pointer (some ⟨rb, 0, none⟩))
    (ES : (Instr.storeAt 32 (.pointer (some ⟨rb, 0, none⟩)) zId.v).run Try.prog w = .ok () w2)
    (h : ∀ (a' : Act) (w' : World), w' = w2 → a' = ((a).put (some 20) (zId.v)).put (some 7) (.bool false) → Q .normal a' w') :
    (Code.region 5 fi5_ops false).wp Try.prog Q a w := by
  refine z0 rfl ?_
  refine zv rfl (exec_build0 rfl (build_id _)) ?_
  refine zs rfl (exec_store rfl (zi t6 rfl) (zg zz rfl) ES) ?_
  refine zv rfl (exec_assign rfl rfl) ?_
  exact ze rfl (h _ _ (rfl) rfl)
def fi6_o0 : Oper := { dst := some 21, op := Op.move (Operand.tmp 0), type := 23, pos := "seq.go:181", after := #[], guard := none }
def fi6_o1 : Oper := { dst := some 22, op := Op.move (Operand.tmp 8), type := 3, pos := "seq.go:181", after := #[], guard := none }
def fi6_o2 : Oper := { dst := some 23, op := Op.call { callee := Callee.value (Operand.func 34), args := #[Operand.tmp 21, Operand.tmp 22], argTypes := #[23, 3] }, type := 96, pos := "seq.go:181", after := #[{ on := 0, ground := Ground.data }, { on := 1, ground := Ground.data }], guard := none }
def fi6_o3 : Oper := { dst := some 24, op := Op.nilCheck (Operand.tmp 23), type := 0, pos := "seq.go:181", after := #[{ on := 2, ground := Ground.data }], guard := none }
def fi6_o4 : Oper := { dst := some 25, op := Op.fieldAddr 90 (Operand.tmp 24) 0, type := 0, pos := "seq.go:181", after := #[{ on := 3, ground := Ground.data }], guard := none }
def fi6_o5 : Oper := { dst := some 26, op := Op.load 32 (Operand.tmp 25), type := 32, pos := "seq.go:181", after := #[{ on := 4, ground := Ground.data }], guard := none }
def fi6_o6 : Oper := { dst := none, op := Op.store 32 (Operand.tmp 6) (Operand.tmp 26), type := 0, pos := "seq.go:181", after := #[{ on := 5, ground := Ground.data }, { on := 2, ground := Ground.chain }, { on := 0, ground := Ground.phase }, { on := 1, ground := Ground.phase }, { on := 2, ground := Ground.phase }, { on := 3, ground := Ground.phase }, { on := 4, ground := Ground.phase }, { on := 5, ground := Ground.phase }], guard := none }
def fi6_o7 : Oper := { dst := some 7, op := Op.assign (Operand.const (Value.bool true)), type := 4, pos := "seq.go:181", after := #[{ on := 6, ground := Ground.chain }, { on := 0, ground := Ground.phase }, { on := 1, ground := Ground.phase }, { on := 2, ground := Ground.phase }, { on := 3, ground := Ground.phase }, { on := 4, ground := Ground.phase }, { on := 5, ground := Ground.phase }, { on := 6, ground := Ground.phase }], guard := none }
def fi6_ops : Array Oper := #[fi6_o0, fi6_o1, fi6_o2, fi6_o3, fi6_o4, fi6_o5, fi6_o6, fi6_o7]
set_option maxRecDepth 100000 in
set_option maxHeartbeats 4000000 in
theorem fi6 {s : Sx} {E : List Elt} {i rb : Nat} {w2 : World} (a : Act) (w : World) (Q : Exit → Act → World → Prop) (zz : a.tmps.size = 27)
    (t0 : a.tmps.getD 0 undef = .pointer (some ⟨s.sb, 0, none⟩))
    (t8 : a.tmps.getD 8 undef = .int .i64 (i : Int))
    (t6 : a.tmps.getD 6 undef = .pointer (some ⟨rb, 0, none⟩))
    (hS : SeqAt w s E) (hi : i < s.L.length) (CE : Calls Try.prog 34 #[.pointer (some ⟨s.sb, 0, none⟩), .int .i64 (i : Int)] w fun e w' => e = .returned (.pointer (some ⟨s.g, 73 * i + 0, none⟩)) ∧ w' = w) (ES : (Instr.storeAt 32 (.pointer (some ⟨rb, 0, none⟩)) (gt s.L i).kp.id.v).run Try.prog w = .ok () w2)
    (h : ∀ (a' : Act) (w' : World), w' = w2 → a' = (((((((a).put (some 21) (.pointer (some ⟨s.sb, 0, none⟩))).put (some 22) (.int .i64 (i : Int))).put (some 23) (.pointer (some ⟨s.g, 73 * i + 0, none⟩))).put (some 24) (.pointer (some ⟨s.g, 73 * i + 0, none⟩))).put (some 25) (.pointer (some ⟨s.g, 73 * i + 0 + 0, none⟩))).put (some 26) ((gt s.L i).kp.id.v)).put (some 7) (.bool true) → Q .normal a' w') :
    (Code.region 6 fi6_ops false).wp Try.prog Q a w := by
  refine z0 rfl ?_
  refine zv rfl (exec_move rfl (zi t0 rfl)) ?_
  refine zv rfl (exec_move rfl (zi t8 rfl)) ?_
  refine zc rfl (exec_c2 rfl (zg zz rfl) (zg zz rfl)) (CE) (fun e x2 hx => ?_)
  obtain ⟨rfl, rfl⟩ := hx
  refine ⟨_, rfl, ?_⟩
  refine zv rfl (exec_nilCheck rfl (zg zz rfl)) ?_
  refine zv rfl (exec_fieldAt rfl (zg zz rfl) (fg_90_0 _ _ _)) ?_
  refine zv rfl (exec_load rfl (zg zz rfl) (R_id hS.row hi)) ?_
  refine zs rfl (exec_store rfl (zi t6 rfl) (zg zz rfl) ES) ?_
  refine zv rfl (exec_assign rfl rfl) ?_
  exact ze rfl (h _ _ (rfl) rfl)
def li3_o0 : Oper := { dst := some 9, op := Op.move (Operand.tmp 0), type := 23, pos := "seq.go:126", after := #[], guard := none }
def li3_o1 : Oper := { dst := some 10, op := Op.nilCheck (Operand.tmp 9), type := 0, pos := "seq.go:126", after := #[{ on := 0, ground := Ground.data }], guard := none }
def li3_o2 : Oper := { dst := some 11, op := Op.fieldAddr 92 (Operand.tmp 10) 1, type := 0, pos := "seq.go:126", after := #[{ on := 1, ground := Ground.data }], guard := none }
def li3_o3 : Oper := { dst := some 12, op := Op.move (Operand.tmp 1), type := 3, pos := "seq.go:126", after := #[], guard := none }
def li3_o4 : Oper := { dst := some 13, op := Op.call { callee := Callee.value (Operand.func 85), args := #[Operand.tmp 11, Operand.tmp 12], argTypes := #[87, 3] }, type := 3, pos := "seq.go:126", after := #[{ on := 2, ground := Ground.data }, { on := 3, ground := Ground.data }], guard := none }
def li3_o5 : Oper := { dst := some 14, op := Op.makeSlice 44 (Operand.const (Value.int IntKind.i64 0)) (Operand.tmp 13), type := 44, pos := "seq.go:126", after := #[{ on := 4, ground := Ground.data }], guard := none }
def li3_o6 : Oper := { dst := some 5, op := Op.alloc 44, type := 0, pos := "seq.go:126", after := #[], guard := none }
def li3_o7 : Oper := { dst := none, op := Op.store 44 (Operand.tmp 5) (Operand.tmp 14), type := 0, pos := "seq.go:126", after := #[{ on := 6, ground := Ground.data }, { on := 5, ground := Ground.data }, { on := 4, ground := Ground.chain }, { on := 0, ground := Ground.phase }, { on := 1, ground := Ground.phase }, { on := 2, ground := Ground.phase }, { on := 3, ground := Ground.phase }, { on := 4, ground := Ground.phase }, { on := 5, ground := Ground.phase }, { on := 6, ground := Ground.phase }], guard := none }
def li3_ops : Array Oper := #[li3_o0, li3_o1, li3_o2, li3_o3, li3_o4, li3_o5, li3_o6, li3_o7]
set_option maxRecDepth 100000 in
set_option maxHeartbeats 4000000 in
theorem li3 {s : Sx} {n g lb : Nat} {c : Bool} (Fin : World → Prop) (a : Act) (w : World) (Q : Exit → Act → World → Prop) (zz : a.tmps.size = 27)
    (t0 : a.tmps.getD 0 undef = .pointer (some ⟨s.sb, 0, none⟩))
    (t1 : a.tmps.getD 1 undef = .int .i64 (nb c : Int))
    (CT : Calls Try.prog 85 #[.pointer (some ⟨s.sb, 1, none⟩), .int .i64 (nb c : Int)] w fun e w' => e = .returned (.int .i64 (n : Int)) ∧ ∃ y1 y2 y3, (Instr.makeSlice 44 (.int .i64 0) (.int .i64 (n : Int))).run Try.prog w' = .ok (.slice (some ⟨g, 0, none⟩) 0 n) y1 ∧ (Instr.alloc 44 true (.tuple #[])).run Try.prog y1 = .ok (.pointer (some ⟨lb, 0, none⟩)) y2 ∧ (Instr.storeAt 44 (.pointer (some ⟨lb, 0, none⟩)) (.slice (some ⟨g, 0, none⟩) 0 n)).run Try.prog y2 = .ok () y3 ∧ Fin y3)
    (h : ∀ (a' : Act) (w' : World), Fin w' → a' = (((((((a).put (some 9) (.pointer (some ⟨s.sb, 0, none⟩))).put (some 10) (.pointer (some ⟨s.sb, 0, none⟩))).put (some 11) (.pointer (some ⟨s.sb, 1, none⟩))).put (some 12) (.int .i64 (nb c : Int))).put (some 13) (.int .i64 (n : Int))).put (some 14) (.slice (some ⟨g, 0, none⟩) 0 n)).put (some 5) (.pointer (some ⟨lb, 0, none⟩)) → Q .normal a' w') :
    (Code.region 3 li3_ops false).wp Try.prog Q a w := by
  refine z0 rfl ?_
  refine zv rfl (exec_move rfl (zi t0 rfl)) ?_
  refine zv rfl (exec_nilCheck rfl (zg zz rfl)) ?_
  refine zv rfl (exec_fieldAt rfl (zg zz rfl) (fg_92_1 _ _ _)) ?_
  refine zv rfl (exec_move rfl (zi t1 rfl)) ?_
  refine zc rfl (exec_c2 rfl (zg zz rfl) (zg zz rfl)) (CT) (fun e x4 hx => ?_)
  obtain ⟨rfl, y1, y2, y3, EM, EA, ES, HF⟩ := hx
  refine ⟨_, rfl, ?_⟩
  refine zv (v := .slice (some ⟨g, 0, none⟩) 0 n) rfl (exec_makeSlice rfl rfl (zg zz rfl) EM) ?_
  refine zv (v := .pointer (some ⟨lb, 0, none⟩)) rfl (exec_alloc rfl EA) ?_
  refine zs rfl (exec_store rfl (zg zz rfl) (zg zz rfl) ES) ?_
  exact ze rfl (h _ _ (HF) rfl)
def li4_o0 : Oper := { dst := some 15, op := Op.move (Operand.tmp 0), type := 23, pos := "seq.go:127", after := #[], guard := none }
def li4_o1 : Oper := { dst := some 16, op := Op.nilCheck (Operand.tmp 15), type := 0, pos := "seq.go:127", after := #[{ on := 0, ground := Ground.data }], guard := none }
def li4_o2 : Oper := { dst := some 17, op := Op.fieldAddr 92 (Operand.tmp 16) 1, type := 0, pos := "seq.go:127", after := #[{ on := 1, ground := Ground.data }], guard := none }
def li4_o3 : Oper := { dst := some 18, op := Op.move (Operand.tmp 1), type := 3, pos := "seq.go:127", after := #[], guard := none }
def li4_o4 : Oper := { dst := some 19, op := Op.call { callee := Callee.value (Operand.func 86), args := #[Operand.tmp 17, Operand.tmp 18], argTypes := #[87, 3] }, type := 121, pos := "seq.go:127", after := #[{ on := 2, ground := Ground.data }, { on := 3, ground := Ground.data }], guard := none }
def li4_ops : Array Oper := #[li4_o0, li4_o1, li4_o2, li4_o3, li4_o4]
set_option maxRecDepth 100000 in
set_option maxHeartbeats 4000000 in
theorem li4 {s : Sx} {v : Value} {c : Bool} (Fin : World → Prop) (a : Act) (w : World) (Q : Exit → Act → World → Prop) (zz : a.tmps.size = 27)
    (t0 : a.tmps.getD 0 undef = .pointer (some ⟨s.sb, 0, none⟩))
    (t1 : a.tmps.getD 1 undef = .int .i64 (nb c : Int))
    (CT : Calls Try.prog 86 #[.pointer (some ⟨s.sb, 1, none⟩), .int .i64 (nb c : Int)] w fun e w' => e = .returned v ∧ Fin w')
    (h : ∀ (a' : Act) (w' : World), Fin w' → a' = (((((a).put (some 15) (.pointer (some ⟨s.sb, 0, none⟩))).put (some 16) (.pointer (some ⟨s.sb, 0, none⟩))).put (some 17) (.pointer (some ⟨s.sb, 1, none⟩))).put (some 18) (.int .i64 (nb c : Int))).put (some 19) (v) → Q .normal a' w') :
    (Code.region 4 li4_ops false).wp Try.prog Q a w := by
  refine z0 rfl ?_
  refine zv rfl (exec_move rfl (zi t0 rfl)) ?_
  refine zv rfl (exec_nilCheck rfl (zg zz rfl)) ?_
  refine zv rfl (exec_fieldAt rfl (zg zz rfl) (fg_92_1 _ _ _)) ?_
  refine zv rfl (exec_move rfl (zi t1 rfl)) ?_
  refine zc rfl (exec_c2 rfl (zg zz rfl) (zg zz rfl)) (CT) (fun e x4 hx => ?_)
  obtain ⟨rfl, HF⟩ := hx
  refine ⟨_, rfl, ?_⟩
  exact ze rfl (h _ _ (HF) rfl)
def li5_o0 : Oper := { dst := some 6, op := Op.alloc 90, type := 0, pos := "seq.go:127", after := #[], guard := none }
def li5_o1 : Oper := { dst := none, op := Op.store 90 (Operand.tmp 6) (Operand.tmp 20), type := 0, pos := "seq.go:127", after := #[{ on := 0, ground := Ground.data }, { on := 0, ground := Ground.phase }], guard := none }
def li5_ops : Array Oper := #[li5_o0, li5_o1]
set_option maxRecDepth 100000 in
set_option maxHeartbeats 4000000 in
theorem li5 {l n eb : Nat} {v : Value} {w1 w2 : World} (a : Act) (w : World) (Q : Exit → Act → World → Prop) (hsz : a.tmps.size = 27)
    (t20 : a.tmps.getD 20 undef = v)
    (EA : (Instr.alloc 90 true (.tuple #[])).run Try.prog w = .ok (.pointer (some ⟨eb, 0, none⟩)) w1) (ES : (Instr.storeAt 90 (.pointer (some ⟨eb, 0, none⟩)) v).run Try.prog w1 = .ok () w2)
    (h : ∀ (a' : Act) (w' : World), w' = w2 → a' = (a).put (some 6) (.pointer (some ⟨eb, 0, none⟩)) → Q .normal a' w') :
    (Code.region 5 li5_ops false).wpIn (Fence.wide.inRound l) n Try.prog Q a w := by
  refine wpIn_region_list ?_
  change wpListIn _ _ _ _ _ [li5_o0, li5_o1] _ _
  refine qkI (v := .pointer (some ⟨eb, 0, none⟩)) (by rfl) (exec_alloc rfl EA) (fun a0 e0 => ?_)
  rw [← e0] at h
  have z0 := pz e0 hsz
  replace t20 := pk e0 t20
  have t6 := pq e0 hsz
  clear e0 hsz
  refine qsI (by rfl) (exec_store rfl t6 t20 ES) ?_
  exact wpListIn_nil (h _ _ (rfl) rfl)
def li6_o0 : Oper := { dst := some 21, op := Op.load 44 (Operand.tmp 5), type := 44, pos := "seq.go:128", after := #[], guard := none }
def li6_o1 : Oper := { dst := some 22, op := Op.fieldAddr 90 (Operand.tmp 6) 0, type := 0, pos := "seq.go:128", after := #[], guard := none }
def li6_o2 : Oper := { dst := some 23, op := Op.load 32 (Operand.tmp 22), type := 32, pos := "seq.go:128", after := #[{ on := 1, ground := Ground.data }], guard := none }
def li6_o3 : Oper := { dst := some 24, op := Op.buildSlice 44 1 #[(0, Operand.tmp 23)], type := 44, pos := "seq.go:128", after := #[{ on := 2, ground := Ground.data }], guard := none }
def li6_o4 : Oper := { dst := some 25, op := Op.call { callee := Callee.builtin Builtin.append, args := #[Operand.tmp 21, Operand.tmp 24], argTypes := #[44, 44] }, type := 44, pos := "seq.go:128", after := #[{ on := 0, ground := Ground.data }, { on := 3, ground := Ground.data }], guard := none }
def li6_o5 : Oper := { dst := none, op := Op.store 44 (Operand.tmp 5) (Operand.tmp 25), type := 0, pos := "seq.go:128", after := #[{ on := 4, ground := Ground.data }, { on := 4, ground := Ground.chain }, { on := 0, ground := Ground.phase }, { on := 1, ground := Ground.phase }, { on := 2, ground := Ground.phase }, { on := 3, ground := Ground.phase }, { on := 4, ground := Ground.phase }], guard := none }
def li6_ops : Array Oper := #[li6_o0, li6_o1, li6_o2, li6_o3, li6_o4, li6_o5]
set_option maxRecDepth 100000 in
set_option maxHeartbeats 4000000 in
theorem li6 {l n lb eb gb : Nat} {k : IdK} {u u2 : Value} {w1 w2 w3 : World} (a : Act) (w : World) (Q : Exit → Act → World → Prop) (hsz : a.tmps.size = 27)
    (t5 : a.tmps.getD 5 undef = .pointer (some ⟨lb, 0, none⟩))
    (t6 : a.tmps.getD 6 undef = .pointer (some ⟨eb, 0, none⟩))
    (L0 : (Instr.loadAt 44 (.pointer (some ⟨lb, 0, none⟩))).run Try.prog w = .ok u w) (L1 : (Instr.loadAt 32 (.pointer (some ⟨eb, 0, none⟩))).run Try.prog w = .ok k.v w) (EB : (Instr.buildSlice 44 1 #[(0, k.v)]).run Try.prog w = .ok (.slice (some ⟨gb, 0, none⟩) 1 1) w1) (EA : (Builtin.append_ #[44, 44] 44 #[u, .slice (some ⟨gb, 0, none⟩) 1 1]).run Try.prog w1 = .ok u2 w2) (ES : (Instr.storeAt 44 (.pointer (some ⟨lb, 0, none⟩)) u2).run Try.prog w2 = .ok () w3)
    (h : ∀ (a' : Act) (w' : World), w' = w3 → a' = (((((a).put (some 21) (u)).put (some 22) (.pointer (some ⟨eb, 0, none⟩))).put (some 23) (k.v)).put (some 24) (.slice (some ⟨gb, 0, none⟩) 1 1)).put (some 25) (u2) → Q .normal a' w') :
    (Code.region 6 li6_ops false).wpIn (Fence.wide.inRound l) n Try.prog Q a w := by
  refine wpIn_region_list ?_
  change wpListIn _ _ _ _ _ [li6_o0, li6_o1, li6_o2, li6_o3, li6_o4, li6_o5] _ _
  refine qvI (v := u) (by rfl) (exec_load rfl t5 L0) (fun a0 e0 => ?_)
  rw [← e0] at h
  have z0 := pz e0 hsz
  replace t5 := pk e0 t5
  replace t6 := pk e0 t6
  have t21 := pq e0 hsz
  clear e0 hsz
  refine qvI (v := .pointer (some ⟨eb, 0, none⟩)) (by rfl) (exec_fieldAt rfl t6 (fg_90_0 _ _ _)) (fun a1 e1 => ?_)
  rw [← e1] at h
  have z1 := pz e1 z0
  replace t5 := pk e1 t5
  replace t21 := pk e1 t21
  clear t6
  have t22 := pq e1 z0
  clear e1 z0
  refine qvI (v := k.v) (by rfl) (exec_load rfl t22 L1) (fun a2 e2 => ?_)
  rw [← e2] at h
  have z2 := pz e2 z1
  replace t5 := pk e2 t5
  replace t21 := pk e2 t21
  clear t22
  have t23 := pq e2 z1
  clear e2 z1
  refine qkI (v := .slice (some ⟨gb, 0, none⟩) 1 1) (by rfl) (exec_buildSlice rfl t23 EB) (fun a3 e3 => ?_)
  rw [← e3] at h
  have z3 := pz e3 z2
  replace t5 := pk e3 t5
  replace t21 := pk e3 t21
  clear t23
  have t24 := pq e3 z2
  clear e3 z2
  refine qkI (v := u2) (by rfl) (exec_append rfl t21 t24 EA) (fun a4 e4 => ?_)
  rw [← e4] at h
  have z4 := pz e4 z3
  replace t5 := pk e4 t5
  clear t21 t24
  have t25 := pq e4 z3
  clear e4 z3
  refine qsI (by rfl) (exec_store rfl t5 t25 ES) ?_
  exact wpListIn_nil (h _ _ (rfl) rfl)
def li7_o0 : Oper := { dst := some 26, op := Op.load 44 (Operand.tmp 5), type := 44, pos := "seq.go:130", after := #[], guard := none }
def li7_o1 : Oper := { dst := some 4, op := Op.assign (Operand.tmp 26), type := 44, pos := "seq.go:130", after := #[{ on := 0, ground := Ground.data }, { on := 0, ground := Ground.phase }], guard := none }
def li7_ops : Array Oper := #[li7_o0, li7_o1]
set_option maxRecDepth 100000 in
set_option maxHeartbeats 4000000 in
theorem li7 {lb : Nat} {u : Value} (a : Act) (w : World) (Q : Exit → Act → World → Prop) (zz : a.tmps.size = 27)
    (t5 : a.tmps.getD 5 undef = .pointer (some ⟨lb, 0, none⟩))
    (L0 : (Instr.loadAt 44 (.pointer (some ⟨lb, 0, none⟩))).run Try.prog w = .ok u w)
    (h : ∀ (a' : Act) (w' : World), w' = w → a' = ((a).put (some 26) (u)).put (some 4) (u) → Q .normal a' w') :
    (Code.region 7 li7_ops false).wp Try.prog Q a w := by
  refine z0 rfl ?_
  refine zv rfl (exec_load rfl (zi t5 rfl) L0) ?_
  refine zv rfl (exec_assign rfl (zg zz rfl)) ?_
  exact ze rfl (h _ _ (rfl) rfl)
end Go.Proofs.Ytlejbdepoemcjaa
