import Derived.Test.YtlejbdepoemcjaaZr
import Derived.Test.YtlejbdepoemcjaaXv
namespace Go.Proofs.Ytlejbdepoemcjaa
open Go.RowKit Sq
set_option linter.unusedVariables false
set_option linter.unusedSimpArgs false

def WS (b1 b2 rb ro : Nat) (c : Bool) (w' : World) : Prop := (Instr.loadAt 114 (.pointer (some ⟨b1, 0, none⟩))).run Try.prog w' = .ok (.pointer (some ⟨rb, ro, none⟩)) w' ∧ (Instr.loadAt 3 (.pointer (some ⟨b2, 0, none⟩))).run Try.prog w' = .ok (.int .i64 (nb c : Int)) w'
def pass1_o0 : Oper := { dst := some 10, op := Op.move (Operand.tmp 0), type := 114, pos := "row.go:257", after := #[], guard := none }
def pass1_o1 : Oper := { dst := some 11, op := Op.nilCheck (Operand.tmp 10), type := 0, pos := "row.go:257", after := #[{ on := 0, ground := Ground.data }], guard := none }
def pass1_o2 : Oper := { dst := some 12, op := Op.fieldAddr 87 (Operand.tmp 11) 0, type := 0, pos := "row.go:257", after := #[{ on := 1, ground := Ground.data }], guard := none }
def pass1_o3 : Oper := { dst := some 13, op := Op.load 85 (Operand.tmp 12), type := 85, pos := "row.go:257", after := #[{ on := 2, ground := Ground.data }], guard := none }
def pass1_o4 : Oper := { dst := some 14, op := Op.move (Operand.tmp 1), type := 3, pos := "row.go:257", after := #[], guard := none }
def pass1_o5 : Oper := { dst := some 15, op := Op.indexAddr 85 (Operand.tmp 13) (Operand.tmp 14), type := 0, pos := "row.go:257", after := #[{ on := 3, ground := Ground.data }, { on := 4, ground := Ground.data }], guard := none }
def pass1_o6 : Oper := { dst := some 9, op := Op.assign (Operand.tmp 15), type := 179, pos := "row.go:257", after := #[{ on := 5, ground := Ground.data }, { on := 0, ground := Ground.phase }, { on := 1, ground := Ground.phase }, { on := 2, ground := Ground.phase }, { on := 3, ground := Ground.phase }, { on := 4, ground := Ground.phase }, { on := 5, ground := Ground.phase }], guard := none }
def pass1_ops : Array Oper := #[pass1_o0, pass1_o1, pass1_o2, pass1_o3, pass1_o4, pass1_o5, pass1_o6]
set_option maxRecDepth 100000 in
set_option maxHeartbeats 4000000 in
theorem pass1 {rb ro g cap : Nat} {L : List Sp} {i : Nat} (a : Act) (w : World) (Q : Exit → Act → World → Prop) (zz : a.tmps.size = 58)
    (t0 : a.tmps.getD 0 undef = .pointer (some ⟨rb, ro, none⟩))
    (t1 : a.tmps.getD 1 undef = .int .i64 (i : Int))
    (hR : SqAt w rb ro g cap L) (hi : i < L.length)
    (h : ∀ (a' : Act) (w' : World), w' = w → a' = (((((((a).put (some 10) (.pointer (some ⟨rb, ro, none⟩))).put (some 11) (.pointer (some ⟨rb, ro, none⟩))).put (some 12) (.pointer (some ⟨rb, ro + 0, none⟩))).put (some 13) (.slice (some ⟨g, 0, none⟩) (L).length cap)).put (some 14) (.int .i64 (i : Int))).put (some 15) (.pointer (some ⟨g, 73 * i, none⟩))).put (some 9) (.pointer (some ⟨g, 73 * i, none⟩)) → Q .normal a' w') :
    (Code.region 1 pass1_ops false).wp Try.prog Q a w := by
  refine z0 rfl ?_
  refine zv rfl (exec_move rfl (zi t0 rfl)) ?_
  refine zv rfl (exec_nilCheck rfl (zg zz rfl)) ?_
  refine zv rfl (exec_fieldAt rfl (zg zz rfl) (fg_87_0 _ _ _)) ?_
  refine zv rfl (exec_load rfl (zg zz rfl) (R_sl hR)) ?_
  refine zv rfl (exec_move rfl (zi t1 rfl)) ?_
  refine zv rfl (exec_indexAt rfl (zg zz rfl) (zg zz rfl) (R_ix hi hR.len _)) ?_
  refine zv rfl (exec_assign rfl (zg zz rfl)) ?_
  exact ze rfl (h _ _ (rfl) rfl)
def pass2_o0 : Oper := { dst := some 16, op := Op.move (Operand.tmp 9), type := 179, pos := "row.go:258", after := #[], guard := none }
def pass2_o1 : Oper := { dst := some 17, op := Op.move (Operand.tmp 2), type := 3, pos := "row.go:258", after := #[], guard := none }
def pass2_o2 : Oper := { dst := some 18, op := Op.nilCheck (Operand.tmp 16), type := 0, pos := "row.go:258", after := #[{ on := 0, ground := Ground.data }], guard := none }
def pass2_o3 : Oper := { dst := some 19, op := Op.fieldAddr 113 (Operand.tmp 18) 4, type := 0, pos := "row.go:258", after := #[{ on := 2, ground := Ground.data }], guard := none }
def pass2_o4 : Oper := { dst := some 20, op := Op.indexAddr 111 (Operand.tmp 19) (Operand.tmp 17), type := 0, pos := "row.go:258", after := #[{ on := 3, ground := Ground.data }, { on := 1, ground := Ground.data }], guard := none }
def pass2_o5 : Oper := { dst := some 21, op := Op.load 3 (Operand.tmp 20), type := 3, pos := "row.go:258", after := #[{ on := 4, ground := Ground.data }], guard := none }
def pass2_o6 : Oper := { dst := some 22, op := Op.binOp BinOp.eql 3 (Operand.tmp 21) (Operand.const (Value.int IntKind.i64 0)) 3, type := 4, pos := "row.go:258", after := #[{ on := 5, ground := Ground.data }], guard := none }
def pass2_ops : Array Oper := #[pass2_o0, pass2_o1, pass2_o2, pass2_o3, pass2_o4, pass2_o5, pass2_o6]
set_option maxRecDepth 100000 in
set_option maxHeartbeats 4000000 in
theorem pass2 {rb ro g cap : Nat} {L : List Sp} {i : Nat} {c r : Bool} (a : Act) (w : World) (Q : Exit → Act → World → Prop) (zz : a.tmps.size = 58)
    (t2 : a.tmps.getD 2 undef = .int .i64 (nb c : Int))
    (t9 : a.tmps.getD 9 undef = .pointer (some ⟨g, 73 * i, none⟩))
    (hR : SqAt w rb ro g cap L) (hi : i < L.length) (hr : decide ((ct (gt L i) c : Int) = 0) = r)
    (h : ∀ (a' : Act) (w' : World), w' = w → a' = (((((((a).put (some 16) (.pointer (some ⟨g, 73 * i, none⟩))).put (some 17) (.int .i64 (nb c : Int))).put (some 18) (.pointer (some ⟨g, 73 * i, none⟩))).put (some 19) (.pointer (some ⟨g, 73 * i + 71, none⟩))).put (some 20) (.pointer (some ⟨g, 73 * i + 71 + nb c, none⟩))).put (some 21) (.int .i64 (ct (gt L i) c : Int))).put (some 22) (.bool r) → Q .normal a' w') :
    (Code.region 2 pass2_ops false).wp Try.prog Q a w := by
  refine z0 rfl ?_
  refine zv rfl (exec_move rfl (zi t9 rfl)) ?_
  refine zv rfl (exec_move rfl (zi t2 rfl)) ?_
  refine zv rfl (exec_nilCheck rfl (zg zz rfl)) ?_
  refine zv rfl (exec_fieldAt rfl (zg zz rfl) (fg_113_4 _ _ _)) ?_
  refine zv rfl (exec_indexAt rfl (zg zz rfl) (zg zz rfl) (ix_ar _ c _)) ?_
  refine zv rfl (exec_load rfl (zg zz rfl) (R_ct hR hi c)) ?_
  refine zv (v := .bool r) rfl (ex_eql rfl (zg zz rfl) rfl hr) ?_
  exact ze rfl (h _ _ (rfl) rfl)
def pass4_o0 : Oper := { dst := some 23, op := Op.move (Operand.tmp 0), type := 114, pos := "row.go:261", after := #[], guard := none }
def pass4_o1 : Oper := { dst := some 24, op := Op.move (Operand.tmp 9), type := 179, pos := "row.go:261", after := #[], guard := none }
def pass4_o2 : Oper := { dst := some 25, op := Op.nilCheck (Operand.tmp 24), type := 0, pos := "row.go:261", after := #[{ on := 1, ground := Ground.data }], guard := none }
def pass4_o3 : Oper := { dst := some 26, op := Op.fieldAddr 113 (Operand.tmp 25) 3, type := 0, pos := "row.go:261", after := #[{ on := 2, ground := Ground.data }], guard := none }
def pass4_o4 : Oper := { dst := some 27, op := Op.indexAddr 111 (Operand.tmp 26) (Operand.const (Value.int IntKind.i64 0)), type := 0, pos := "row.go:261", after := #[{ on := 3, ground := Ground.data }], guard := none }
def pass4_o5 : Oper := { dst := some 28, op := Op.load 3 (Operand.tmp 27), type := 3, pos := "row.go:261", after := #[{ on := 4, ground := Ground.data }], guard := none }
def pass4_o6 : Oper := { dst := some 29, op := Op.move (Operand.tmp 2), type := 3, pos := "row.go:261", after := #[], guard := none }
def pass4_o7 : Oper := { dst := some 30, op := Op.move (Operand.tmp 3), type := 176, pos := "row.go:261", after := #[], guard := none }
def pass4_o8 : Oper := { dst := some 31, op := Op.call { callee := Callee.value (Operand.func 96), args := #[Operand.tmp 23, Operand.tmp 28, Operand.tmp 29, Operand.tmp 30], argTypes := #[114, 3, 3, 176] }, type := 4, pos := "row.go:261", after := #[{ on := 0, ground := Ground.data }, { on := 5, ground := Ground.data }, { on := 6, ground := Ground.data }, { on := 7, ground := Ground.data }], guard := none }
def pass4_o9 : Oper := { dst := some 32, op := Op.move (Operand.tmp 31), type := 4, pos := "row.go:261", after := #[{ on := 8, ground := Ground.data }, { on := 8, ground := Ground.chain }], guard := none }
def pass4_o10 : Oper := { dst := some 33, op := Op.move (Operand.tmp 0), type := 114, pos := "row.go:261", after := #[{ on := 9, ground := Ground.guard }], guard := some (9, true) }
def pass4_o11 : Oper := { dst := some 34, op := Op.move (Operand.tmp 1), type := 3, pos := "row.go:261", after := #[{ on := 9, ground := Ground.guard }], guard := some (9, true) }
def pass4_o12 : Oper := { dst := some 35, op := Op.move (Operand.tmp 2), type := 3, pos := "row.go:261", after := #[{ on := 9, ground := Ground.guard }], guard := some (9, true) }
def pass4_o13 : Oper := { dst := some 36, op := Op.call { callee := Callee.value (Operand.func 101), args := #[Operand.tmp 33, Operand.tmp 34, Operand.tmp 35], argTypes := #[114, 3, 3] }, type := 3, pos := "row.go:262", after := #[{ on := 10, ground := Ground.data }, { on := 11, ground := Ground.data }, { on := 12, ground := Ground.data }, { on := 9, ground := Ground.chain }, { on := 9, ground := Ground.guard }], guard := some (9, true) }
def pass4_o14 : Oper := { dst := some 37, op := Op.binOp BinOp.eql 3 (Operand.tmp 36) (Operand.const (Value.int IntKind.i64 0)) 3, type := 4, pos := "row.go:261", after := #[{ on := 13, ground := Ground.data }, { on := 9, ground := Ground.guard }], guard := some (9, true) }
def pass4_o15 : Oper := { dst := some 38, op := Op.move (Operand.tmp 37), type := 4, pos := "row.go:261", after := #[{ on := 14, ground := Ground.data }, { on := 13, ground := Ground.chain }, { on := 9, ground := Ground.guard }], guard := some (9, true) }
def pass4_o16 : Oper := { dst := some 39, op := Op.move (Operand.tmp 3), type := 176, pos := "row.go:261", after := #[{ on := 15, ground := Ground.guard }], guard := some (15, false) }
def pass4_o17 : Oper := { dst := some 40, op := Op.move (Operand.tmp 9), type := 179, pos := "row.go:261", after := #[{ on := 15, ground := Ground.guard }], guard := some (15, false) }
def pass4_o18 : Oper := { dst := some 41, op := Op.nilCheck (Operand.tmp 40), type := 0, pos := "row.go:261", after := #[{ on := 17, ground := Ground.data }, { on := 15, ground := Ground.guard }], guard := some (15, false) }
def pass4_o19 : Oper := { dst := some 42, op := Op.fieldAddr 113 (Operand.tmp 41) 0, type := 0, pos := "row.go:261", after := #[{ on := 18, ground := Ground.data }, { on := 15, ground := Ground.guard }], guard := some (15, false) }
def pass4_o20 : Oper := { dst := some 43, op := Op.load 90 (Operand.tmp 42), type := 90, pos := "row.go:261", after := #[{ on := 19, ground := Ground.data }, { on := 15, ground := Ground.guard }], guard := some (15, false) }
def pass4_o21 : Oper := { dst := some 44, op := Op.call { callee := Callee.value (Operand.tmp 39), args := #[Operand.tmp 43], argTypes := #[90] }, type := 4, pos := "row.go:262", after := #[{ on := 16, ground := Ground.data }, { on := 20, ground := Ground.data }, { on := 15, ground := Ground.chain }, { on := 15, ground := Ground.guard }], guard := some (15, false) }
def pass4_o22 : Oper := { dst := some 45, op := Op.pick (Operand.tmp 38) (Operand.const (Value.bool true)) (Operand.tmp 44), type := 4, pos := "row.go:261", after := #[{ on := 15, ground := Ground.data }, { on := 21, ground := Ground.data }, { on := 9, ground := Ground.guard }], guard := some (9, true) }
def pass4_o23 : Oper := { dst := some 46, op := Op.pick (Operand.tmp 32) (Operand.tmp 45) (Operand.const (Value.bool false)), type := 4, pos := "row.go:261", after := #[{ on := 9, ground := Ground.data }, { on := 22, ground := Ground.data }], guard := none }
def pass4_o24 : Oper := { dst := some 47, op := Op.move (Operand.tmp 46), type := 4, pos := "row.go:261", after := #[{ on := 23, ground := Ground.data }, { on := 21, ground := Ground.chain }], guard := none }
def pass4_o25 : Oper := { dst := some 48, op := Op.move (Operand.tmp 0), type := 114, pos := "row.go:261", after := #[{ on := 24, ground := Ground.guard }], guard := some (24, true) }
def pass4_o26 : Oper := { dst := some 49, op := Op.move (Operand.tmp 9), type := 179, pos := "row.go:261", after := #[{ on := 24, ground := Ground.guard }], guard := some (24, true) }
def pass4_o27 : Oper := { dst := some 50, op := Op.nilCheck (Operand.tmp 49), type := 0, pos := "row.go:261", after := #[{ on := 26, ground := Ground.data }, { on := 24, ground := Ground.guard }], guard := some (24, true) }
def pass4_o28 : Oper := { dst := some 51, op := Op.fieldAddr 113 (Operand.tmp 50) 3, type := 0, pos := "row.go:261", after := #[{ on := 27, ground := Ground.data }, { on := 24, ground := Ground.guard }], guard := some (24, true) }
def pass4_o29 : Oper := { dst := some 52, op := Op.indexAddr 111 (Operand.tmp 51) (Operand.const (Value.int IntKind.i64 1)), type := 0, pos := "row.go:261", after := #[{ on := 28, ground := Ground.data }, { on := 24, ground := Ground.guard }], guard := some (24, true) }
def pass4_o30 : Oper := { dst := some 53, op := Op.load 3 (Operand.tmp 52), type := 3, pos := "row.go:261", after := #[{ on := 29, ground := Ground.data }, { on := 24, ground := Ground.guard }], guard := some (24, true) }
def pass4_o31 : Oper := { dst := some 54, op := Op.move (Operand.tmp 2), type := 3, pos := "row.go:261", after := #[{ on := 24, ground := Ground.guard }], guard := some (24, true) }
def pass4_o32 : Oper := { dst := some 55, op := Op.move (Operand.tmp 3), type := 176, pos := "row.go:261", after := #[{ on := 24, ground := Ground.guard }], guard := some (24, true) }
def pass4_o33 : Oper := { dst := some 56, op := Op.call { callee := Callee.value (Operand.func 96), args := #[Operand.tmp 48, Operand.tmp 53, Operand.tmp 54, Operand.tmp 55], argTypes := #[114, 3, 3, 176] }, type := 4, pos := "row.go:263", after := #[{ on := 25, ground := Ground.data }, { on := 30, ground := Ground.data }, { on := 31, ground := Ground.data }, { on := 32, ground := Ground.data }, { on := 24, ground := Ground.chain }, { on := 24, ground := Ground.guard }], guard := some (24, true) }
def pass4_o34 : Oper := { dst := some 57, op := Op.pick (Operand.tmp 47) (Operand.tmp 56) (Operand.const (Value.bool false)), type := 4, pos := "row.go:261", after := #[{ on := 24, ground := Ground.data }, { on := 33, ground := Ground.data }], guard := none }
def pass4_o35 : Oper := { dst := some 8, op := Op.assign (Operand.tmp 57), type := 4, pos := "row.go:261", after := #[{ on := 34, ground := Ground.data }, { on := 33, ground := Ground.chain }, { on := 0, ground := Ground.phase }, { on := 1, ground := Ground.phase }, { on := 2, ground := Ground.phase }, { on := 3, ground := Ground.phase }, { on := 4, ground := Ground.phase }, { on := 5, ground := Ground.phase }, { on := 6, ground := Ground.phase }, { on := 7, ground := Ground.phase }, { on := 8, ground := Ground.phase }, { on := 9, ground := Ground.phase }, { on := 10, ground := Ground.phase }, { on := 11, ground := Ground.phase }, { on := 12, ground := Ground.phase }, { on := 13, ground := Ground.phase }, { on := 14, ground := Ground.phase }, { on := 15, ground := Ground.phase }, { on := 16, ground := Ground.phase }, { on := 17, ground := Ground.phase }, { on := 18, ground := Ground.phase }, { on := 19, ground := Ground.phase }, { on := 20, ground := Ground.phase }, { on := 21, ground := Ground.phase }, { on := 22, ground := Ground.phase }, { on := 23, ground := Ground.phase }, { on := 24, ground := Ground.phase }, { on := 25, ground := Ground.phase }, { on := 26, ground := Ground.phase }, { on := 27, ground := Ground.phase }, { on := 28, ground := Ground.phase }, { on := 29, ground := Ground.phase }, { on := 30, ground := Ground.phase }, { on := 31, ground := Ground.phase }, { on := 32, ground := Ground.phase }, { on := 33, ground := Ground.phase }, { on := 34, ground := Ground.phase }], guard := none }
def pass4_ops : Array Oper := #[pass4_o0, pass4_o1, pass4_o2, pass4_o3, pass4_o4, pass4_o5, pass4_o6, pass4_o7, pass4_o8, pass4_o9, pass4_o10, pass4_o11, pass4_o12, pass4_o13, pass4_o14, pass4_o15, pass4_o16, pass4_o17, pass4_o18, pass4_o19, pass4_o20, pass4_o21, pass4_o22, pass4_o23, pass4_o24, pass4_o25, pass4_o26, pass4_o27, pass4_o28, pass4_o29, pass4_o30, pass4_o31, pass4_o32, pass4_o33, pass4_o34, pass4_o35]
set_option maxRecDepth 100000 in
set_option maxHeartbeats 4000000 in
theorem pass4a {rb ro g cap : Nat} {L : List Sp} {i l n : Nat} {c : Bool} (Fin : Bool → World → Prop) (a : Act) (w : World) (Q : Exit → Act → World → Prop) (hsz : a.tmps.size = 58)
    (t0 : a.tmps.getD 0 undef = .pointer (some ⟨rb, ro, none⟩))
    (t2 : a.tmps.getD 2 undef = .int .i64 (nb c : Int))
    (t3 : a.tmps.getD 3 undef = .func (.yield l) #[] #[])
    (t9 : a.tmps.getD 9 undef = .pointer (some ⟨g, 73 * i, none⟩))
    (hR : SqAt w rb ro g cap L) (hi : i < L.length) (CP : Calls Try.prog 96 #[.pointer (some ⟨rb, ro, none⟩), .int .i64 (dn (gt L i) false : Int), .int .i64 (nb c : Int), .func (.yield l) #[] #[]] w fun e w' => ∃ b, e = .returned (.bool b) ∧ Fin b w')
    (h : ∀ (b : Bool) (a' : Act) (w' : World), Fin b w' → a' = (((((((((a).put (some 23) (.pointer (some ⟨rb, ro, none⟩))).put (some 24) (.pointer (some ⟨g, 73 * i, none⟩))).put (some 25) (.pointer (some ⟨g, 73 * i, none⟩))).put (some 26) (.pointer (some ⟨g, 73 * i + 69, none⟩))).put (some 27) (.pointer (some ⟨g, 73 * i + 69 + nb false, none⟩))).put (some 28) (.int .i64 (dn (gt L i) false : Int))).put (some 29) (.int .i64 (nb c : Int))).put (some 30) (.func (.yield l) #[] #[])).put (some 31) (.bool b) → wpListIn Fence.wide n Try.prog pass4_ops Q [pass4_o9, pass4_o10, pass4_o11, pass4_o12, pass4_o13, pass4_o14, pass4_o15, pass4_o16, pass4_o17, pass4_o18, pass4_o19, pass4_o20, pass4_o21, pass4_o22, pass4_o23, pass4_o24, pass4_o25, pass4_o26, pass4_o27, pass4_o28, pass4_o29, pass4_o30, pass4_o31, pass4_o32, pass4_o33, pass4_o34, pass4_o35] a' w') :
    (Code.region 4 pass4_ops false).wpIn Fence.wide n Try.prog Q a w := by
  refine wpIn_region_list ?_
  change wpListIn _ _ _ _ _ [pass4_o0, pass4_o1, pass4_o2, pass4_o3, pass4_o4, pass4_o5, pass4_o6, pass4_o7, pass4_o8, pass4_o9, pass4_o10, pass4_o11, pass4_o12, pass4_o13, pass4_o14, pass4_o15, pass4_o16, pass4_o17, pass4_o18, pass4_o19, pass4_o20, pass4_o21, pass4_o22, pass4_o23, pass4_o24, pass4_o25, pass4_o26, pass4_o27, pass4_o28, pass4_o29, pass4_o30, pass4_o31, pass4_o32, pass4_o33, pass4_o34, pass4_o35] _ _
  refine qvI (v := .pointer (some ⟨rb, ro, none⟩)) (by rfl) (exec_move rfl t0) (fun a0 e0 => ?_)
  rw [← e0] at h
  have z0 := pz e0 hsz
  replace t2 := pk e0 t2
  replace t3 := pk e0 t3
  replace t9 := pk e0 t9
  clear t0
  have t23 := pq e0 hsz
  clear e0 hsz
  refine qvI (v := .pointer (some ⟨g, 73 * i, none⟩)) (by rfl) (exec_move rfl t9) (fun a1 e1 => ?_)
  rw [← e1] at h
  have z1 := pz e1 z0
  replace t2 := pk e1 t2
  replace t3 := pk e1 t3
  replace t23 := pk e1 t23
  clear t9
  have t24 := pq e1 z0
  clear e1 z0
  refine qvI (v := .pointer (some ⟨g, 73 * i, none⟩)) (by rfl) (exec_nilCheck rfl t24) (fun a2 e2 => ?_)
  rw [← e2] at h
  have z2 := pz e2 z1
  replace t2 := pk e2 t2
  replace t3 := pk e2 t3
  replace t23 := pk e2 t23
  clear t24
  have t25 := pq e2 z1
  clear e2 z1
  refine qvI (v := .pointer (some ⟨g, 73 * i + 69, none⟩)) (by rfl) (exec_fieldAt rfl t25 (fg_113_3 _ _ _)) (fun a3 e3 => ?_)
  rw [← e3] at h
  have z3 := pz e3 z2
  replace t2 := pk e3 t2
  replace t3 := pk e3 t3
  replace t23 := pk e3 t23
  clear t25
  have t26 := pq e3 z2
  clear e3 z2
  refine qvI (v := .pointer (some ⟨g, 73 * i + 69 + nb false, none⟩)) (by rfl) (exec_indexAt rfl t26 rfl (ix_a0 _ _)) (fun a4 e4 => ?_)
  rw [← e4] at h
  have z4 := pz e4 z3
  replace t2 := pk e4 t2
  replace t3 := pk e4 t3
  replace t23 := pk e4 t23
  clear t26
  have t27 := pq e4 z3
  clear e4 z3
  refine qvI (v := .int .i64 (dn (gt L i) false : Int)) (by rfl) (exec_load rfl t27 (R_dn hR hi false)) (fun a5 e5 => ?_)
  rw [← e5] at h
  have z5 := pz e5 z4
  replace t2 := pk e5 t2
  replace t3 := pk e5 t3
  replace t23 := pk e5 t23
  clear t27
  have t28 := pq e5 z4
  clear e5 z4
  refine qvI (v := .int .i64 (nb c : Int)) (by rfl) (exec_move rfl t2) (fun a6 e6 => ?_)
  rw [← e6] at h
  have z6 := pz e6 z5
  replace t3 := pk e6 t3
  replace t23 := pk e6 t23
  replace t28 := pk e6 t28
  clear t2
  have t29 := pq e6 z5
  clear e6 z5
  refine qvI (v := .func (.yield l) #[] #[]) (by rfl) (exec_move rfl t3) (fun a7 e7 => ?_)
  rw [← e7] at h
  have z7 := pz e7 z6
  replace t23 := pk e7 t23
  replace t28 := pk e7 t28
  replace t29 := pk e7 t29
  clear t3
  have t30 := pq e7 z6
  clear e7 z6
  refine qcI (by rfl) (by unfold pass4_o8; go_simp) (CP) (fun e x8 hx => ?_)
  obtain ⟨b, rfl, HF⟩ := hx
  replace h := h b
  refine ⟨_, rfl, fun a8 e8 => ?_⟩
  rw [← e8] at h
  have z8 := pz e8 z7
  clear t23 t28 t29 t30
  clear e8 z7
  exact h _ _ (HF) rfl
set_option maxRecDepth 100000 in
set_option maxHeartbeats 4000000 in
theorem pass4f {n : Nat} (a : Act) (w : World) (Q : Exit → Act → World → Prop) (hsz : a.tmps.size = 58)
    (t31 : a.tmps.getD 31 undef = .bool false)
    (h : ∀ (a' : Act) (w' : World), w' = w → a' = (((((((((((((((((((((((((((a).put (some 32) (.bool false)).put (some 33) (undef)).put (some 34) (undef)).put (some 35) (undef)).put (some 36) (undef)).put (some 37) (undef)).put (some 38) (undef)).put (some 39) (undef)).put (some 40) (undef)).put (some 41) (undef)).put (some 42) (undef)).put (some 43) (undef)).put (some 44) (undef)).put (some 45) (undef)).put (some 46) (.bool false)).put (some 47) (.bool false)).put (some 48) (undef)).put (some 49) (undef)).put (some 50) (undef)).put (some 51) (undef)).put (some 52) (undef)).put (some 53) (undef)).put (some 54) (undef)).put (some 55) (undef)).put (some 56) (undef)).put (some 57) (.bool false)).put (some 8) (.bool false) → Q .normal a' w') :
    wpListIn Fence.wide n Try.prog pass4_ops Q [pass4_o9, pass4_o10, pass4_o11, pass4_o12, pass4_o13, pass4_o14, pass4_o15, pass4_o16, pass4_o17, pass4_o18, pass4_o19, pass4_o20, pass4_o21, pass4_o22, pass4_o23, pass4_o24, pass4_o25, pass4_o26, pass4_o27, pass4_o28, pass4_o29, pass4_o30, pass4_o31, pass4_o32, pass4_o33, pass4_o34, pass4_o35] a w := by
  refine qvI (v := .bool false) (by rfl) (exec_move rfl t31) (fun a9 e9 => ?_)
  rw [← e9] at h
  have z9 := pz e9 hsz
  clear t31
  have t32 := pq e9 hsz
  clear e9 hsz
  refine qnI (by simp [Region.wanted, yielded, pass4_ops, pass4_o10, pass4_o9, tget z9 (by decide) t32]) (fun a10 e10 => ?_)
  rw [← e10] at h
  have z10 := pz e10 z9
  replace t32 := pk e10 t32
  have t33 := pq e10 z9
  clear e10 z9
  refine qnI (by simp [Region.wanted, yielded, pass4_ops, pass4_o11, pass4_o9, tget z10 (by decide) t32]) (fun a11 e11 => ?_)
  rw [← e11] at h
  have z11 := pz e11 z10
  replace t32 := pk e11 t32
  replace t33 := pk e11 t33
  have t34 := pq e11 z10
  clear e11 z10
  refine qnI (by simp [Region.wanted, yielded, pass4_ops, pass4_o12, pass4_o9, tget z11 (by decide) t32]) (fun a12 e12 => ?_)
  rw [← e12] at h
  have z12 := pz e12 z11
  replace t32 := pk e12 t32
  replace t33 := pk e12 t33
  replace t34 := pk e12 t34
  have t35 := pq e12 z11
  clear e12 z11
  refine qnI (by simp [Region.wanted, yielded, pass4_ops, pass4_o13, pass4_o9, tget z12 (by decide) t32]) (fun a13 e13 => ?_)
  rw [← e13] at h
  have z13 := pz e13 z12
  replace t32 := pk e13 t32
  clear t33 t34 t35
  have t36 := pq e13 z12
  clear e13 z12
  refine qnI (by simp [Region.wanted, yielded, pass4_ops, pass4_o14, pass4_o9, tget z13 (by decide) t32]) (fun a14 e14 => ?_)
  rw [← e14] at h
  have z14 := pz e14 z13
  replace t32 := pk e14 t32
  clear t36
  have t37 := pq e14 z13
  clear e14 z13
  refine qnI (by simp [Region.wanted, yielded, pass4_ops, pass4_o15, pass4_o9, tget z14 (by decide) t32]) (fun a15 e15 => ?_)
  rw [← e15] at h
  have z15 := pz e15 z14
  replace t32 := pk e15 t32
  clear t37
  have t38 := pq e15 z14
  clear e15 z14
  refine qnI (by simp [Region.wanted, yielded, pass4_ops, pass4_o16, pass4_o15, tget z15 (by decide) t38, undef]) (fun a16 e16 => ?_)
  rw [← e16] at h
  have z16 := pz e16 z15
  replace t32 := pk e16 t32
  replace t38 := pk e16 t38
  have t39 := pq e16 z15
  clear e16 z15
  refine qnI (by simp [Region.wanted, yielded, pass4_ops, pass4_o17, pass4_o15, tget z16 (by decide) t38, undef]) (fun a17 e17 => ?_)
  rw [← e17] at h
  have z17 := pz e17 z16
  replace t32 := pk e17 t32
  replace t38 := pk e17 t38
  replace t39 := pk e17 t39
  have t40 := pq e17 z16
  clear e17 z16
  refine qnI (by simp [Region.wanted, yielded, pass4_ops, pass4_o18, pass4_o15, tget z17 (by decide) t38, undef]) (fun a18 e18 => ?_)
  rw [← e18] at h
  have z18 := pz e18 z17
  replace t32 := pk e18 t32
  replace t38 := pk e18 t38
  replace t39 := pk e18 t39
  clear t40
  have t41 := pq e18 z17
  clear e18 z17
  refine qnI (by simp [Region.wanted, yielded, pass4_ops, pass4_o19, pass4_o15, tget z18 (by decide) t38, undef]) (fun a19 e19 => ?_)
  rw [← e19] at h
  have z19 := pz e19 z18
  replace t32 := pk e19 t32
  replace t38 := pk e19 t38
  replace t39 := pk e19 t39
  clear t41
  have t42 := pq e19 z18
  clear e19 z18
  refine qnI (by simp [Region.wanted, yielded, pass4_ops, pass4_o20, pass4_o15, tget z19 (by decide) t38, undef]) (fun a20 e20 => ?_)
  rw [← e20] at h
  have z20 := pz e20 z19
  replace t32 := pk e20 t32
  replace t38 := pk e20 t38
  replace t39 := pk e20 t39
  clear t42
  have t43 := pq e20 z19
  clear e20 z19
  refine qnI (by simp [Region.wanted, yielded, pass4_ops, pass4_o21, pass4_o15, tget z20 (by decide) t38, undef]) (fun a21 e21 => ?_)
  rw [← e21] at h
  have z21 := pz e21 z20
  replace t32 := pk e21 t32
  replace t38 := pk e21 t38
  clear t39 t43
  have t44 := pq e21 z20
  clear e21 z20
  refine qnI (by simp [Region.wanted, yielded, pass4_ops, pass4_o22, pass4_o9, tget z21 (by decide) t32]) (fun a22 e22 => ?_)
  rw [← e22] at h
  have z22 := pz e22 z21
  replace t32 := pk e22 t32
  clear t38 t44
  have t45 := pq e22 z21
  clear e22 z21
  refine qvI (v := .bool false) (by rfl) (by unfold pass4_o23; go_simp) (fun a23 e23 => ?_)
  rw [← e23] at h
  have z23 := pz e23 z22
  clear t32 t45
  have t46 := pq e23 z22
  clear e23 z22
  refine qvI (v := .bool false) (by rfl) (exec_move rfl t46) (fun a24 e24 => ?_)
  rw [← e24] at h
  have z24 := pz e24 z23
  clear t46
  have t47 := pq e24 z23
  clear e24 z23
  refine qnI (by simp [Region.wanted, yielded, pass4_ops, pass4_o25, pass4_o24, tget z24 (by decide) t47]) (fun a25 e25 => ?_)
  rw [← e25] at h
  have z25 := pz e25 z24
  replace t47 := pk e25 t47
  have t48 := pq e25 z24
  clear e25 z24
  refine qnI (by simp [Region.wanted, yielded, pass4_ops, pass4_o26, pass4_o24, tget z25 (by decide) t47]) (fun a26 e26 => ?_)
  rw [← e26] at h
  have z26 := pz e26 z25
  replace t47 := pk e26 t47
  replace t48 := pk e26 t48
  have t49 := pq e26 z25
  clear e26 z25
  refine qnI (by simp [Region.wanted, yielded, pass4_ops, pass4_o27, pass4_o24, tget z26 (by decide) t47]) (fun a27 e27 => ?_)
  rw [← e27] at h
  have z27 := pz e27 z26
  replace t47 := pk e27 t47
  replace t48 := pk e27 t48
  clear t49
  have t50 := pq e27 z26
  clear e27 z26
  refine qnI (by simp [Region.wanted, yielded, pass4_ops, pass4_o28, pass4_o24, tget z27 (by decide) t47]) (fun a28 e28 => ?_)
  rw [← e28] at h
  have z28 := pz e28 z27
  replace t47 := pk e28 t47
  replace t48 := pk e28 t48
  clear t50
  have t51 := pq e28 z27
  clear e28 z27
  refine qnI (by simp [Region.wanted, yielded, pass4_ops, pass4_o29, pass4_o24, tget z28 (by decide) t47]) (fun a29 e29 => ?_)
  rw [← e29] at h
  have z29 := pz e29 z28
  replace t47 := pk e29 t47
  replace t48 := pk e29 t48
  clear t51
  have t52 := pq e29 z28
  clear e29 z28
  refine qnI (by simp [Region.wanted, yielded, pass4_ops, pass4_o30, pass4_o24, tget z29 (by decide) t47]) (fun a30 e30 => ?_)
  rw [← e30] at h
  have z30 := pz e30 z29
  replace t47 := pk e30 t47
  replace t48 := pk e30 t48
  clear t52
  have t53 := pq e30 z29
  clear e30 z29
  refine qnI (by simp [Region.wanted, yielded, pass4_ops, pass4_o31, pass4_o24, tget z30 (by decide) t47]) (fun a31 e31 => ?_)
  rw [← e31] at h
  have z31 := pz e31 z30
  replace t47 := pk e31 t47
  replace t48 := pk e31 t48
  replace t53 := pk e31 t53
  have t54 := pq e31 z30
  clear e31 z30
  refine qnI (by simp [Region.wanted, yielded, pass4_ops, pass4_o32, pass4_o24, tget z31 (by decide) t47]) (fun a32 e32 => ?_)
  rw [← e32] at h
  have z32 := pz e32 z31
  replace t47 := pk e32 t47
  replace t48 := pk e32 t48
  replace t53 := pk e32 t53
  replace t54 := pk e32 t54
  have t55 := pq e32 z31
  clear e32 z31
  refine qnI (by simp [Region.wanted, yielded, pass4_ops, pass4_o33, pass4_o24, tget z32 (by decide) t47]) (fun a33 e33 => ?_)
  rw [← e33] at h
  have z33 := pz e33 z32
  replace t47 := pk e33 t47
  clear t48 t53 t54 t55
  have t56 := pq e33 z32
  clear e33 z32
  refine qvI (v := .bool false) (by rfl) (by unfold pass4_o34; go_simp) (fun a34 e34 => ?_)
  rw [← e34] at h
  have z34 := pz e34 z33
  clear t47 t56
  have t57 := pq e34 z33
  clear e34 z33
  refine qvI (v := .bool false) (by rfl) (exec_assign rfl t57) (fun a35 e35 => ?_)
  rw [← e35] at h
  have z35 := pz e35 z34
  clear t57
  clear e35 z34
  exact wpListIn_nil (h _ _ (rfl) rfl)
set_option maxRecDepth 100000 in
set_option maxHeartbeats 4000000 in
theorem pass4b {rb ro i x n : Nat} {c : Bool} (Fin : World → Prop) (a : Act) (w : World) (Q : Exit → Act → World → Prop) (hsz : a.tmps.size = 58)
    (t0 : a.tmps.getD 0 undef = .pointer (some ⟨rb, ro, none⟩))
    (t1 : a.tmps.getD 1 undef = .int .i64 (i : Int))
    (t2 : a.tmps.getD 2 undef = .int .i64 (nb c : Int))
    (t31 : a.tmps.getD 31 undef = .bool true)
    (CO : Calls Try.prog 101 #[.pointer (some ⟨rb, ro, none⟩), .int .i64 (i : Int), .int .i64 (nb c : Int)] w fun e w' => e = .returned (.int .i64 (x : Int)) ∧ Fin w')
    (h : ∀ (a' : Act) (w' : World), Fin w' → a' = (((((a).put (some 32) (.bool true)).put (some 33) (.pointer (some ⟨rb, ro, none⟩))).put (some 34) (.int .i64 (i : Int))).put (some 35) (.int .i64 (nb c : Int))).put (some 36) (.int .i64 (x : Int)) → wpListIn Fence.wide n Try.prog pass4_ops Q [pass4_o14, pass4_o15, pass4_o16, pass4_o17, pass4_o18, pass4_o19, pass4_o20, pass4_o21, pass4_o22, pass4_o23, pass4_o24, pass4_o25, pass4_o26, pass4_o27, pass4_o28, pass4_o29, pass4_o30, pass4_o31, pass4_o32, pass4_o33, pass4_o34, pass4_o35] a' w') :
    wpListIn Fence.wide n Try.prog pass4_ops Q [pass4_o9, pass4_o10, pass4_o11, pass4_o12, pass4_o13, pass4_o14, pass4_o15, pass4_o16, pass4_o17, pass4_o18, pass4_o19, pass4_o20, pass4_o21, pass4_o22, pass4_o23, pass4_o24, pass4_o25, pass4_o26, pass4_o27, pass4_o28, pass4_o29, pass4_o30, pass4_o31, pass4_o32, pass4_o33, pass4_o34, pass4_o35] a w := by
  refine qvI (v := .bool true) (by rfl) (exec_move rfl t31) (fun a9 e9 => ?_)
  rw [← e9] at h
  have z9 := pz e9 hsz
  replace t0 := pk e9 t0
  replace t1 := pk e9 t1
  replace t2 := pk e9 t2
  clear t31
  have t32 := pq e9 hsz
  clear e9 hsz
  refine qvI (v := .pointer (some ⟨rb, ro, none⟩)) (by simp [Region.wanted, yielded, pass4_ops, pass4_o10, pass4_o9, tget z9 (by decide) t32]) (exec_move rfl t0) (fun a10 e10 => ?_)
  rw [← e10] at h
  have z10 := pz e10 z9
  replace t1 := pk e10 t1
  replace t2 := pk e10 t2
  replace t32 := pk e10 t32
  clear t0
  have t33 := pq e10 z9
  clear e10 z9
  refine qvI (v := .int .i64 (i : Int)) (by simp [Region.wanted, yielded, pass4_ops, pass4_o11, pass4_o9, tget z10 (by decide) t32]) (exec_move rfl t1) (fun a11 e11 => ?_)
  rw [← e11] at h
  have z11 := pz e11 z10
  replace t2 := pk e11 t2
  replace t32 := pk e11 t32
  replace t33 := pk e11 t33
  clear t1
  have t34 := pq e11 z10
  clear e11 z10
  refine qvI (v := .int .i64 (nb c : Int)) (by simp [Region.wanted, yielded, pass4_ops, pass4_o12, pass4_o9, tget z11 (by decide) t32]) (exec_move rfl t2) (fun a12 e12 => ?_)
  rw [← e12] at h
  have z12 := pz e12 z11
  replace t32 := pk e12 t32
  replace t33 := pk e12 t33
  replace t34 := pk e12 t34
  clear t2
  have t35 := pq e12 z11
  clear e12 z11
  refine qcI (by simp [Region.wanted, yielded, pass4_ops, pass4_o13, pass4_o9, tget z12 (by decide) t32]) (by unfold pass4_o13; go_simp) (CO) (fun e x13 hx => ?_)
  obtain ⟨rfl, HF⟩ := hx
  refine ⟨_, rfl, fun a13 e13 => ?_⟩
  rw [← e13] at h
  have z13 := pz e13 z12
  clear t32 t33 t34 t35
  clear e13 z12
  exact h _ _ (HF) rfl
set_option maxRecDepth 100000 in
set_option maxHeartbeats 4000000 in
theorem pass4n {rb ro g cap : Nat} {L : List Sp} {i l x n : Nat} {c : Bool} (Fin : Bool → World → Prop) (a : Act) (w : World) (Q : Exit → Act → World → Prop) (hsz : a.tmps.size = 58)
    (t0 : a.tmps.getD 0 undef = .pointer (some ⟨rb, ro, none⟩))
    (t2 : a.tmps.getD 2 undef = .int .i64 (nb c : Int))
    (t3 : a.tmps.getD 3 undef = .func (.yield l) #[] #[])
    (t9 : a.tmps.getD 9 undef = .pointer (some ⟨g, 73 * i, none⟩))
    (t32 : a.tmps.getD 32 undef = .bool true)
    (t36 : a.tmps.getD 36 undef = .int .i64 (x : Int))
    (hx : decide ((x : Int) = 0) = true) (hR : SqAt w rb ro g cap L) (hi : i < L.length) (CP : Calls Try.prog 96 #[.pointer (some ⟨rb, ro, none⟩), .int .i64 (dn (gt L i) true : Int), .int .i64 (nb c : Int), .func (.yield l) #[] #[]] w fun e w' => ∃ b, e = .returned (.bool b) ∧ Fin b w')
    (h : ∀ (b : Bool) (a' : Act) (w' : World), Fin b w' → a' = ((((((((((((((((((((a).put (some 37) (.bool true)).put (some 38) (.bool true)).put (some 39) (undef)).put (some 40) (undef)).put (some 41) (undef)).put (some 42) (undef)).put (some 43) (undef)).put (some 44) (undef)).put (some 45) (.bool true)).put (some 46) (.bool true)).put (some 47) (.bool true)).put (some 48) (.pointer (some ⟨rb, ro, none⟩))).put (some 49) (.pointer (some ⟨g, 73 * i, none⟩))).put (some 50) (.pointer (some ⟨g, 73 * i, none⟩))).put (some 51) (.pointer (some ⟨g, 73 * i + 69, none⟩))).put (some 52) (.pointer (some ⟨g, 73 * i + 69 + nb true, none⟩))).put (some 53) (.int .i64 (dn (gt L i) true : Int))).put (some 54) (.int .i64 (nb c : Int))).put (some 55) (.func (.yield l) #[] #[])).put (some 56) (.bool b) → wpListIn Fence.wide n Try.prog pass4_ops Q [pass4_o34, pass4_o35] a' w') :
    wpListIn Fence.wide n Try.prog pass4_ops Q [pass4_o14, pass4_o15, pass4_o16, pass4_o17, pass4_o18, pass4_o19, pass4_o20, pass4_o21, pass4_o22, pass4_o23, pass4_o24, pass4_o25, pass4_o26, pass4_o27, pass4_o28, pass4_o29, pass4_o30, pass4_o31, pass4_o32, pass4_o33, pass4_o34, pass4_o35] a w := by
  refine qvI (v := .bool true) (by simp [Region.wanted, yielded, pass4_ops, pass4_o14, pass4_o9, tget hsz (by decide) t32]) (ex_eql rfl t36 rfl hx) (fun a14 e14 => ?_)
  rw [← e14] at h
  have z14 := pz e14 hsz
  replace t0 := pk e14 t0
  replace t2 := pk e14 t2
  replace t3 := pk e14 t3
  replace t9 := pk e14 t9
  replace t32 := pk e14 t32
  clear t36
  have t37 := pq e14 hsz
  clear e14 hsz
  refine qvI (v := .bool true) (by simp [Region.wanted, yielded, pass4_ops, pass4_o15, pass4_o9, tget z14 (by decide) t32]) (exec_move rfl t37) (fun a15 e15 => ?_)
  rw [← e15] at h
  have z15 := pz e15 z14
  replace t0 := pk e15 t0
  replace t2 := pk e15 t2
  replace t3 := pk e15 t3
  replace t9 := pk e15 t9
  replace t32 := pk e15 t32
  clear t37
  have t38 := pq e15 z14
  clear e15 z14
  refine qnI (by simp [Region.wanted, yielded, pass4_ops, pass4_o16, pass4_o15, tget z15 (by decide) t38]) (fun a16 e16 => ?_)
  rw [← e16] at h
  have z16 := pz e16 z15
  replace t0 := pk e16 t0
  replace t2 := pk e16 t2
  replace t3 := pk e16 t3
  replace t9 := pk e16 t9
  replace t32 := pk e16 t32
  replace t38 := pk e16 t38
  have t39 := pq e16 z15
  clear e16 z15
  refine qnI (by simp [Region.wanted, yielded, pass4_ops, pass4_o17, pass4_o15, tget z16 (by decide) t38]) (fun a17 e17 => ?_)
  rw [← e17] at h
  have z17 := pz e17 z16
  replace t0 := pk e17 t0
  replace t2 := pk e17 t2
  replace t3 := pk e17 t3
  replace t9 := pk e17 t9
  replace t32 := pk e17 t32
  replace t38 := pk e17 t38
  replace t39 := pk e17 t39
  have t40 := pq e17 z16
  clear e17 z16
  refine qnI (by simp [Region.wanted, yielded, pass4_ops, pass4_o18, pass4_o15, tget z17 (by decide) t38]) (fun a18 e18 => ?_)
  rw [← e18] at h
  have z18 := pz e18 z17
  replace t0 := pk e18 t0
  replace t2 := pk e18 t2
  replace t3 := pk e18 t3
  replace t9 := pk e18 t9
  replace t32 := pk e18 t32
  replace t38 := pk e18 t38
  replace t39 := pk e18 t39
  clear t40
  have t41 := pq e18 z17
  clear e18 z17
  refine qnI (by simp [Region.wanted, yielded, pass4_ops, pass4_o19, pass4_o15, tget z18 (by decide) t38]) (fun a19 e19 => ?_)
  rw [← e19] at h
  have z19 := pz e19 z18
  replace t0 := pk e19 t0
  replace t2 := pk e19 t2
  replace t3 := pk e19 t3
  replace t9 := pk e19 t9
  replace t32 := pk e19 t32
  replace t38 := pk e19 t38
  replace t39 := pk e19 t39
  clear t41
  have t42 := pq e19 z18
  clear e19 z18
  refine qnI (by simp [Region.wanted, yielded, pass4_ops, pass4_o20, pass4_o15, tget z19 (by decide) t38]) (fun a20 e20 => ?_)
  rw [← e20] at h
  have z20 := pz e20 z19
  replace t0 := pk e20 t0
  replace t2 := pk e20 t2
  replace t3 := pk e20 t3
  replace t9 := pk e20 t9
  replace t32 := pk e20 t32
  replace t38 := pk e20 t38
  replace t39 := pk e20 t39
  clear t42
  have t43 := pq e20 z19
  clear e20 z19
  refine qnI (by simp [Region.wanted, yielded, pass4_ops, pass4_o21, pass4_o15, tget z20 (by decide) t38]) (fun a21 e21 => ?_)
  rw [← e21] at h
  have z21 := pz e21 z20
  replace t0 := pk e21 t0
  replace t2 := pk e21 t2
  replace t3 := pk e21 t3
  replace t9 := pk e21 t9
  replace t32 := pk e21 t32
  replace t38 := pk e21 t38
  clear t39 t43
  have t44 := pq e21 z20
  clear e21 z20
  refine qvI (v := .bool true) (by simp [Region.wanted, yielded, pass4_ops, pass4_o22, pass4_o9, tget z21 (by decide) t32]) (by unfold pass4_o22; go_simp) (fun a22 e22 => ?_)
  rw [← e22] at h
  have z22 := pz e22 z21
  replace t0 := pk e22 t0
  replace t2 := pk e22 t2
  replace t3 := pk e22 t3
  replace t9 := pk e22 t9
  replace t32 := pk e22 t32
  clear t38 t44
  have t45 := pq e22 z21
  clear e22 z21
  refine qvI (v := .bool true) (by rfl) (by unfold pass4_o23; go_simp) (fun a23 e23 => ?_)
  rw [← e23] at h
  have z23 := pz e23 z22
  replace t0 := pk e23 t0
  replace t2 := pk e23 t2
  replace t3 := pk e23 t3
  replace t9 := pk e23 t9
  clear t32 t45
  have t46 := pq e23 z22
  clear e23 z22
  refine qvI (v := .bool true) (by rfl) (exec_move rfl t46) (fun a24 e24 => ?_)
  rw [← e24] at h
  have z24 := pz e24 z23
  replace t0 := pk e24 t0
  replace t2 := pk e24 t2
  replace t3 := pk e24 t3
  replace t9 := pk e24 t9
  clear t46
  have t47 := pq e24 z23
  clear e24 z23
  refine qvI (v := .pointer (some ⟨rb, ro, none⟩)) (by simp [Region.wanted, yielded, pass4_ops, pass4_o25, pass4_o24, tget z24 (by decide) t47]) (exec_move rfl t0) (fun a25 e25 => ?_)
  rw [← e25] at h
  have z25 := pz e25 z24
  replace t2 := pk e25 t2
  replace t3 := pk e25 t3
  replace t9 := pk e25 t9
  replace t47 := pk e25 t47
  clear t0
  have t48 := pq e25 z24
  clear e25 z24
  refine qvI (v := .pointer (some ⟨g, 73 * i, none⟩)) (by simp [Region.wanted, yielded, pass4_ops, pass4_o26, pass4_o24, tget z25 (by decide) t47]) (exec_move rfl t9) (fun a26 e26 => ?_)
  rw [← e26] at h
  have z26 := pz e26 z25
  replace t2 := pk e26 t2
  replace t3 := pk e26 t3
  replace t47 := pk e26 t47
  replace t48 := pk e26 t48
  clear t9
  have t49 := pq e26 z25
  clear e26 z25
  refine qvI (v := .pointer (some ⟨g, 73 * i, none⟩)) (by simp [Region.wanted, yielded, pass4_ops, pass4_o27, pass4_o24, tget z26 (by decide) t47]) (exec_nilCheck rfl t49) (fun a27 e27 => ?_)
  rw [← e27] at h
  have z27 := pz e27 z26
  replace t2 := pk e27 t2
  replace t3 := pk e27 t3
  replace t47 := pk e27 t47
  replace t48 := pk e27 t48
  clear t49
  have t50 := pq e27 z26
  clear e27 z26
  refine qvI (v := .pointer (some ⟨g, 73 * i + 69, none⟩)) (by simp [Region.wanted, yielded, pass4_ops, pass4_o28, pass4_o24, tget z27 (by decide) t47]) (exec_fieldAt rfl t50 (fg_113_3 _ _ _)) (fun a28 e28 => ?_)
  rw [← e28] at h
  have z28 := pz e28 z27
  replace t2 := pk e28 t2
  replace t3 := pk e28 t3
  replace t47 := pk e28 t47
  replace t48 := pk e28 t48
  clear t50
  have t51 := pq e28 z27
  clear e28 z27
  refine qvI (v := .pointer (some ⟨g, 73 * i + 69 + nb true, none⟩)) (by simp [Region.wanted, yielded, pass4_ops, pass4_o29, pass4_o24, tget z28 (by decide) t47]) (exec_indexAt rfl t51 rfl (ix_a1 _ _)) (fun a29 e29 => ?_)
  rw [← e29] at h
  have z29 := pz e29 z28
  replace t2 := pk e29 t2
  replace t3 := pk e29 t3
  replace t47 := pk e29 t47
  replace t48 := pk e29 t48
  clear t51
  have t52 := pq e29 z28
  clear e29 z28
  refine qvI (v := .int .i64 (dn (gt L i) true : Int)) (by simp [Region.wanted, yielded, pass4_ops, pass4_o30, pass4_o24, tget z29 (by decide) t47]) (exec_load rfl t52 (R_dn hR hi true)) (fun a30 e30 => ?_)
  rw [← e30] at h
  have z30 := pz e30 z29
  replace t2 := pk e30 t2
  replace t3 := pk e30 t3
  replace t47 := pk e30 t47
  replace t48 := pk e30 t48
  clear t52
  have t53 := pq e30 z29
  clear e30 z29
  refine qvI (v := .int .i64 (nb c : Int)) (by simp [Region.wanted, yielded, pass4_ops, pass4_o31, pass4_o24, tget z30 (by decide) t47]) (exec_move rfl t2) (fun a31 e31 => ?_)
  rw [← e31] at h
  have z31 := pz e31 z30
  replace t3 := pk e31 t3
  replace t47 := pk e31 t47
  replace t48 := pk e31 t48
  replace t53 := pk e31 t53
  clear t2
  have t54 := pq e31 z30
  clear e31 z30
  refine qvI (v := .func (.yield l) #[] #[]) (by simp [Region.wanted, yielded, pass4_ops, pass4_o32, pass4_o24, tget z31 (by decide) t47]) (exec_move rfl t3) (fun a32 e32 => ?_)
  rw [← e32] at h
  have z32 := pz e32 z31
  replace t47 := pk e32 t47
  replace t48 := pk e32 t48
  replace t53 := pk e32 t53
  replace t54 := pk e32 t54
  clear t3
  have t55 := pq e32 z31
  clear e32 z31
  refine qcI (by simp [Region.wanted, yielded, pass4_ops, pass4_o33, pass4_o24, tget z32 (by decide) t47]) (by unfold pass4_o33; go_simp) (CP) (fun e x33 hx => ?_)
  obtain ⟨b, rfl, HF⟩ := hx
  replace h := h b
  refine ⟨_, rfl, fun a33 e33 => ?_⟩
  rw [← e33] at h
  have z33 := pz e33 z32
  clear t47 t48 t53 t54 t55
  clear e33 z32
  exact h _ _ (HF) rfl
set_option maxRecDepth 100000 in
set_option maxHeartbeats 4000000 in
theorem pass4y {rb ro g cap : Nat} {L : List Sp} {i l x n : Nat} (Fin : Bool → World → Prop) (a : Act) (w : World) (Q : Exit → Act → World → Prop) (hsz : a.tmps.size = 58)
    (t3 : a.tmps.getD 3 undef = .func (.yield l) #[] #[])
    (t9 : a.tmps.getD 9 undef = .pointer (some ⟨g, 73 * i, none⟩))
    (t32 : a.tmps.getD 32 undef = .bool true)
    (t36 : a.tmps.getD 36 undef = .int .i64 (x : Int))
    (hx : decide ((x : Int) = 0) = false) (hR : SqAt w rb ro g cap L) (hi : i < L.length) (CY : YieldAt Fence.wide (n - 1) Try.prog l #[KpV.v (gt L i).kp] w fun e w' => ∃ b, e = .returned (.bool b) ∧ Fin b w')
    (h : ∀ (b : Bool) (a' : Act) (w' : World), Fin b w' → a' = ((((((((a).put (some 37) (.bool false)).put (some 38) (.bool false)).put (some 39) (.func (.yield l) #[] #[])).put (some 40) (.pointer (some ⟨g, 73 * i, none⟩))).put (some 41) (.pointer (some ⟨g, 73 * i, none⟩))).put (some 42) (.pointer (some ⟨g, 73 * i + 0, none⟩))).put (some 43) (KpV.v (gt L i).kp)).put (some 44) (.bool b) → wpListIn Fence.wide n Try.prog pass4_ops Q [pass4_o22, pass4_o23, pass4_o24, pass4_o25, pass4_o26, pass4_o27, pass4_o28, pass4_o29, pass4_o30, pass4_o31, pass4_o32, pass4_o33, pass4_o34, pass4_o35] a' w') :
    wpListIn Fence.wide n Try.prog pass4_ops Q [pass4_o14, pass4_o15, pass4_o16, pass4_o17, pass4_o18, pass4_o19, pass4_o20, pass4_o21, pass4_o22, pass4_o23, pass4_o24, pass4_o25, pass4_o26, pass4_o27, pass4_o28, pass4_o29, pass4_o30, pass4_o31, pass4_o32, pass4_o33, pass4_o34, pass4_o35] a w := by
  refine qvI (v := .bool false) (by simp [Region.wanted, yielded, pass4_ops, pass4_o14, pass4_o9, tget hsz (by decide) t32]) (ex_eql rfl t36 rfl hx) (fun a14 e14 => ?_)
  rw [← e14] at h
  have z14 := pz e14 hsz
  replace t3 := pk e14 t3
  replace t9 := pk e14 t9
  replace t32 := pk e14 t32
  clear t36
  have t37 := pq e14 hsz
  clear e14 hsz
  refine qvI (v := .bool false) (by simp [Region.wanted, yielded, pass4_ops, pass4_o15, pass4_o9, tget z14 (by decide) t32]) (exec_move rfl t37) (fun a15 e15 => ?_)
  rw [← e15] at h
  have z15 := pz e15 z14
  replace t3 := pk e15 t3
  replace t9 := pk e15 t9
  clear t32 t37
  have t38 := pq e15 z14
  clear e15 z14
  refine qvI (v := .func (.yield l) #[] #[]) (by simp [Region.wanted, yielded, pass4_ops, pass4_o16, pass4_o15, tget z15 (by decide) t38]) (exec_move rfl t3) (fun a16 e16 => ?_)
  rw [← e16] at h
  have z16 := pz e16 z15
  replace t9 := pk e16 t9
  replace t38 := pk e16 t38
  clear t3
  have t39 := pq e16 z15
  clear e16 z15
  refine qvI (v := .pointer (some ⟨g, 73 * i, none⟩)) (by simp [Region.wanted, yielded, pass4_ops, pass4_o17, pass4_o15, tget z16 (by decide) t38]) (exec_move rfl t9) (fun a17 e17 => ?_)
  rw [← e17] at h
  have z17 := pz e17 z16
  replace t38 := pk e17 t38
  replace t39 := pk e17 t39
  clear t9
  have t40 := pq e17 z16
  clear e17 z16
  refine qvI (v := .pointer (some ⟨g, 73 * i, none⟩)) (by simp [Region.wanted, yielded, pass4_ops, pass4_o18, pass4_o15, tget z17 (by decide) t38]) (exec_nilCheck rfl t40) (fun a18 e18 => ?_)
  rw [← e18] at h
  have z18 := pz e18 z17
  replace t38 := pk e18 t38
  replace t39 := pk e18 t39
  clear t40
  have t41 := pq e18 z17
  clear e18 z17
  refine qvI (v := .pointer (some ⟨g, 73 * i + 0, none⟩)) (by simp [Region.wanted, yielded, pass4_ops, pass4_o19, pass4_o15, tget z18 (by decide) t38]) (exec_fieldAt rfl t41 (fg_113_0 _ _ _)) (fun a19 e19 => ?_)
  rw [← e19] at h
  have z19 := pz e19 z18
  replace t38 := pk e19 t38
  replace t39 := pk e19 t39
  clear t41
  have t42 := pq e19 z18
  clear e19 z18
  refine qvI (v := KpV.v (gt L i).kp) (by simp [Region.wanted, yielded, pass4_ops, pass4_o20, pass4_o15, tget z19 (by decide) t38]) (exec_load rfl t42 (R_kp hR hi)) (fun a20 e20 => ?_)
  rw [← e20] at h
  have z20 := pz e20 z19
  replace t38 := pk e20 t38
  replace t39 := pk e20 t39
  clear t42
  have t43 := pq e20 z19
  clear e20 z19
  refine qyI (by simp [Region.wanted, yielded, pass4_ops, pass4_o21, pass4_o15, tget z20 (by decide) t38]) (by unfold pass4_o21; go_simp) (CY) (fun e x21 hx => ?_)
  obtain ⟨b, rfl, HF⟩ := hx
  replace h := h b
  refine ⟨_, rfl, fun a21 e21 => ?_⟩
  rw [← e21] at h
  have z21 := pz e21 z20
  clear t38 t39 t43
  clear e21 z20
  exact h _ _ (HF) rfl
set_option maxRecDepth 100000 in
set_option maxHeartbeats 4000000 in
theorem pass4t {rb ro g cap : Nat} {L : List Sp} {i l n : Nat} {c : Bool} (Fin : Bool → World → Prop) (a : Act) (w : World) (Q : Exit → Act → World → Prop) (hsz : a.tmps.size = 58)
    (t0 : a.tmps.getD 0 undef = .pointer (some ⟨rb, ro, none⟩))
    (t2 : a.tmps.getD 2 undef = .int .i64 (nb c : Int))
    (t3 : a.tmps.getD 3 undef = .func (.yield l) #[] #[])
    (t9 : a.tmps.getD 9 undef = .pointer (some ⟨g, 73 * i, none⟩))
    (t32 : a.tmps.getD 32 undef = .bool true)
    (t38 : a.tmps.getD 38 undef = .bool false)
    (t44 : a.tmps.getD 44 undef = .bool true)
    (hR : SqAt w rb ro g cap L) (hi : i < L.length) (CP : Calls Try.prog 96 #[.pointer (some ⟨rb, ro, none⟩), .int .i64 (dn (gt L i) true : Int), .int .i64 (nb c : Int), .func (.yield l) #[] #[]] w fun e w' => ∃ b, e = .returned (.bool b) ∧ Fin b w')
    (h : ∀ (b : Bool) (a' : Act) (w' : World), Fin b w' → a' = ((((((((((((a).put (some 45) (.bool true)).put (some 46) (.bool true)).put (some 47) (.bool true)).put (some 48) (.pointer (some ⟨rb, ro, none⟩))).put (some 49) (.pointer (some ⟨g, 73 * i, none⟩))).put (some 50) (.pointer (some ⟨g, 73 * i, none⟩))).put (some 51) (.pointer (some ⟨g, 73 * i + 69, none⟩))).put (some 52) (.pointer (some ⟨g, 73 * i + 69 + nb true, none⟩))).put (some 53) (.int .i64 (dn (gt L i) true : Int))).put (some 54) (.int .i64 (nb c : Int))).put (some 55) (.func (.yield l) #[] #[])).put (some 56) (.bool b) → wpListIn Fence.wide n Try.prog pass4_ops Q [pass4_o34, pass4_o35] a' w') :
    wpListIn Fence.wide n Try.prog pass4_ops Q [pass4_o22, pass4_o23, pass4_o24, pass4_o25, pass4_o26, pass4_o27, pass4_o28, pass4_o29, pass4_o30, pass4_o31, pass4_o32, pass4_o33, pass4_o34, pass4_o35] a w := by
  refine qvI (v := .bool true) (by simp [Region.wanted, yielded, pass4_ops, pass4_o22, pass4_o9, tget hsz (by decide) t32]) (by unfold pass4_o22; go_simp) (fun a22 e22 => ?_)
  rw [← e22] at h
  have z22 := pz e22 hsz
  replace t0 := pk e22 t0
  replace t2 := pk e22 t2
  replace t3 := pk e22 t3
  replace t9 := pk e22 t9
  replace t32 := pk e22 t32
  clear t38 t44
  have t45 := pq e22 hsz
  clear e22 hsz
  refine qvI (v := .bool true) (by rfl) (by unfold pass4_o23; go_simp) (fun a23 e23 => ?_)
  rw [← e23] at h
  have z23 := pz e23 z22
  replace t0 := pk e23 t0
  replace t2 := pk e23 t2
  replace t3 := pk e23 t3
  replace t9 := pk e23 t9
  clear t32 t45
  have t46 := pq e23 z22
  clear e23 z22
  refine qvI (v := .bool true) (by rfl) (exec_move rfl t46) (fun a24 e24 => ?_)
  rw [← e24] at h
  have z24 := pz e24 z23
  replace t0 := pk e24 t0
  replace t2 := pk e24 t2
  replace t3 := pk e24 t3
  replace t9 := pk e24 t9
  clear t46
  have t47 := pq e24 z23
  clear e24 z23
  refine qvI (v := .pointer (some ⟨rb, ro, none⟩)) (by simp [Region.wanted, yielded, pass4_ops, pass4_o25, pass4_o24, tget z24 (by decide) t47]) (exec_move rfl t0) (fun a25 e25 => ?_)
  rw [← e25] at h
  have z25 := pz e25 z24
  replace t2 := pk e25 t2
  replace t3 := pk e25 t3
  replace t9 := pk e25 t9
  replace t47 := pk e25 t47
  clear t0
  have t48 := pq e25 z24
  clear e25 z24
  refine qvI (v := .pointer (some ⟨g, 73 * i, none⟩)) (by simp [Region.wanted, yielded, pass4_ops, pass4_o26, pass4_o24, tget z25 (by decide) t47]) (exec_move rfl t9) (fun a26 e26 => ?_)
  rw [← e26] at h
  have z26 := pz e26 z25
  replace t2 := pk e26 t2
  replace t3 := pk e26 t3
  replace t47 := pk e26 t47
  replace t48 := pk e26 t48
  clear t9
  have t49 := pq e26 z25
  clear e26 z25
  refine qvI (v := .pointer (some ⟨g, 73 * i, none⟩)) (by simp [Region.wanted, yielded, pass4_ops, pass4_o27, pass4_o24, tget z26 (by decide) t47]) (exec_nilCheck rfl t49) (fun a27 e27 => ?_)
  rw [← e27] at h
  have z27 := pz e27 z26
  replace t2 := pk e27 t2
  replace t3 := pk e27 t3
  replace t47 := pk e27 t47
  replace t48 := pk e27 t48
  clear t49
  have t50 := pq e27 z26
  clear e27 z26
  refine qvI (v := .pointer (some ⟨g, 73 * i + 69, none⟩)) (by simp [Region.wanted, yielded, pass4_ops, pass4_o28, pass4_o24, tget z27 (by decide) t47]) (exec_fieldAt rfl t50 (fg_113_3 _ _ _)) (fun a28 e28 => ?_)
  rw [← e28] at h
  have z28 := pz e28 z27
  replace t2 := pk e28 t2
  replace t3 := pk e28 t3
  replace t47 := pk e28 t47
  replace t48 := pk e28 t48
  clear t50
  have t51 := pq e28 z27
  clear e28 z27
  refine qvI (v := .pointer (some ⟨g, 73 * i + 69 + nb true, none⟩)) (by simp [Region.wanted, yielded, pass4_ops, pass4_o29, pass4_o24, tget z28 (by decide) t47]) (exec_indexAt rfl t51 rfl (ix_a1 _ _)) (fun a29 e29 => ?_)
  rw [← e29] at h
  have z29 := pz e29 z28
  replace t2 := pk e29 t2
  replace t3 := pk e29 t3
  replace t47 := pk e29 t47
  replace t48 := pk e29 t48
  clear t51
  have t52 := pq e29 z28
  clear e29 z28
  refine qvI (v := .int .i64 (dn (gt L i) true : Int)) (by simp [Region.wanted, yielded, pass4_ops, pass4_o30, pass4_o24, tget z29 (by decide) t47]) (exec_load rfl t52 (R_dn hR hi true)) (fun a30 e30 => ?_)
  rw [← e30] at h
  have z30 := pz e30 z29
  replace t2 := pk e30 t2
  replace t3 := pk e30 t3
  replace t47 := pk e30 t47
  replace t48 := pk e30 t48
  clear t52
  have t53 := pq e30 z29
  clear e30 z29
  refine qvI (v := .int .i64 (nb c : Int)) (by simp [Region.wanted, yielded, pass4_ops, pass4_o31, pass4_o24, tget z30 (by decide) t47]) (exec_move rfl t2) (fun a31 e31 => ?_)
  rw [← e31] at h
  have z31 := pz e31 z30
  replace t3 := pk e31 t3
  replace t47 := pk e31 t47
  replace t48 := pk e31 t48
  replace t53 := pk e31 t53
  clear t2
  have t54 := pq e31 z30
  clear e31 z30
  refine qvI (v := .func (.yield l) #[] #[]) (by simp [Region.wanted, yielded, pass4_ops, pass4_o32, pass4_o24, tget z31 (by decide) t47]) (exec_move rfl t3) (fun a32 e32 => ?_)
  rw [← e32] at h
  have z32 := pz e32 z31
  replace t47 := pk e32 t47
  replace t48 := pk e32 t48
  replace t53 := pk e32 t53
  replace t54 := pk e32 t54
  clear t3
  have t55 := pq e32 z31
  clear e32 z31
  refine qcI (by simp [Region.wanted, yielded, pass4_ops, pass4_o33, pass4_o24, tget z32 (by decide) t47]) (by unfold pass4_o33; go_simp) (CP) (fun e x33 hx => ?_)
  obtain ⟨b, rfl, HF⟩ := hx
  replace h := h b
  refine ⟨_, rfl, fun a33 e33 => ?_⟩
  rw [← e33] at h
  have z33 := pz e33 z32
  clear t47 t48 t53 t54 t55
  clear e33 z32
  exact h _ _ (HF) rfl
set_option maxRecDepth 100000 in
set_option maxHeartbeats 4000000 in
theorem pass4e {n : Nat} (a : Act) (w : World) (Q : Exit → Act → World → Prop) (hsz : a.tmps.size = 58)
    (t32 : a.tmps.getD 32 undef = .bool true)
    (t38 : a.tmps.getD 38 undef = .bool false)
    (t44 : a.tmps.getD 44 undef = .bool false)
    (h : ∀ (a' : Act) (w' : World), w' = w → a' = ((((((((((((((a).put (some 45) (.bool false)).put (some 46) (.bool false)).put (some 47) (.bool false)).put (some 48) (undef)).put (some 49) (undef)).put (some 50) (undef)).put (some 51) (undef)).put (some 52) (undef)).put (some 53) (undef)).put (some 54) (undef)).put (some 55) (undef)).put (some 56) (undef)).put (some 57) (.bool false)).put (some 8) (.bool false) → Q .normal a' w') :
    wpListIn Fence.wide n Try.prog pass4_ops Q [pass4_o22, pass4_o23, pass4_o24, pass4_o25, pass4_o26, pass4_o27, pass4_o28, pass4_o29, pass4_o30, pass4_o31, pass4_o32, pass4_o33, pass4_o34, pass4_o35] a w := by
  refine qvI (v := .bool false) (by simp [Region.wanted, yielded, pass4_ops, pass4_o22, pass4_o9, tget hsz (by decide) t32]) (by unfold pass4_o22; go_simp) (fun a22 e22 => ?_)
  rw [← e22] at h
  have z22 := pz e22 hsz
  replace t32 := pk e22 t32
  clear t38 t44
  have t45 := pq e22 hsz
  clear e22 hsz
  refine qvI (v := .bool false) (by rfl) (by unfold pass4_o23; go_simp) (fun a23 e23 => ?_)
  rw [← e23] at h
  have z23 := pz e23 z22
  clear t32 t45
  have t46 := pq e23 z22
  clear e23 z22
  refine qvI (v := .bool false) (by rfl) (exec_move rfl t46) (fun a24 e24 => ?_)
  rw [← e24] at h
  have z24 := pz e24 z23
  clear t46
  have t47 := pq e24 z23
  clear e24 z23
  refine qnI (by simp [Region.wanted, yielded, pass4_ops, pass4_o25, pass4_o24, tget z24 (by decide) t47]) (fun a25 e25 => ?_)
  rw [← e25] at h
  have z25 := pz e25 z24
  replace t47 := pk e25 t47
  have t48 := pq e25 z24
  clear e25 z24
  refine qnI (by simp [Region.wanted, yielded, pass4_ops, pass4_o26, pass4_o24, tget z25 (by decide) t47]) (fun a26 e26 => ?_)
  rw [← e26] at h
  have z26 := pz e26 z25
  replace t47 := pk e26 t47
  replace t48 := pk e26 t48
  have t49 := pq e26 z25
  clear e26 z25
  refine qnI (by simp [Region.wanted, yielded, pass4_ops, pass4_o27, pass4_o24, tget z26 (by decide) t47]) (fun a27 e27 => ?_)
  rw [← e27] at h
  have z27 := pz e27 z26
  replace t47 := pk e27 t47
  replace t48 := pk e27 t48
  clear t49
  have t50 := pq e27 z26
  clear e27 z26
  refine qnI (by simp [Region.wanted, yielded, pass4_ops, pass4_o28, pass4_o24, tget z27 (by decide) t47]) (fun a28 e28 => ?_)
  rw [← e28] at h
  have z28 := pz e28 z27
  replace t47 := pk e28 t47
  replace t48 := pk e28 t48
  clear t50
  have t51 := pq e28 z27
  clear e28 z27
  refine qnI (by simp [Region.wanted, yielded, pass4_ops, pass4_o29, pass4_o24, tget z28 (by decide) t47]) (fun a29 e29 => ?_)
  rw [← e29] at h
  have z29 := pz e29 z28
  replace t47 := pk e29 t47
  replace t48 := pk e29 t48
  clear t51
  have t52 := pq e29 z28
  clear e29 z28
  refine qnI (by simp [Region.wanted, yielded, pass4_ops, pass4_o30, pass4_o24, tget z29 (by decide) t47]) (fun a30 e30 => ?_)
  rw [← e30] at h
  have z30 := pz e30 z29
  replace t47 := pk e30 t47
  replace t48 := pk e30 t48
  clear t52
  have t53 := pq e30 z29
  clear e30 z29
  refine qnI (by simp [Region.wanted, yielded, pass4_ops, pass4_o31, pass4_o24, tget z30 (by decide) t47]) (fun a31 e31 => ?_)
  rw [← e31] at h
  have z31 := pz e31 z30
  replace t47 := pk e31 t47
  replace t48 := pk e31 t48
  replace t53 := pk e31 t53
  have t54 := pq e31 z30
  clear e31 z30
  refine qnI (by simp [Region.wanted, yielded, pass4_ops, pass4_o32, pass4_o24, tget z31 (by decide) t47]) (fun a32 e32 => ?_)
  rw [← e32] at h
  have z32 := pz e32 z31
  replace t47 := pk e32 t47
  replace t48 := pk e32 t48
  replace t53 := pk e32 t53
  replace t54 := pk e32 t54
  have t55 := pq e32 z31
  clear e32 z31
  refine qnI (by simp [Region.wanted, yielded, pass4_ops, pass4_o33, pass4_o24, tget z32 (by decide) t47]) (fun a33 e33 => ?_)
  rw [← e33] at h
  have z33 := pz e33 z32
  replace t47 := pk e33 t47
  clear t48 t53 t54 t55
  have t56 := pq e33 z32
  clear e33 z32
  refine qvI (v := .bool false) (by rfl) (by unfold pass4_o34; go_simp) (fun a34 e34 => ?_)
  rw [← e34] at h
  have z34 := pz e34 z33
  clear t47 t56
  have t57 := pq e34 z33
  clear e34 z33
  refine qvI (v := .bool false) (by rfl) (exec_assign rfl t57) (fun a35 e35 => ?_)
  rw [← e35] at h
  have z35 := pz e35 z34
  clear t57
  clear e35 z34
  exact wpListIn_nil (h _ _ (rfl) rfl)
set_option maxRecDepth 100000 in
set_option maxHeartbeats 4000000 in
theorem pass4z {b : Bool} {n : Nat} (a : Act) (w : World) (Q : Exit → Act → World → Prop) (hsz : a.tmps.size = 58)
    (t47 : a.tmps.getD 47 undef = .bool true)
    (t56 : a.tmps.getD 56 undef = .bool b)
    (h : ∀ (a' : Act) (w' : World), w' = w → a' = ((a).put (some 57) (.bool b)).put (some 8) (.bool b) → Q .normal a' w') :
    wpListIn Fence.wide n Try.prog pass4_ops Q [pass4_o34, pass4_o35] a w := by
  refine qvI (v := .bool b) (by rfl) (by unfold pass4_o34; go_simp) (fun a34 e34 => ?_)
  rw [← e34] at h
  have z34 := pz e34 hsz
  clear t47 t56
  have t57 := pq e34 hsz
  clear e34 hsz
  refine qvI (v := .bool b) (by rfl) (exec_assign rfl t57) (fun a35 e35 => ?_)
  rw [← e35] at h
  have z35 := pz e35 z34
  clear t57
  clear e35 z34
  exact wpListIn_nil (h _ _ (rfl) rfl)
def walk0_o0 : Oper := { dst := some 4, op := Op.load 114 (Operand.tmp 1), type := 114, pos := "row.go:251", after := #[], guard := none }
def walk0_o1 : Oper := { dst := some 5, op := Op.load 114 (Operand.tmp 1), type := 114, pos := "row.go:251", after := #[], guard := none }
def walk0_o2 : Oper := { dst := some 6, op := Op.call { callee := Callee.value (Operand.func 94), args := #[Operand.tmp 5], argTypes := #[114] }, type := 3, pos := "row.go:251", after := #[{ on := 1, ground := Ground.data }], guard := none }
def walk0_o3 : Oper := { dst := some 7, op := Op.load 3 (Operand.tmp 2), type := 3, pos := "row.go:251", after := #[], guard := none }
def walk0_o4 : Oper := { dst := some 8, op := Op.move (Operand.tmp 0), type := 176, pos := "row.go:251", after := #[], guard := none }
def walk0_o5 : Oper := { dst := some 9, op := Op.call { callee := Callee.value (Operand.func 96), args := #[Operand.tmp 4, Operand.tmp 6, Operand.tmp 7, Operand.tmp 8], argTypes := #[114, 3, 3, 176] }, type := 4, pos := "row.go:251", after := #[{ on := 0, ground := Ground.data }, { on := 2, ground := Ground.data }, { on := 3, ground := Ground.data }, { on := 4, ground := Ground.data }, { on := 2, ground := Ground.chain }], guard := none }
def walk0_ops : Array Oper := #[walk0_o0, walk0_o1, walk0_o2, walk0_o3, walk0_o4, walk0_o5]
set_option maxRecDepth 100000 in
set_option maxHeartbeats 4000000 in
theorem walk0 {rb ro b1 b2 l i : Nat} {c : Bool} (Fin : Bool → World → Prop) (a : Act) (w : World) (Q : Exit → Act → World → Prop) (zz : a.tmps.size = 10)
    (t0 : a.tmps.getD 0 undef = .func (.yield l) #[] #[])
    (t1 : a.tmps.getD 1 undef = .pointer (some ⟨b1, 0, none⟩))
    (t2 : a.tmps.getD 2 undef = .pointer (some ⟨b2, 0, none⟩))
    (h0 : WS b1 b2 rb ro c w.drew) (CR : Calls Try.prog 94 #[.pointer (some ⟨rb, ro, none⟩)] w.drew fun e w' => e = .returned (.int .i64 (i : Int)) ∧ WS b1 b2 rb ro c w' ∧ Calls Try.prog 96 #[.pointer (some ⟨rb, ro, none⟩), .int .i64 (i : Int), .int .i64 (nb c : Int), .func (.yield l) #[] #[]] w' fun e2 w2 => ∃ b, e2 = .returned (.bool b) ∧ Fin b w2)
    (h : ∀ (b : Bool) (a' : Act) (w' : World), Fin b w' → a' = ((((((a).put (some 4) (.pointer (some ⟨rb, ro, none⟩))).put (some 5) (.pointer (some ⟨rb, ro, none⟩))).put (some 7) (.int .i64 (nb c : Int))).put (some 8) (.func (.yield l) #[] #[])).put (some 6) (.int .i64 (i : Int))).put (some 9) (.bool b) → Q .normal a' w') :
    (Code.region 0 walk0_ops true).wp Try.prog Q a w := by
  refine x0 5 (fun w' => WS b1 b2 rb ro c w') (h0) (fun hHeld => ?_)
  refine xv 0 rfl rfl (fun w1 hw => exec_load rfl (zi t1 rfl) hw.1) hHeld ?_
  refine xv 1 rfl rfl (fun w1 hw => exec_load rfl (zi t1 rfl) hw.1) hHeld ?_
  refine xv 3 rfl rfl (fun w1 hw => exec_load rfl (zi t2 rfl) hw.2) hHeld ?_
  refine xv 4 rfl rfl (fun w1 hw => exec_move rfl (zi t0 rfl)) hHeld ?_
  refine xc 2 rfl rfl (exec_c1 rfl (zg zz rfl)) (CR) (fun e x2 hx => ?_)
  obtain ⟨rfl, S1, CP⟩ := hx
  refine ⟨_, rfl, fun _ => S1, fun hHeld => ?_⟩
  replace hHeld := hHeld (by decide)
  refine xc 5 rfl rfl (exec_c4 rfl (zg zz rfl) (zg zz rfl) (zg zz rfl) (zg zz rfl)) (CP) (fun e x5 hx => ?_)
  obtain ⟨b, rfl, HF⟩ := hx
  replace h := h b
  refine ⟨_, rfl, fun hne => absurd rfl hne, fun _ => ?_⟩
  exact xe rfl (h _ _ (HF) rfl)
end Go.Proofs.Ytlejbdepoemcjaa
