import Derived.Test.YtlejbdepoemcjaaZr
import Derived.Test.YtlejbdepoemcjaaXs
namespace Go.Proofs.Ytlejbdepoemcjaa
open Go.RowKit Sq
set_option linter.unusedVariables false
set_option linter.unusedSimpArgs false

def ahead1_o0 : Oper := { dst := some 9, op := Op.move (Operand.tmp 0), type := 114, pos := "row.go:220", after := #[], guard := none }
def ahead1_o1 : Oper := { dst := some 10, op := Op.move (Operand.tmp 1), type := 3, pos := "row.go:220", after := #[], guard := none }
def ahead1_o2 : Oper := { dst := some 11, op := Op.move (Operand.tmp 2), type := 3, pos := "row.go:220", after := #[], guard := none }
def ahead1_o3 : Oper := { dst := some 12, op := Op.call { callee := Callee.value (Operand.func 97), args := #[Operand.tmp 9, Operand.tmp 10, Operand.const (Value.int IntKind.i64 0), Operand.tmp 11], argTypes := #[114, 3, 3, 3] }, type := 3, pos := "row.go:220", after := #[{ on := 0, ground := Ground.data }, { on := 1, ground := Ground.data }, { on := 2, ground := Ground.data }], guard := none }
def ahead1_o4 : Oper := { dst := some 7, op := Op.assign (Operand.tmp 12), type := 3, pos := "row.go:220", after := #[{ on := 3, ground := Ground.data }, { on := 3, ground := Ground.chain }, { on := 0, ground := Ground.phase }, { on := 1, ground := Ground.phase }, { on := 2, ground := Ground.phase }, { on := 3, ground := Ground.phase }], guard := none }
def ahead1_ops : Array Oper := #[ahead1_o0, ahead1_o1, ahead1_o2, ahead1_o3, ahead1_o4]
set_option maxRecDepth 100000 in
set_option maxHeartbeats 4000000 in
theorem ahead1 {rb ro i u : Nat} {c : Bool} (Fin : World → Prop) (a : Act) (w : World) (Q : Exit → Act → World → Prop) (zz : a.tmps.size = 43)
    (t0 : a.tmps.getD 0 undef = .pointer (some ⟨rb, ro, none⟩))
    (t1 : a.tmps.getD 1 undef = .int .i64 (i : Int))
    (t2 : a.tmps.getD 2 undef = .int .i64 (nb c : Int))
    (CU : Calls Try.prog 97 #[.pointer (some ⟨rb, ro, none⟩), .int .i64 (i : Int), .int .i64 0, .int .i64 (nb c : Int)] w fun e w' => e = .returned (.int .i64 (u : Int)) ∧ Fin w')
    (h : ∀ (a' : Act) (w' : World), Fin w' → a' = (((((a).put (some 9) (.pointer (some ⟨rb, ro, none⟩))).put (some 10) (.int .i64 (i : Int))).put (some 11) (.int .i64 (nb c : Int))).put (some 12) (.int .i64 (u : Int))).put (some 7) (.int .i64 (u : Int)) → Q .normal a' w') :
    (Code.region 1 ahead1_ops false).wp Try.prog Q a w := by
  refine z0 rfl ?_
  refine zv rfl (exec_move rfl (zi t0 rfl)) ?_
  refine zv rfl (exec_move rfl (zi t1 rfl)) ?_
  refine zv rfl (exec_move rfl (zi t2 rfl)) ?_
  refine zc rfl (exec_c4 rfl (zg zz rfl) (zg zz rfl) rfl (zg zz rfl)) (CU) (fun e x3 hx => ?_)
  obtain ⟨rfl, HF⟩ := hx
  refine ⟨_, rfl, ?_⟩
  refine zv rfl (exec_assign rfl (zg zz rfl)) ?_
  exact ze rfl (h _ _ (HF) rfl)
def ahead2_o0 : Oper := { dst := some 13, op := Op.move (Operand.tmp 0), type := 114, pos := "row.go:221", after := #[], guard := none }
def ahead2_o1 : Oper := { dst := some 14, op := Op.nilCheck (Operand.tmp 13), type := 0, pos := "row.go:221", after := #[{ on := 0, ground := Ground.data }], guard := none }
def ahead2_o2 : Oper := { dst := some 15, op := Op.fieldAddr 87 (Operand.tmp 14) 0, type := 0, pos := "row.go:221", after := #[{ on := 1, ground := Ground.data }], guard := none }
def ahead2_o3 : Oper := { dst := some 16, op := Op.load 85 (Operand.tmp 15), type := 85, pos := "row.go:221", after := #[{ on := 2, ground := Ground.data }], guard := none }
def ahead2_o4 : Oper := { dst := some 17, op := Op.move (Operand.tmp 1), type := 3, pos := "row.go:221", after := #[], guard := none }
def ahead2_o5 : Oper := { dst := some 18, op := Op.indexAddr 85 (Operand.tmp 16) (Operand.tmp 17), type := 0, pos := "row.go:221", after := #[{ on := 3, ground := Ground.data }, { on := 4, ground := Ground.data }], guard := none }
def ahead2_o6 : Oper := { dst := some 19, op := Op.fieldAddr 113 (Operand.tmp 18) 2, type := 0, pos := "row.go:221", after := #[{ on := 5, ground := Ground.data }], guard := none }
def ahead2_o7 : Oper := { dst := some 20, op := Op.load 3 (Operand.tmp 19), type := 3, pos := "row.go:221", after := #[{ on := 6, ground := Ground.data }], guard := none }
def ahead2_o8 : Oper := { dst := some 8, op := Op.assign (Operand.tmp 20), type := 3, pos := "row.go:221", after := #[{ on := 7, ground := Ground.data }, { on := 0, ground := Ground.phase }, { on := 1, ground := Ground.phase }, { on := 2, ground := Ground.phase }, { on := 3, ground := Ground.phase }, { on := 4, ground := Ground.phase }, { on := 5, ground := Ground.phase }, { on := 6, ground := Ground.phase }, { on := 7, ground := Ground.phase }], guard := none }
def ahead2_ops : Array Oper := #[ahead2_o0, ahead2_o1, ahead2_o2, ahead2_o3, ahead2_o4, ahead2_o5, ahead2_o6, ahead2_o7, ahead2_o8]
set_option maxRecDepth 100000 in
set_option maxHeartbeats 4000000 in
theorem ahead2 {rb ro g cap : Nat} {L : List Sp} {i : Nat} (a : Act) (w : World) (Q : Exit → Act → World → Prop) (zz : a.tmps.size = 43)
    (t0 : a.tmps.getD 0 undef = .pointer (some ⟨rb, ro, none⟩))
    (t1 : a.tmps.getD 1 undef = .int .i64 (i : Int))
    (hR : SqAt w rb ro g cap L) (hi : i < L.length)
    (h : ∀ (a' : Act) (w' : World), w' = w → a' = (((((((((a).put (some 13) (.pointer (some ⟨rb, ro, none⟩))).put (some 14) (.pointer (some ⟨rb, ro, none⟩))).put (some 15) (.pointer (some ⟨rb, ro + 0, none⟩))).put (some 16) (.slice (some ⟨g, 0, none⟩) (L).length cap)).put (some 17) (.int .i64 (i : Int))).put (some 18) (.pointer (some ⟨g, 73 * i, none⟩))).put (some 19) (.pointer (some ⟨g, 73 * i + 68, none⟩))).put (some 20) (.int .i64 ((gt L i).up : Int))).put (some 8) (.int .i64 ((gt L i).up : Int)) → Q .normal a' w') :
    (Code.region 2 ahead2_ops false).wp Try.prog Q a w := by
  refine z0 rfl ?_
  refine zv rfl (exec_move rfl (zi t0 rfl)) ?_
  refine zv rfl (exec_nilCheck rfl (zg zz rfl)) ?_
  refine zv rfl (exec_fieldAt rfl (zg zz rfl) (fg_87_0 _ _ _)) ?_
  refine zv rfl (exec_load rfl (zg zz rfl) (R_sl hR)) ?_
  refine zv rfl (exec_move rfl (zi t1 rfl)) ?_
  refine zv rfl (exec_indexAt rfl (zg zz rfl) (zg zz rfl) (R_ix hi hR.len _)) ?_
  refine zv rfl (exec_fieldAt rfl (zg zz rfl) (fg_113_2 _ _ _)) ?_
  refine zv rfl (exec_load rfl (zg zz rfl) (R_up hR hi)) ?_
  refine zv rfl (exec_assign rfl (zg zz rfl)) ?_
  exact ze rfl (h _ _ (rfl) rfl)
def ahead4_o0 : Oper := { dst := some 23, op := Op.move (Operand.tmp 0), type := 114, pos := "row.go:221", after := #[], guard := none }
def ahead4_o1 : Oper := { dst := some 24, op := Op.nilCheck (Operand.tmp 23), type := 0, pos := "row.go:221", after := #[{ on := 0, ground := Ground.data }], guard := none }
def ahead4_o2 : Oper := { dst := some 25, op := Op.fieldAddr 87 (Operand.tmp 24) 0, type := 0, pos := "row.go:221", after := #[{ on := 1, ground := Ground.data }], guard := none }
def ahead4_o3 : Oper := { dst := some 26, op := Op.load 85 (Operand.tmp 25), type := 85, pos := "row.go:221", after := #[{ on := 2, ground := Ground.data }], guard := none }
def ahead4_o4 : Oper := { dst := some 27, op := Op.move (Operand.tmp 1), type := 3, pos := "row.go:221", after := #[], guard := none }
def ahead4_o5 : Oper := { dst := some 28, op := Op.indexAddr 85 (Operand.tmp 26) (Operand.tmp 27), type := 0, pos := "row.go:221", after := #[{ on := 3, ground := Ground.data }, { on := 4, ground := Ground.data }], guard := none }
def ahead4_o6 : Oper := { dst := some 29, op := Op.fieldAddr 113 (Operand.tmp 28) 2, type := 0, pos := "row.go:221", after := #[{ on := 5, ground := Ground.data }], guard := none }
def ahead4_o7 : Oper := { dst := some 30, op := Op.load 3 (Operand.tmp 29), type := 3, pos := "row.go:221", after := #[{ on := 6, ground := Ground.data }], guard := none }
def ahead4_o8 : Oper := { dst := some 8, op := Op.assign (Operand.tmp 30), type := 3, pos := "row.go:221", after := #[{ on := 7, ground := Ground.data }, { on := 0, ground := Ground.phase }, { on := 1, ground := Ground.phase }, { on := 2, ground := Ground.phase }, { on := 3, ground := Ground.phase }, { on := 4, ground := Ground.phase }, { on := 5, ground := Ground.phase }, { on := 6, ground := Ground.phase }, { on := 7, ground := Ground.phase }], guard := none }
def ahead4_ops : Array Oper := #[ahead4_o0, ahead4_o1, ahead4_o2, ahead4_o3, ahead4_o4, ahead4_o5, ahead4_o6, ahead4_o7, ahead4_o8]
set_option maxRecDepth 100000 in
set_option maxHeartbeats 4000000 in
theorem ahead4 {rb ro g cap : Nat} {L : List Sp} {i : Nat} (a : Act) (w : World) (Q : Exit → Act → World → Prop) (zz : a.tmps.size = 43)
    (t0 : a.tmps.getD 0 undef = .pointer (some ⟨rb, ro, none⟩))
    (t1 : a.tmps.getD 1 undef = .int .i64 (i : Int))
    (hR : SqAt w rb ro g cap L) (hi : i < L.length)
    (h : ∀ (a' : Act) (w' : World), w' = w → a' = (((((((((a).put (some 23) (.pointer (some ⟨rb, ro, none⟩))).put (some 24) (.pointer (some ⟨rb, ro, none⟩))).put (some 25) (.pointer (some ⟨rb, ro + 0, none⟩))).put (some 26) (.slice (some ⟨g, 0, none⟩) (L).length cap)).put (some 27) (.int .i64 (i : Int))).put (some 28) (.pointer (some ⟨g, 73 * i, none⟩))).put (some 29) (.pointer (some ⟨g, 73 * i + 68, none⟩))).put (some 30) (.int .i64 ((gt L i).up : Int))).put (some 8) (.int .i64 ((gt L i).up : Int)) → Q .normal a' w') :
    (Code.region 4 ahead4_ops false).wp Try.prog Q a w := by
  refine z0 rfl ?_
  refine zv rfl (exec_move rfl (zi t0 rfl)) ?_
  refine zv rfl (exec_nilCheck rfl (zg zz rfl)) ?_
  refine zv rfl (exec_fieldAt rfl (zg zz rfl) (fg_87_0 _ _ _)) ?_
  refine zv rfl (exec_load rfl (zg zz rfl) (R_sl hR)) ?_
  refine zv rfl (exec_move rfl (zi t1 rfl)) ?_
  refine zv rfl (exec_indexAt rfl (zg zz rfl) (zg zz rfl) (R_ix hi hR.len _)) ?_
  refine zv rfl (exec_fieldAt rfl (zg zz rfl) (fg_113_2 _ _ _)) ?_
  refine zv rfl (exec_load rfl (zg zz rfl) (R_up hR hi)) ?_
  refine zv rfl (exec_assign rfl (zg zz rfl)) ?_
  exact ze rfl (h _ _ (rfl) rfl)
def ahead5_o0 : Oper := { dst := some 31, op := Op.move (Operand.tmp 0), type := 114, pos := "row.go:222", after := #[], guard := none }
def ahead5_o1 : Oper := { dst := some 32, op := Op.move (Operand.tmp 1), type := 3, pos := "row.go:222", after := #[], guard := none }
def ahead5_o2 : Oper := { dst := some 33, op := Op.call { callee := Callee.value (Operand.func 92), args := #[Operand.tmp 31, Operand.tmp 32], argTypes := #[114, 3] }, type := 3, pos := "row.go:222", after := #[{ on := 0, ground := Ground.data }, { on := 1, ground := Ground.data }], guard := none }
def ahead5_o3 : Oper := { dst := some 34, op := Op.binOp BinOp.eql 3 (Operand.tmp 33) (Operand.const (Value.int IntKind.i64 1)) 3, type := 4, pos := "row.go:222", after := #[{ on := 2, ground := Ground.data }], guard := none }
def ahead5_ops : Array Oper := #[ahead5_o0, ahead5_o1, ahead5_o2, ahead5_o3]
set_option maxRecDepth 100000 in
set_option maxHeartbeats 4000000 in
theorem ahead5 {rb ro i : Nat} {s : Bool} (Fin : World → Prop) (a : Act) (w : World) (Q : Exit → Act → World → Prop) (zz : a.tmps.size = 43)
    (t0 : a.tmps.getD 0 undef = .pointer (some ⟨rb, ro, none⟩))
    (t1 : a.tmps.getD 1 undef = .int .i64 (i : Int))
    (hs : decide ((nb s : Int) = 1) = s) (CS : Calls Try.prog 92 #[.pointer (some ⟨rb, ro, none⟩), .int .i64 (i : Int)] w fun e w' => e = .returned (.int .i64 (nb s : Int)) ∧ Fin w')
    (h : ∀ (a' : Act) (w' : World), Fin w' → a' = ((((a).put (some 31) (.pointer (some ⟨rb, ro, none⟩))).put (some 32) (.int .i64 (i : Int))).put (some 33) (.int .i64 (nb s : Int))).put (some 34) (.bool s) → Q .normal a' w') :
    (Code.region 5 ahead5_ops false).wp Try.prog Q a w := by
  refine z0 rfl ?_
  refine zv rfl (exec_move rfl (zi t0 rfl)) ?_
  refine zv rfl (exec_move rfl (zi t1 rfl)) ?_
  refine zc rfl (exec_c2 rfl (zg zz rfl) (zg zz rfl)) (CS) (fun e x2 hx => ?_)
  obtain ⟨rfl, HF⟩ := hx
  refine ⟨_, rfl, ?_⟩
  refine zv (v := .bool s) rfl (ex_eql rfl (zg zz rfl) rfl hs) ?_
  exact ze rfl (h _ _ (HF) rfl)
def ahead6_o0 : Oper := { dst := some 35, op := Op.move (Operand.tmp 7), type := 3, pos := "row.go:223", after := #[], guard := none }
def ahead6_o1 : Oper := { dst := some 36, op := Op.move (Operand.tmp 0), type := 114, pos := "row.go:223", after := #[], guard := none }
def ahead6_o2 : Oper := { dst := some 37, op := Op.move (Operand.tmp 8), type := 3, pos := "row.go:223", after := #[], guard := none }
def ahead6_o3 : Oper := { dst := some 38, op := Op.move (Operand.tmp 2), type := 3, pos := "row.go:223", after := #[], guard := none }
def ahead6_o4 : Oper := { dst := some 39, op := Op.call { callee := Callee.value (Operand.func 98), args := #[Operand.tmp 36, Operand.tmp 37, Operand.tmp 38], argTypes := #[114, 3, 3] }, type := 3, pos := "row.go:223", after := #[{ on := 1, ground := Ground.data }, { on := 2, ground := Ground.data }, { on := 3, ground := Ground.data }], guard := none }
def ahead6_o5 : Oper := { dst := some 40, op := Op.binOp BinOp.add 3 (Operand.tmp 35) (Operand.tmp 39) 3, type := 3, pos := "row.go:223", after := #[{ on := 0, ground := Ground.data }, { on := 4, ground := Ground.data }], guard := none }
def ahead6_o6 : Oper := { dst := some 7, op := Op.assign (Operand.tmp 40), type := 3, pos := "row.go:223", after := #[{ on := 5, ground := Ground.data }, { on := 4, ground := Ground.chain }, { on := 0, ground := Ground.phase }, { on := 1, ground := Ground.phase }, { on := 2, ground := Ground.phase }, { on := 3, ground := Ground.phase }, { on := 4, ground := Ground.phase }, { on := 5, ground := Ground.phase }], guard := none }
def ahead6_ops : Array Oper := #[ahead6_o0, ahead6_o1, ahead6_o2, ahead6_o3, ahead6_o4, ahead6_o5, ahead6_o6]
set_option maxRecDepth 100000 in
set_option maxHeartbeats 4000000 in
theorem ahead6 {rb ro n u x : Nat} {c : Bool} (Fin : World → Prop) (a : Act) (w : World) (Q : Exit → Act → World → Prop) (zz : a.tmps.size = 43)
    (t0 : a.tmps.getD 0 undef = .pointer (some ⟨rb, ro, none⟩))
    (t2 : a.tmps.getD 2 undef = .int .i64 (nb c : Int))
    (t7 : a.tmps.getD 7 undef = .int .i64 (n : Int))
    (t8 : a.tmps.getD 8 undef = .int .i64 (u : Int))
    (hs : n + x ≤ 9223372036854775807) (CU : Calls Try.prog 98 #[.pointer (some ⟨rb, ro, none⟩), .int .i64 (u : Int), .int .i64 (nb c : Int)] w fun e w' => e = .returned (.int .i64 (x : Int)) ∧ Fin w')
    (h : ∀ (a' : Act) (w' : World), Fin w' → a' = (((((((a).put (some 35) (.int .i64 (n : Int))).put (some 36) (.pointer (some ⟨rb, ro, none⟩))).put (some 37) (.int .i64 (u : Int))).put (some 38) (.int .i64 (nb c : Int))).put (some 39) (.int .i64 (x : Int))).put (some 40) (.int .i64 ((n + x : Nat) : Int))).put (some 7) (.int .i64 ((n + x : Nat) : Int)) → Q .normal a' w') :
    (Code.region 6 ahead6_ops false).wp Try.prog Q a w := by
  refine z0 rfl ?_
  refine zv rfl (exec_move rfl (zi t7 rfl)) ?_
  refine zv rfl (exec_move rfl (zi t0 rfl)) ?_
  refine zv rfl (exec_move rfl (zi t8 rfl)) ?_
  refine zv rfl (exec_move rfl (zi t2 rfl)) ?_
  refine zc rfl (exec_c3 rfl (zg zz rfl) (zg zz rfl) (zg zz rfl)) (CU) (fun e x4 hx => ?_)
  obtain ⟨rfl, HF⟩ := hx
  refine ⟨_, rfl, ?_⟩
  refine zv (v := .int .i64 ((n + x : Nat) : Int)) rfl (ex_addN rfl (zg zz rfl) (zg zz rfl) hs) ?_
  refine zv rfl (exec_assign rfl (zg zz rfl)) ?_
  exact ze rfl (h _ _ (HF) rfl)
def find3_o0 : Oper := { dst := some 14, op := Op.move (Operand.tmp 0), type := 114, pos := "row.go:234", after := #[], guard := none }
def find3_o1 : Oper := { dst := some 15, op := Op.move (Operand.tmp 7), type := 3, pos := "row.go:234", after := #[], guard := none }
def find3_o2 : Oper := { dst := some 16, op := Op.move (Operand.tmp 2), type := 3, pos := "row.go:234", after := #[], guard := none }
def find3_o3 : Oper := { dst := some 17, op := Op.call { callee := Callee.value (Operand.func 97), args := #[Operand.tmp 14, Operand.tmp 15, Operand.const (Value.int IntKind.i64 0), Operand.tmp 16], argTypes := #[114, 3, 3, 3] }, type := 3, pos := "row.go:234", after := #[{ on := 0, ground := Ground.data }, { on := 1, ground := Ground.data }, { on := 2, ground := Ground.data }], guard := none }
def find3_o4 : Oper := { dst := some 18, op := Op.move (Operand.tmp 0), type := 114, pos := "row.go:234", after := #[], guard := none }
def find3_o5 : Oper := { dst := some 19, op := Op.move (Operand.tmp 7), type := 3, pos := "row.go:234", after := #[], guard := none }
def find3_o6 : Oper := { dst := some 20, op := Op.move (Operand.tmp 2), type := 3, pos := "row.go:234", after := #[], guard := none }
def find3_o7 : Oper := { dst := some 21, op := Op.call { callee := Callee.value (Operand.func 98), args := #[Operand.tmp 18, Operand.tmp 19, Operand.tmp 20], argTypes := #[114, 3, 3] }, type := 3, pos := "row.go:234", after := #[{ on := 4, ground := Ground.data }, { on := 5, ground := Ground.data }, { on := 6, ground := Ground.data }, { on := 3, ground := Ground.chain }], guard := none }
def find3_o8 : Oper := { dst := some 8, op := Op.assign (Operand.tmp 17), type := 3, pos := "row.go:234", after := #[{ on := 3, ground := Ground.data }, { on := 7, ground := Ground.chain }, { on := 0, ground := Ground.phase }, { on := 1, ground := Ground.phase }, { on := 2, ground := Ground.phase }, { on := 3, ground := Ground.phase }, { on := 4, ground := Ground.textOnly Departure.lateStores }, { on := 5, ground := Ground.textOnly Departure.lateStores }, { on := 6, ground := Ground.textOnly Departure.lateStores }, { on := 7, ground := Ground.textOnly Departure.lateStoresUnsure }], guard := none }
def find3_o9 : Oper := { dst := some 9, op := Op.assign (Operand.tmp 21), type := 3, pos := "row.go:234", after := #[{ on := 7, ground := Ground.data }, { on := 8, ground := Ground.chain }, { on := 0, ground := Ground.phase }, { on := 1, ground := Ground.phase }, { on := 2, ground := Ground.phase }, { on := 3, ground := Ground.phase }, { on := 4, ground := Ground.phase }, { on := 5, ground := Ground.phase }, { on := 6, ground := Ground.phase }, { on := 7, ground := Ground.phase }, { on := 8, ground := Ground.phase }], guard := none }
def find3_ops : Array Oper := #[find3_o0, find3_o1, find3_o2, find3_o3, find3_o4, find3_o5, find3_o6, find3_o7, find3_o8, find3_o9]
set_option maxRecDepth 100000 in
set_option maxHeartbeats 4000000 in
theorem find3 {rb ro i u x : Nat} {c : Bool} (Fin : World → Prop) (a : Act) (w : World) (Q : Exit → Act → World → Prop) (zz : a.tmps.size = 52)
    (t0 : a.tmps.getD 0 undef = .pointer (some ⟨rb, ro, none⟩))
    (t2 : a.tmps.getD 2 undef = .int .i64 (nb c : Int))
    (t7 : a.tmps.getD 7 undef = .int .i64 (i : Int))
    (CU : Calls Try.prog 97 #[.pointer (some ⟨rb, ro, none⟩), .int .i64 (i : Int), .int .i64 0, .int .i64 (nb c : Int)] w fun e w' => e = .returned (.int .i64 (u : Int)) ∧ Calls Try.prog 98 #[.pointer (some ⟨rb, ro, none⟩), .int .i64 (i : Int), .int .i64 (nb c : Int)] w' fun e2 w2 => e2 = .returned (.int .i64 (x : Int)) ∧ Fin w2)
    (h : ∀ (a' : Act) (w' : World), Fin w' → a' = ((((((((((a).put (some 14) (.pointer (some ⟨rb, ro, none⟩))).put (some 15) (.int .i64 (i : Int))).put (some 16) (.int .i64 (nb c : Int))).put (some 17) (.int .i64 (u : Int))).put (some 18) (.pointer (some ⟨rb, ro, none⟩))).put (some 19) (.int .i64 (i : Int))).put (some 20) (.int .i64 (nb c : Int))).put (some 21) (.int .i64 (x : Int))).put (some 8) (.int .i64 (u : Int))).put (some 9) (.int .i64 (x : Int)) → Q .normal a' w') :
    (Code.region 3 find3_ops false).wp Try.prog Q a w := by
  refine z0 rfl ?_
  refine zv rfl (exec_move rfl (zi t0 rfl)) ?_
  refine zv rfl (exec_move rfl (zi t7 rfl)) ?_
  refine zv rfl (exec_move rfl (zi t2 rfl)) ?_
  refine zc rfl (exec_c4 rfl (zg zz rfl) (zg zz rfl) rfl (zg zz rfl)) (CU) (fun e x3 hx => ?_)
  obtain ⟨rfl, CO⟩ := hx
  refine ⟨_, rfl, ?_⟩
  refine zv rfl (exec_move rfl (zi t0 rfl)) ?_
  refine zv rfl (exec_move rfl (zi t7 rfl)) ?_
  refine zv rfl (exec_move rfl (zi t2 rfl)) ?_
  refine zc rfl (exec_c3 rfl (zg zz rfl) (zg zz rfl) (zg zz rfl)) (CO) (fun e x7 hx => ?_)
  obtain ⟨rfl, HF⟩ := hx
  refine ⟨_, rfl, ?_⟩
  refine zv rfl (exec_assign rfl (zg zz rfl)) ?_
  refine zv rfl (exec_assign rfl (zg zz rfl)) ?_
  exact ze rfl (h _ _ (HF) rfl)
def find6_o0 : Oper := { dst := some 35, op := Op.move (Operand.tmp 1), type := 3, pos := "row.go:236", after := #[], guard := none }
def find6_o1 : Oper := { dst := some 36, op := Op.move (Operand.tmp 8), type := 3, pos := "row.go:236", after := #[], guard := none }
def find6_o2 : Oper := { dst := some 37, op := Op.binOp BinOp.lss 3 (Operand.tmp 35) (Operand.tmp 36) 3, type := 4, pos := "row.go:236", after := #[{ on := 0, ground := Ground.data }, { on := 1, ground := Ground.data }], guard := none }
def find6_o3 : Oper := { dst := some 34, op := Op.assign (Operand.tmp 37), type := 4, pos := "row.go:236", after := #[{ on := 2, ground := Ground.data }], guard := none }
def find6_ops : Array Oper := #[find6_o0, find6_o1, find6_o2, find6_o3]
set_option maxRecDepth 100000 in
set_option maxHeartbeats 4000000 in
theorem find6 {k : Int} {u : Nat} {r : Bool} (a : Act) (w : World) (Q : Exit → Act → World → Prop) (zz : a.tmps.size = 52)
    (t1 : a.tmps.getD 1 undef = .int .i64 k)
    (t8 : a.tmps.getD 8 undef = .int .i64 (u : Int))
    (hr : decide (k < (u : Int)) = r)
    (h : ∀ (a' : Act) (w' : World), w' = w → a' = ((((a).put (some 35) (.int .i64 k)).put (some 36) (.int .i64 (u : Int))).put (some 37) (.bool r)).put (some 34) (.bool r) → Q .normal a' w') :
    (Code.region 6 find6_ops false).wp Try.prog Q a w := by
  refine z0 rfl ?_
  refine zv rfl (exec_move rfl (zi t1 rfl)) ?_
  refine zv rfl (exec_move rfl (zi t8 rfl)) ?_
  refine zv (v := .bool r) rfl (ex_lss rfl (zg zz rfl) (zg zz rfl) hr) ?_
  refine zv rfl (exec_assign rfl (zg zz rfl)) ?_
  exact ze rfl (h _ _ (rfl) rfl)
def find8_o0 : Oper := { dst := some 48, op := Op.move (Operand.tmp 1), type := 3, pos := "row.go:238", after := #[], guard := none }
def find8_o1 : Oper := { dst := some 49, op := Op.move (Operand.tmp 9), type := 3, pos := "row.go:238", after := #[], guard := none }
def find8_o2 : Oper := { dst := some 50, op := Op.binOp BinOp.lss 3 (Operand.tmp 48) (Operand.tmp 49) 3, type := 4, pos := "row.go:238", after := #[{ on := 0, ground := Ground.data }, { on := 1, ground := Ground.data }], guard := none }
def find8_o3 : Oper := { dst := some 47, op := Op.assign (Operand.tmp 50), type := 4, pos := "row.go:238", after := #[{ on := 2, ground := Ground.data }], guard := none }
def find8_ops : Array Oper := #[find8_o0, find8_o1, find8_o2, find8_o3]
set_option maxRecDepth 100000 in
set_option maxHeartbeats 4000000 in
theorem find8 {k : Int} {x : Nat} {r : Bool} (a : Act) (w : World) (Q : Exit → Act → World → Prop) (zz : a.tmps.size = 52)
    (t1 : a.tmps.getD 1 undef = .int .i64 k)
    (t9 : a.tmps.getD 9 undef = .int .i64 (x : Int))
    (hr : decide (k < (x : Int)) = r)
    (h : ∀ (a' : Act) (w' : World), w' = w → a' = ((((a).put (some 48) (.int .i64 k)).put (some 49) (.int .i64 (x : Int))).put (some 50) (.bool r)).put (some 47) (.bool r) → Q .normal a' w') :
    (Code.region 8 find8_ops false).wp Try.prog Q a w := by
  refine z0 rfl ?_
  refine zv rfl (exec_move rfl (zi t1 rfl)) ?_
  refine zv rfl (exec_move rfl (zi t9 rfl)) ?_
  refine zv (v := .bool r) rfl (ex_lss rfl (zg zz rfl) (zg zz rfl) hr) ?_
  refine zv rfl (exec_assign rfl (zg zz rfl)) ?_
  exact ze rfl (h _ _ (rfl) rfl)
def find4_o0 : Oper := { dst := some 22, op := Op.move (Operand.tmp 1), type := 3, pos := "row.go:241", after := #[], guard := none }
def find4_o1 : Oper := { dst := some 23, op := Op.move (Operand.tmp 9), type := 3, pos := "row.go:241", after := #[], guard := none }
def find4_o2 : Oper := { dst := some 24, op := Op.binOp BinOp.sub 3 (Operand.tmp 22) (Operand.tmp 23) 3, type := 3, pos := "row.go:241", after := #[{ on := 0, ground := Ground.data }, { on := 1, ground := Ground.data }], guard := none }
def find4_o3 : Oper := { dst := some 1, op := Op.assign (Operand.tmp 24), type := 3, pos := "row.go:241", after := #[{ on := 2, ground := Ground.data }, { on := 0, ground := Ground.phase }, { on := 1, ground := Ground.phase }, { on := 2, ground := Ground.phase }], guard := none }
def find4_ops : Array Oper := #[find4_o0, find4_o1, find4_o2, find4_o3]
set_option maxRecDepth 100000 in
set_option maxHeartbeats 4000000 in
theorem find4 {k : Int} {x : Nat} (a : Act) (w : World) (Q : Exit → Act → World → Prop) (zz : a.tmps.size = 52)
    (t1 : a.tmps.getD 1 undef = .int .i64 k)
    (t9 : a.tmps.getD 9 undef = .int .i64 (x : Int))
    (hs : -9223372036854775808 ≤ k - (x : Int) ∧ k - (x : Int) ≤ 9223372036854775807)
    (h : ∀ (a' : Act) (w' : World), w' = w → a' = ((((a).put (some 22) (.int .i64 k)).put (some 23) (.int .i64 (x : Int))).put (some 24) (.int .i64 (k - (x : Int)))).put (some 1) (.int .i64 (k - (x : Int))) → Q .normal a' w') :
    (Code.region 4 find4_ops false).wp Try.prog Q a w := by
  refine z0 rfl ?_
  refine zv rfl (exec_move rfl (zi t1 rfl)) ?_
  refine zv rfl (exec_move rfl (zi t9 rfl)) ?_
  refine zv (v := .int .i64 (k - (x : Int))) rfl (ex_sub rfl (zg zz rfl) (zg zz rfl) hs) ?_
  refine zv rfl (exec_assign rfl (zg zz rfl)) ?_
  exact ze rfl (h _ _ (rfl) rfl)
def find7_o0 : Oper := { dst := some 38, op := Op.move (Operand.tmp 0), type := 114, pos := "row.go:237", after := #[], guard := none }
def find7_o1 : Oper := { dst := some 39, op := Op.nilCheck (Operand.tmp 38), type := 0, pos := "row.go:237", after := #[{ on := 0, ground := Ground.data }], guard := none }
def find7_o2 : Oper := { dst := some 40, op := Op.fieldAddr 87 (Operand.tmp 39) 0, type := 0, pos := "row.go:237", after := #[{ on := 1, ground := Ground.data }], guard := none }
def find7_o3 : Oper := { dst := some 41, op := Op.load 85 (Operand.tmp 40), type := 85, pos := "row.go:237", after := #[{ on := 2, ground := Ground.data }], guard := none }
def find7_o4 : Oper := { dst := some 42, op := Op.move (Operand.tmp 7), type := 3, pos := "row.go:237", after := #[], guard := none }
def find7_o5 : Oper := { dst := some 43, op := Op.indexAddr 85 (Operand.tmp 41) (Operand.tmp 42), type := 0, pos := "row.go:237", after := #[{ on := 3, ground := Ground.data }, { on := 4, ground := Ground.data }], guard := none }
def find7_o6 : Oper := { dst := some 44, op := Op.fieldAddr 113 (Operand.tmp 43) 3, type := 0, pos := "row.go:237", after := #[{ on := 5, ground := Ground.data }], guard := none }
def find7_o7 : Oper := { dst := some 45, op := Op.indexAddr 111 (Operand.tmp 44) (Operand.const (Value.int IntKind.i64 0)), type := 0, pos := "row.go:237", after := #[{ on := 6, ground := Ground.data }], guard := none }
def find7_o8 : Oper := { dst := some 46, op := Op.load 3 (Operand.tmp 45), type := 3, pos := "row.go:237", after := #[{ on := 7, ground := Ground.data }], guard := none }
def find7_o9 : Oper := { dst := some 7, op := Op.assign (Operand.tmp 46), type := 3, pos := "row.go:237", after := #[{ on := 8, ground := Ground.data }, { on := 0, ground := Ground.phase }, { on := 1, ground := Ground.phase }, { on := 2, ground := Ground.phase }, { on := 3, ground := Ground.phase }, { on := 4, ground := Ground.phase }, { on := 5, ground := Ground.phase }, { on := 6, ground := Ground.phase }, { on := 7, ground := Ground.phase }, { on := 8, ground := Ground.phase }], guard := none }
def find7_ops : Array Oper := #[find7_o0, find7_o1, find7_o2, find7_o3, find7_o4, find7_o5, find7_o6, find7_o7, find7_o8, find7_o9]
set_option maxRecDepth 100000 in
set_option maxHeartbeats 4000000 in
theorem find7 {rb ro g cap : Nat} {L : List Sp} {i : Nat} (a : Act) (w : World) (Q : Exit → Act → World → Prop) (zz : a.tmps.size = 52)
    (t0 : a.tmps.getD 0 undef = .pointer (some ⟨rb, ro, none⟩))
    (t7 : a.tmps.getD 7 undef = .int .i64 (i : Int))
    (hR : SqAt w rb ro g cap L) (hi : i < L.length)
    (h : ∀ (a' : Act) (w' : World), w' = w → a' = ((((((((((a).put (some 38) (.pointer (some ⟨rb, ro, none⟩))).put (some 39) (.pointer (some ⟨rb, ro, none⟩))).put (some 40) (.pointer (some ⟨rb, ro + 0, none⟩))).put (some 41) (.slice (some ⟨g, 0, none⟩) (L).length cap)).put (some 42) (.int .i64 (i : Int))).put (some 43) (.pointer (some ⟨g, 73 * i, none⟩))).put (some 44) (.pointer (some ⟨g, 73 * i + 69, none⟩))).put (some 45) (.pointer (some ⟨g, 73 * i + 69 + nb false, none⟩))).put (some 46) (.int .i64 (dn (gt L i) false : Int))).put (some 7) (.int .i64 (dn (gt L i) false : Int)) → Q .normal a' w') :
    (Code.region 7 find7_ops false).wp Try.prog Q a w := by
  refine z0 rfl ?_
  refine zv rfl (exec_move rfl (zi t0 rfl)) ?_
  refine zv rfl (exec_nilCheck rfl (zg zz rfl)) ?_
  refine zv rfl (exec_fieldAt rfl (zg zz rfl) (fg_87_0 _ _ _)) ?_
  refine zv rfl (exec_load rfl (zg zz rfl) (R_sl hR)) ?_
  refine zv rfl (exec_move rfl (zi t7 rfl)) ?_
  refine zv rfl (exec_indexAt rfl (zg zz rfl) (zg zz rfl) (R_ix hi hR.len _)) ?_
  refine zv rfl (exec_fieldAt rfl (zg zz rfl) (fg_113_3 _ _ _)) ?_
  refine zv rfl (exec_indexAt rfl (zg zz rfl) rfl (ix_a0 _ _)) ?_
  refine zv rfl (exec_load rfl (zg zz rfl) (R_dn hR hi false)) ?_
  refine zv rfl (exec_assign rfl (zg zz rfl)) ?_
  exact ze rfl (h _ _ (rfl) rfl)
def find5_o0 : Oper := { dst := some 25, op := Op.move (Operand.tmp 0), type := 114, pos := "row.go:242", after := #[], guard := none }
def find5_o1 : Oper := { dst := some 26, op := Op.nilCheck (Operand.tmp 25), type := 0, pos := "row.go:242", after := #[{ on := 0, ground := Ground.data }], guard := none }
def find5_o2 : Oper := { dst := some 27, op := Op.fieldAddr 87 (Operand.tmp 26) 0, type := 0, pos := "row.go:242", after := #[{ on := 1, ground := Ground.data }], guard := none }
def find5_o3 : Oper := { dst := some 28, op := Op.load 85 (Operand.tmp 27), type := 85, pos := "row.go:242", after := #[{ on := 2, ground := Ground.data }], guard := none }
def find5_o4 : Oper := { dst := some 29, op := Op.move (Operand.tmp 7), type := 3, pos := "row.go:242", after := #[], guard := none }
def find5_o5 : Oper := { dst := some 30, op := Op.indexAddr 85 (Operand.tmp 28) (Operand.tmp 29), type := 0, pos := "row.go:242", after := #[{ on := 3, ground := Ground.data }, { on := 4, ground := Ground.data }], guard := none }
def find5_o6 : Oper := { dst := some 31, op := Op.fieldAddr 113 (Operand.tmp 30) 3, type := 0, pos := "row.go:242", after := #[{ on := 5, ground := Ground.data }], guard := none }
def find5_o7 : Oper := { dst := some 32, op := Op.indexAddr 111 (Operand.tmp 31) (Operand.const (Value.int IntKind.i64 1)), type := 0, pos := "row.go:242", after := #[{ on := 6, ground := Ground.data }], guard := none }
def find5_o8 : Oper := { dst := some 33, op := Op.load 3 (Operand.tmp 32), type := 3, pos := "row.go:242", after := #[{ on := 7, ground := Ground.data }], guard := none }
def find5_o9 : Oper := { dst := some 7, op := Op.assign (Operand.tmp 33), type := 3, pos := "row.go:242", after := #[{ on := 8, ground := Ground.data }, { on := 0, ground := Ground.phase }, { on := 1, ground := Ground.phase }, { on := 2, ground := Ground.phase }, { on := 3, ground := Ground.phase }, { on := 4, ground := Ground.phase }, { on := 5, ground := Ground.phase }, { on := 6, ground := Ground.phase }, { on := 7, ground := Ground.phase }, { on := 8, ground := Ground.phase }], guard := none }
def find5_ops : Array Oper := #[find5_o0, find5_o1, find5_o2, find5_o3, find5_o4, find5_o5, find5_o6, find5_o7, find5_o8, find5_o9]
set_option maxRecDepth 100000 in
set_option maxHeartbeats 4000000 in
theorem find5 {rb ro g cap : Nat} {L : List Sp} {i : Nat} (a : Act) (w : World) (Q : Exit → Act → World → Prop) (zz : a.tmps.size = 52)
    (t0 : a.tmps.getD 0 undef = .pointer (some ⟨rb, ro, none⟩))
    (t7 : a.tmps.getD 7 undef = .int .i64 (i : Int))
    (hR : SqAt w rb ro g cap L) (hi : i < L.length)
    (h : ∀ (a' : Act) (w' : World), w' = w → a' = ((((((((((a).put (some 25) (.pointer (some ⟨rb, ro, none⟩))).put (some 26) (.pointer (some ⟨rb, ro, none⟩))).put (some 27) (.pointer (some ⟨rb, ro + 0, none⟩))).put (some 28) (.slice (some ⟨g, 0, none⟩) (L).length cap)).put (some 29) (.int .i64 (i : Int))).put (some 30) (.pointer (some ⟨g, 73 * i, none⟩))).put (some 31) (.pointer (some ⟨g, 73 * i + 69, none⟩))).put (some 32) (.pointer (some ⟨g, 73 * i + 69 + nb true, none⟩))).put (some 33) (.int .i64 (dn (gt L i) true : Int))).put (some 7) (.int .i64 (dn (gt L i) true : Int)) → Q .normal a' w') :
    (Code.region 5 find5_ops false).wp Try.prog Q a w := by
  refine z0 rfl ?_
  refine zv rfl (exec_move rfl (zi t0 rfl)) ?_
  refine zv rfl (exec_nilCheck rfl (zg zz rfl)) ?_
  refine zv rfl (exec_fieldAt rfl (zg zz rfl) (fg_87_0 _ _ _)) ?_
  refine zv rfl (exec_load rfl (zg zz rfl) (R_sl hR)) ?_
  refine zv rfl (exec_move rfl (zi t7 rfl)) ?_
  refine zv rfl (exec_indexAt rfl (zg zz rfl) (zg zz rfl) (R_ix hi hR.len _)) ?_
  refine zv rfl (exec_fieldAt rfl (zg zz rfl) (fg_113_3 _ _ _)) ?_
  refine zv rfl (exec_indexAt rfl (zg zz rfl) rfl (ix_a1 _ _)) ?_
  refine zv rfl (exec_load rfl (zg zz rfl) (R_dn hR hi true)) ?_
  refine zv rfl (exec_assign rfl (zg zz rfl)) ?_
  exact ze rfl (h _ _ (rfl) rfl)
end Go.Proofs.Ytlejbdepoemcjaa
