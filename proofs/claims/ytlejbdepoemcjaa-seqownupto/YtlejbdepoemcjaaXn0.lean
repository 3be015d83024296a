import Derived.Test.YtlejbdepoemcjaaZr
import Derived.Test.YtlejbdepoemcjaaXm
namespace Go.Proofs.Ytlejbdepoemcjaa
open Go.RowKit Sq
set_option linter.unusedVariables false
set_option linter.unusedSimpArgs false

def CpAt (w : World) (sb : Nat) (s : Sp) : Prop := KpV.ok s.kp ∧ w.heap[sb]? = some (.cells (Sp.c s).toArray 113 (0, 0))
theorem C_cell {w : World} {sb : Nat} {s : Sp} (h : CpAt w sb s) (k : Nat) (v : Value) (hk : (Sp.t s)[k]? = some v) : w.cell? ⟨sb, 67 + k, none⟩ = some v := by
  have := cells_range h.2 (67 + k) v (by rw [Sp.c, List.getElem?_append_right (by rw [KpV.len h.1]; omega), KpV.len h.1, show 67 + k - 67 = k by omega]; exact hk)
  rwa [Nat.zero_add] at this
theorem C_up {w : World} {sb : Nat} {s : Sp} (h : CpAt w sb s) : (Instr.loadAt 3 (.pointer (some ⟨sb, 0 + 68, none⟩))).run Try.prog w = .ok (.int .i64 (s.up : Int)) w := by
  have := C_cell h 1 _ rfl
  go_simp
theorem C_dn {w : World} {sb : Nat} {s : Sp} (h : CpAt w sb s) (b : Bool) : (Instr.loadAt 3 (.pointer (some ⟨sb, 0 + 69 + nb b, none⟩))).run Try.prog w = .ok (.int .i64 (dn s b : Int)) w := by
  have := C_cell h (2 + nb b) (.int .i64 (dn s b : Int)) (by cases b <;> rfl)
  rw [show 67 + (2 + nb b) = 0 + 69 + nb b by omega] at this
  go_simp
theorem ex_subN {w : World} {a : Act} {o : Oper} {x y : Operand} {p n : Nat} (ho : o.op = .binOp .sub 3 x y 3) (hx : a.eval x = .int .i64 (p : Int)) (hy : a.eval y = .int .i64 1) (h : p = n + 1 ∧ n ≤ 1400000000000) : (execOp a.eval o).run Try.prog w = .ok (.value (.int .i64 (n : Int))) w := by
  have := ex_sub (w := w) ho hx hy ⟨by omega, by omega⟩
  rw [this, show (p : Int) - 1 = (n : Int) by omega]
def FS (rb ro g cap N e : Nat) (sv : Value) (w' : World) : Prop := (Instr.loadAt 85 (.pointer (some ⟨rb, ro + 0, none⟩))).run Try.prog w' = .ok (.slice (some ⟨g, 0, none⟩) N cap) w' ∧ (Instr.loadAt 113 (.pointer (some ⟨g, 73 * e, none⟩))).run Try.prog w' = .ok sv w'
def take0_o0 : Oper := { dst := some 6, op := Op.move (Operand.tmp 0), type := 114, pos := "row.go:76", after := #[], guard := none }
def take0_o1 : Oper := { dst := some 7, op := Op.nilCheck (Operand.tmp 6), type := 0, pos := "row.go:76", after := #[{ on := 0, ground := Ground.data }], guard := none }
def take0_o2 : Oper := { dst := some 8, op := Op.fieldAddr 87 (Operand.tmp 7) 0, type := 0, pos := "row.go:76", after := #[{ on := 1, ground := Ground.data }], guard := none }
def take0_o3 : Oper := { dst := some 9, op := Op.load 85 (Operand.tmp 8), type := 85, pos := "row.go:76", after := #[{ on := 2, ground := Ground.data }], guard := none }
def take0_o4 : Oper := { dst := some 10, op := Op.move (Operand.tmp 1), type := 3, pos := "row.go:76", after := #[], guard := none }
def take0_o5 : Oper := { dst := some 11, op := Op.indexAddr 85 (Operand.tmp 9) (Operand.tmp 10), type := 0, pos := "row.go:76", after := #[{ on := 3, ground := Ground.data }, { on := 4, ground := Ground.data }], guard := none }
def take0_o6 : Oper := { dst := some 12, op := Op.load 113 (Operand.tmp 11), type := 113, pos := "row.go:76", after := #[{ on := 5, ground := Ground.data }], guard := none }
def take0_o7 : Oper := { dst := some 4, op := Op.alloc 113, type := 0, pos := "row.go:76", after := #[], guard := none }
def take0_o8 : Oper := { dst := none, op := Op.store 113 (Operand.tmp 4) (Operand.tmp 12), type := 0, pos := "row.go:76", after := #[{ on := 7, ground := Ground.data }, { on := 6, ground := Ground.data }, { on := 0, ground := Ground.phase }, { on := 1, ground := Ground.phase }, { on := 2, ground := Ground.phase }, { on := 3, ground := Ground.phase }, { on := 4, ground := Ground.phase }, { on := 5, ground := Ground.phase }, { on := 6, ground := Ground.phase }, { on := 7, ground := Ground.phase }], guard := none }
def take0_ops : Array Oper := #[take0_o0, take0_o1, take0_o2, take0_o3, take0_o4, take0_o5, take0_o6, take0_o7, take0_o8]
set_option maxRecDepth 100000 in
set_option maxHeartbeats 4000000 in
theorem take0 {rb ro g cap : Nat} {L : List Sp} {i sb : Nat} {w1 w2 : World} (a : Act) (w : World) (Q : Exit → Act → World → Prop) (zz : a.tmps.size = 46)
    (t0 : a.tmps.getD 0 undef = .pointer (some ⟨rb, ro, none⟩))
    (t1 : a.tmps.getD 1 undef = .int .i64 (i : Int))
    (hR : SqAt w rb ro g cap L) (hi : i < L.length) (EA : (Instr.alloc 113 true (.tuple #[])).run Try.prog w = .ok (.pointer (some ⟨sb, 0, none⟩)) w1) (ES : (Instr.storeAt 113 (.pointer (some ⟨sb, 0, none⟩)) (Sp.v (gt L i))).run Try.prog w1 = .ok () w2)
    (h : ∀ (a' : Act) (w' : World), w' = w2 → a' = ((((((((a).put (some 6) (.pointer (some ⟨rb, ro, none⟩))).put (some 7) (.pointer (some ⟨rb, ro, none⟩))).put (some 8) (.pointer (some ⟨rb, ro + 0, none⟩))).put (some 9) (.slice (some ⟨g, 0, none⟩) (L).length cap)).put (some 10) (.int .i64 (i : Int))).put (some 11) (.pointer (some ⟨g, 73 * i, none⟩))).put (some 12) (Sp.v (gt L i))).put (some 4) (.pointer (some ⟨sb, 0, none⟩)) → Q .normal a' w') :
    (Code.region 0 take0_ops false).wp Try.prog Q a w := by
  refine z0 rfl ?_
  refine zv rfl (exec_move rfl (zi t0 rfl)) ?_
  refine zv rfl (exec_nilCheck rfl (zg zz rfl)) ?_
  refine zv rfl (exec_fieldAt rfl (zg zz rfl) (fg_87_0 _ _ _)) ?_
  refine zv rfl (exec_load rfl (zg zz rfl) (R_sl hR)) ?_
  refine zv rfl (exec_move rfl (zi t1 rfl)) ?_
  refine zv rfl (exec_indexAt rfl (zg zz rfl) (zg zz rfl) (R_ix hi hR.len _)) ?_
  refine zv rfl (exec_load rfl (zg zz rfl) (R_sp hR hi)) ?_
  refine zv (v := .pointer (some ⟨sb, 0, none⟩)) rfl (exec_alloc rfl EA) ?_
  refine zs rfl (exec_store rfl (zg zz rfl) (zg zz rfl) ES) ?_
  exact ze rfl (h _ _ (rfl) rfl)
def take1_o0 : Oper := { dst := some 13, op := Op.fieldAddr 113 (Operand.tmp 4) 2, type := 0, pos := "row.go:77", after := #[], guard := none }
def take1_o1 : Oper := { dst := some 14, op := Op.load 3 (Operand.tmp 13), type := 3, pos := "row.go:77", after := #[{ on := 0, ground := Ground.data }], guard := none }
def take1_o2 : Oper := { dst := some 5, op := Op.assign (Operand.tmp 14), type := 3, pos := "row.go:77", after := #[{ on := 1, ground := Ground.data }, { on := 0, ground := Ground.phase }, { on := 1, ground := Ground.phase }], guard := none }
def take1_ops : Array Oper := #[take1_o0, take1_o1, take1_o2]
set_option maxRecDepth 100000 in
set_option maxHeartbeats 4000000 in
theorem take1 {sb : Nat} {s : Sp} (a : Act) (w : World) (Q : Exit → Act → World → Prop) (zz : a.tmps.size = 46)
    (t4 : a.tmps.getD 4 undef = .pointer (some ⟨sb, 0, none⟩))
    (hC : CpAt w sb s)
    (h : ∀ (a' : Act) (w' : World), w' = w → a' = (((a).put (some 13) (.pointer (some ⟨sb, 0 + 68, none⟩))).put (some 14) (.int .i64 (s.up : Int))).put (some 5) (.int .i64 (s.up : Int)) → Q .normal a' w') :
    (Code.region 1 take1_ops false).wp Try.prog Q a w := by
  refine z0 rfl ?_
  refine zv rfl (exec_fieldAt rfl (zi t4 rfl) (fg_113_2 _ _ _)) ?_
  refine zv rfl (exec_load rfl (zg zz rfl) (C_up hC)) ?_
  refine zv rfl (exec_assign rfl (zg zz rfl)) ?_
  exact ze rfl (h _ _ (rfl) rfl)
def take3_o0 : Oper := { dst := some 19, op := Op.fieldAddr 113 (Operand.tmp 4) 3, type := 0, pos := "row.go:79", after := #[], guard := none }
def take3_o1 : Oper := { dst := some 20, op := Op.indexAddr 111 (Operand.tmp 19) (Operand.const (Value.int IntKind.i64 0)), type := 0, pos := "row.go:79", after := #[{ on := 0, ground := Ground.data }], guard := none }
def take3_o2 : Oper := { dst := some 21, op := Op.load 3 (Operand.tmp 20), type := 3, pos := "row.go:79", after := #[{ on := 1, ground := Ground.data }], guard := none }
def take3_o3 : Oper := { dst := some 22, op := Op.binOp BinOp.eql 3 (Operand.const (Value.int IntKind.i64 0)) (Operand.tmp 21) 3, type := 4, pos := "row.go:79", after := #[{ on := 2, ground := Ground.data }], guard := none }
def take3_o4 : Oper := { dst := some 18, op := Op.assign (Operand.tmp 22), type := 4, pos := "row.go:79", after := #[{ on := 3, ground := Ground.data }], guard := none }
def take3_ops : Array Oper := #[take3_o0, take3_o1, take3_o2, take3_o3, take3_o4]
set_option maxRecDepth 100000 in
set_option maxHeartbeats 4000000 in
theorem take3 {sb : Nat} {s : Sp} {r : Bool} (a : Act) (w : World) (Q : Exit → Act → World → Prop) (zz : a.tmps.size = 46)
    (t4 : a.tmps.getD 4 undef = .pointer (some ⟨sb, 0, none⟩))
    (hC : CpAt w sb s) (hr : decide ((0 : Int) = (dn s false : Int)) = r)
    (h : ∀ (a' : Act) (w' : World), w' = w → a' = (((((a).put (some 19) (.pointer (some ⟨sb, 0 + 69, none⟩))).put (some 20) (.pointer (some ⟨sb, 0 + 69 + nb false, none⟩))).put (some 21) (.int .i64 (dn s false : Int))).put (some 22) (.bool r)).put (some 18) (.bool r) → Q .normal a' w') :
    (Code.region 3 take3_ops false).wp Try.prog Q a w := by
  refine z0 rfl ?_
  refine zv rfl (exec_fieldAt rfl (zi t4 rfl) (fg_113_3 _ _ _)) ?_
  refine zv rfl (exec_indexAt rfl (zg zz rfl) rfl (ix_a0 _ _)) ?_
  refine zv rfl (exec_load rfl (zg zz rfl) (C_dn hC false)) ?_
  refine zv (v := .bool r) rfl (ex_eql rfl rfl (zg zz rfl) hr) ?_
  refine zv rfl (exec_assign rfl (zg zz rfl)) ?_
  exact ze rfl (h _ _ (rfl) rfl)
def take4_o0 : Oper := { dst := some 23, op := Op.move (Operand.tmp 0), type := 114, pos := "row.go:80", after := #[], guard := none }
def take4_o1 : Oper := { dst := some 24, op := Op.move (Operand.tmp 1), type := 3, pos := "row.go:80", after := #[], guard := none }
def take4_o2 : Oper := { dst := some 25, op := Op.fieldAddr 113 (Operand.tmp 4) 3, type := 0, pos := "row.go:80", after := #[], guard := none }
def take4_o3 : Oper := { dst := some 26, op := Op.indexAddr 111 (Operand.tmp 25) (Operand.const (Value.int IntKind.i64 1)), type := 0, pos := "row.go:80", after := #[{ on := 2, ground := Ground.data }], guard := none }
def take4_o4 : Oper := { dst := some 27, op := Op.load 3 (Operand.tmp 26), type := 3, pos := "row.go:80", after := #[{ on := 3, ground := Ground.data }], guard := none }
def take4_o5 : Oper := { dst := some 28, op := Op.call { callee := Callee.value (Operand.func 79), args := #[Operand.tmp 23, Operand.tmp 24, Operand.tmp 27], argTypes := #[114, 3, 3] }, type := 0, pos := "row.go:80", after := #[{ on := 0, ground := Ground.data }, { on := 1, ground := Ground.data }, { on := 4, ground := Ground.data }], guard := none }
def take4_ops : Array Oper := #[take4_o0, take4_o1, take4_o2, take4_o3, take4_o4, take4_o5]
set_option maxRecDepth 100000 in
set_option maxHeartbeats 4000000 in
theorem take4 {rb ro i sb : Nat} {s : Sp} (Fin : World → Prop) (a : Act) (w : World) (Q : Exit → Act → World → Prop) (zz : a.tmps.size = 46)
    (t0 : a.tmps.getD 0 undef = .pointer (some ⟨rb, ro, none⟩))
    (t1 : a.tmps.getD 1 undef = .int .i64 (i : Int))
    (t4 : a.tmps.getD 4 undef = .pointer (some ⟨sb, 0, none⟩))
    (hC : CpAt w sb s) (CR : Calls Try.prog 79 #[.pointer (some ⟨rb, ro, none⟩), .int .i64 (i : Int), .int .i64 (dn s true : Int)] w fun e w' => e = .returned (.tuple #[]) ∧ Fin w')
    (h : ∀ (a' : Act) (w' : World), Fin w' → a' = ((((((a).put (some 23) (.pointer (some ⟨rb, ro, none⟩))).put (some 24) (.int .i64 (i : Int))).put (some 25) (.pointer (some ⟨sb, 0 + 69, none⟩))).put (some 26) (.pointer (some ⟨sb, 0 + 69 + nb true, none⟩))).put (some 27) (.int .i64 (dn s true : Int))).put (some 28) (.tuple #[]) → Q .normal a' w') :
    (Code.region 4 take4_ops false).wp Try.prog Q a w := by
  refine z0 rfl ?_
  refine zv rfl (exec_move rfl (zi t0 rfl)) ?_
  refine zv rfl (exec_move rfl (zi t1 rfl)) ?_
  refine zv rfl (exec_fieldAt rfl (zi t4 rfl) (fg_113_3 _ _ _)) ?_
  refine zv rfl (exec_indexAt rfl (zg zz rfl) rfl (ix_a1 _ _)) ?_
  refine zv rfl (exec_load rfl (zg zz rfl) (C_dn hC true)) ?_
  refine zc rfl (exec_c3 rfl (zg zz rfl) (zg zz rfl) (zg zz rfl)) (CR) (fun e x5 hx => ?_)
  obtain ⟨rfl, HF⟩ := hx
  refine ⟨_, rfl, ?_⟩
  exact ze rfl (h _ _ (HF) rfl)
def take5_o0 : Oper := { dst := some 30, op := Op.fieldAddr 113 (Operand.tmp 4) 3, type := 0, pos := "row.go:81", after := #[], guard := none }
def take5_o1 : Oper := { dst := some 31, op := Op.indexAddr 111 (Operand.tmp 30) (Operand.const (Value.int IntKind.i64 1)), type := 0, pos := "row.go:81", after := #[{ on := 0, ground := Ground.data }], guard := none }
def take5_o2 : Oper := { dst := some 32, op := Op.load 3 (Operand.tmp 31), type := 3, pos := "row.go:81", after := #[{ on := 1, ground := Ground.data }], guard := none }
def take5_o3 : Oper := { dst := some 33, op := Op.binOp BinOp.eql 3 (Operand.const (Value.int IntKind.i64 0)) (Operand.tmp 32) 3, type := 4, pos := "row.go:81", after := #[{ on := 2, ground := Ground.data }], guard := none }
def take5_o4 : Oper := { dst := some 29, op := Op.assign (Operand.tmp 33), type := 4, pos := "row.go:81", after := #[{ on := 3, ground := Ground.data }], guard := none }
def take5_ops : Array Oper := #[take5_o0, take5_o1, take5_o2, take5_o3, take5_o4]
set_option maxRecDepth 100000 in
set_option maxHeartbeats 4000000 in
theorem take5 {sb : Nat} {s : Sp} {r : Bool} (a : Act) (w : World) (Q : Exit → Act → World → Prop) (zz : a.tmps.size = 46)
    (t4 : a.tmps.getD 4 undef = .pointer (some ⟨sb, 0, none⟩))
    (hC : CpAt w sb s) (hr : decide ((0 : Int) = (dn s true : Int)) = r)
    (h : ∀ (a' : Act) (w' : World), w' = w → a' = (((((a).put (some 30) (.pointer (some ⟨sb, 0 + 69, none⟩))).put (some 31) (.pointer (some ⟨sb, 0 + 69 + nb true, none⟩))).put (some 32) (.int .i64 (dn s true : Int))).put (some 33) (.bool r)).put (some 29) (.bool r) → Q .normal a' w') :
    (Code.region 5 take5_ops false).wp Try.prog Q a w := by
  refine z0 rfl ?_
  refine zv rfl (exec_fieldAt rfl (zi t4 rfl) (fg_113_3 _ _ _)) ?_
  refine zv rfl (exec_indexAt rfl (zg zz rfl) rfl (ix_a1 _ _)) ?_
  refine zv rfl (exec_load rfl (zg zz rfl) (C_dn hC true)) ?_
  refine zv (v := .bool r) rfl (ex_eql rfl rfl (zg zz rfl) hr) ?_
  refine zv rfl (exec_assign rfl (zg zz rfl)) ?_
  exact ze rfl (h _ _ (rfl) rfl)
def take6_o0 : Oper := { dst := some 34, op := Op.move (Operand.tmp 0), type := 114, pos := "row.go:82", after := #[], guard := none }
def take6_o1 : Oper := { dst := some 35, op := Op.move (Operand.tmp 1), type := 3, pos := "row.go:82", after := #[], guard := none }
def take6_o2 : Oper := { dst := some 36, op := Op.fieldAddr 113 (Operand.tmp 4) 3, type := 0, pos := "row.go:82", after := #[], guard := none }
def take6_o3 : Oper := { dst := some 37, op := Op.indexAddr 111 (Operand.tmp 36) (Operand.const (Value.int IntKind.i64 0)), type := 0, pos := "row.go:82", after := #[{ on := 2, ground := Ground.data }], guard := none }
def take6_o4 : Oper := { dst := some 38, op := Op.load 3 (Operand.tmp 37), type := 3, pos := "row.go:82", after := #[{ on := 3, ground := Ground.data }], guard := none }
def take6_o5 : Oper := { dst := some 39, op := Op.call { callee := Callee.value (Operand.func 79), args := #[Operand.tmp 34, Operand.tmp 35, Operand.tmp 38], argTypes := #[114, 3, 3] }, type := 0, pos := "row.go:82", after := #[{ on := 0, ground := Ground.data }, { on := 1, ground := Ground.data }, { on := 4, ground := Ground.data }], guard := none }
def take6_ops : Array Oper := #[take6_o0, take6_o1, take6_o2, take6_o3, take6_o4, take6_o5]
set_option maxRecDepth 100000 in
set_option maxHeartbeats 4000000 in
theorem take6 {rb ro i sb : Nat} {s : Sp} (Fin : World → Prop) (a : Act) (w : World) (Q : Exit → Act → World → Prop) (zz : a.tmps.size = 46)
    (t0 : a.tmps.getD 0 undef = .pointer (some ⟨rb, ro, none⟩))
    (t1 : a.tmps.getD 1 undef = .int .i64 (i : Int))
    (t4 : a.tmps.getD 4 undef = .pointer (some ⟨sb, 0, none⟩))
    (hC : CpAt w sb s) (CR : Calls Try.prog 79 #[.pointer (some ⟨rb, ro, none⟩), .int .i64 (i : Int), .int .i64 (dn s false : Int)] w fun e w' => e = .returned (.tuple #[]) ∧ Fin w')
    (h : ∀ (a' : Act) (w' : World), Fin w' → a' = ((((((a).put (some 34) (.pointer (some ⟨rb, ro, none⟩))).put (some 35) (.int .i64 (i : Int))).put (some 36) (.pointer (some ⟨sb, 0 + 69, none⟩))).put (some 37) (.pointer (some ⟨sb, 0 + 69 + nb false, none⟩))).put (some 38) (.int .i64 (dn s false : Int))).put (some 39) (.tuple #[]) → Q .normal a' w') :
    (Code.region 6 take6_ops false).wp Try.prog Q a w := by
  refine z0 rfl ?_
  refine zv rfl (exec_move rfl (zi t0 rfl)) ?_
  refine zv rfl (exec_move rfl (zi t1 rfl)) ?_
  refine zv rfl (exec_fieldAt rfl (zi t4 rfl) (fg_113_3 _ _ _)) ?_
  refine zv rfl (exec_indexAt rfl (zg zz rfl) rfl (ix_a0 _ _)) ?_
  refine zv rfl (exec_load rfl (zg zz rfl) (C_dn hC false)) ?_
  refine zc rfl (exec_c3 rfl (zg zz rfl) (zg zz rfl) (zg zz rfl)) (CR) (fun e x5 hx => ?_)
  obtain ⟨rfl, HF⟩ := hx
  refine ⟨_, rfl, ?_⟩
  exact ze rfl (h _ _ (HF) rfl)
def rbn1_o0 : Oper := { dst := some 9, op := Op.move (Operand.tmp 0), type := 114, pos := "row.go:92", after := #[], guard := none }
def rbn1_o1 : Oper := { dst := some 10, op := Op.move (Operand.tmp 0), type := 114, pos := "row.go:92", after := #[], guard := none }
def rbn1_o2 : Oper := { dst := some 11, op := Op.nilCheck (Operand.tmp 10), type := 0, pos := "row.go:92", after := #[{ on := 1, ground := Ground.data }], guard := none }
def rbn1_o3 : Oper := { dst := some 12, op := Op.fieldAddr 87 (Operand.tmp 11) 0, type := 0, pos := "row.go:92", after := #[{ on := 2, ground := Ground.data }], guard := none }
def rbn1_o4 : Oper := { dst := some 13, op := Op.load 85 (Operand.tmp 12), type := 85, pos := "row.go:92", after := #[{ on := 3, ground := Ground.data }], guard := none }
def rbn1_o5 : Oper := { dst := some 14, op := Op.move (Operand.tmp 1), type := 3, pos := "row.go:92", after := #[], guard := none }
def rbn1_o6 : Oper := { dst := some 15, op := Op.indexAddr 85 (Operand.tmp 13) (Operand.tmp 14), type := 0, pos := "row.go:92", after := #[{ on := 4, ground := Ground.data }, { on := 5, ground := Ground.data }], guard := none }
def rbn1_o7 : Oper := { dst := some 16, op := Op.fieldAddr 113 (Operand.tmp 15) 3, type := 0, pos := "row.go:92", after := #[{ on := 6, ground := Ground.data }], guard := none }
def rbn1_o8 : Oper := { dst := some 17, op := Op.indexAddr 111 (Operand.tmp 16) (Operand.const (Value.int IntKind.i64 1)), type := 0, pos := "row.go:92", after := #[{ on := 7, ground := Ground.data }], guard := none }
def rbn1_o9 : Oper := { dst := some 18, op := Op.load 3 (Operand.tmp 17), type := 3, pos := "row.go:92", after := #[{ on := 8, ground := Ground.data }], guard := none }
def rbn1_o10 : Oper := { dst := some 19, op := Op.call { callee := Callee.value (Operand.func 77), args := #[Operand.tmp 9, Operand.tmp 18], argTypes := #[114, 3] }, type := 3, pos := "row.go:92", after := #[{ on := 0, ground := Ground.data }, { on := 9, ground := Ground.data }], guard := none }
def rbn1_o11 : Oper := { dst := some 5, op := Op.assign (Operand.tmp 19), type := 3, pos := "row.go:92", after := #[{ on := 10, ground := Ground.data }, { on := 10, ground := Ground.chain }, { on := 0, ground := Ground.phase }, { on := 1, ground := Ground.phase }, { on := 2, ground := Ground.phase }, { on := 3, ground := Ground.phase }, { on := 4, ground := Ground.phase }, { on := 5, ground := Ground.phase }, { on := 6, ground := Ground.phase }, { on := 7, ground := Ground.phase }, { on := 8, ground := Ground.phase }, { on := 9, ground := Ground.phase }, { on := 10, ground := Ground.phase }], guard := none }
def rbn1_ops : Array Oper := #[rbn1_o0, rbn1_o1, rbn1_o2, rbn1_o3, rbn1_o4, rbn1_o5, rbn1_o6, rbn1_o7, rbn1_o8, rbn1_o9, rbn1_o10, rbn1_o11]
set_option maxRecDepth 100000 in
set_option maxHeartbeats 4000000 in
theorem rbn1 {rb ro g cap : Nat} {L : List Sp} {i m : Nat} (Fin : World → Prop) (a : Act) (w : World) (Q : Exit → Act → World → Prop) (zz : a.tmps.size = 67)
    (t0 : a.tmps.getD 0 undef = .pointer (some ⟨rb, ro, none⟩))
    (t1 : a.tmps.getD 1 undef = .int .i64 (i : Int))
    (hR : SqAt w rb ro g cap L) (hi : i < L.length) (CF : Calls Try.prog 77 #[.pointer (some ⟨rb, ro, none⟩), .int .i64 (dn (gt L i) true : Int)] w fun e w' => e = .returned (.int .i64 (m : Int)) ∧ Fin w')
    (h : ∀ (a' : Act) (w' : World), Fin w' → a' = ((((((((((((a).put (some 9) (.pointer (some ⟨rb, ro, none⟩))).put (some 10) (.pointer (some ⟨rb, ro, none⟩))).put (some 11) (.pointer (some ⟨rb, ro, none⟩))).put (some 12) (.pointer (some ⟨rb, ro + 0, none⟩))).put (some 13) (.slice (some ⟨g, 0, none⟩) (L).length cap)).put (some 14) (.int .i64 (i : Int))).put (some 15) (.pointer (some ⟨g, 73 * i, none⟩))).put (some 16) (.pointer (some ⟨g, 73 * i + 69, none⟩))).put (some 17) (.pointer (some ⟨g, 73 * i + 69 + nb true, none⟩))).put (some 18) (.int .i64 (dn (gt L i) true : Int))).put (some 19) (.int .i64 (m : Int))).put (some 5) (.int .i64 (m : Int)) → Q .normal a' w') :
    (Code.region 1 rbn1_ops false).wp Try.prog Q a w := by
  refine z0 rfl ?_
  refine zv rfl (exec_move rfl (zi t0 rfl)) ?_
  refine zv rfl (exec_move rfl (zi t0 rfl)) ?_
  refine zv rfl (exec_nilCheck rfl (zg zz rfl)) ?_
  refine zv rfl (exec_fieldAt rfl (zg zz rfl) (fg_87_0 _ _ _)) ?_
  refine zv rfl (exec_load rfl (zg zz rfl) (R_sl hR)) ?_
  refine zv rfl (exec_move rfl (zi t1 rfl)) ?_
  refine zv rfl (exec_indexAt rfl (zg zz rfl) (zg zz rfl) (R_ix hi hR.len _)) ?_
  refine zv rfl (exec_fieldAt rfl (zg zz rfl) (fg_113_3 _ _ _)) ?_
  refine zv rfl (exec_indexAt rfl (zg zz rfl) rfl (ix_a1 _ _)) ?_
  refine zv rfl (exec_load rfl (zg zz rfl) (R_dn hR hi true)) ?_
  refine zc rfl (exec_c2 rfl (zg zz rfl) (zg zz rfl)) (CF) (fun e x10 hx => ?_)
  obtain ⟨rfl, HF⟩ := hx
  refine ⟨_, rfl, ?_⟩
  refine zv rfl (exec_assign rfl (zg zz rfl)) ?_
  exact ze rfl (h _ _ (HF) rfl)
def rbn2_o0 : Oper := { dst := some 20, op := Op.move (Operand.tmp 0), type := 114, pos := "row.go:93", after := #[], guard := none }
def rbn2_o1 : Oper := { dst := some 21, op := Op.nilCheck (Operand.tmp 20), type := 0, pos := "row.go:93", after := #[{ on := 0, ground := Ground.data }], guard := none }
def rbn2_o2 : Oper := { dst := some 22, op := Op.fieldAddr 87 (Operand.tmp 21) 0, type := 0, pos := "row.go:93", after := #[{ on := 1, ground := Ground.data }], guard := none }
def rbn2_o3 : Oper := { dst := some 23, op := Op.load 85 (Operand.tmp 22), type := 85, pos := "row.go:93", after := #[{ on := 2, ground := Ground.data }], guard := none }
def rbn2_o4 : Oper := { dst := some 24, op := Op.move (Operand.tmp 5), type := 3, pos := "row.go:93", after := #[], guard := none }
def rbn2_o5 : Oper := { dst := some 25, op := Op.indexAddr 85 (Operand.tmp 23) (Operand.tmp 24), type := 0, pos := "row.go:93", after := #[{ on := 3, ground := Ground.data }, { on := 4, ground := Ground.data }], guard := none }
def rbn2_o6 : Oper := { dst := some 26, op := Op.fieldAddr 113 (Operand.tmp 25) 2, type := 0, pos := "row.go:93", after := #[{ on := 5, ground := Ground.data }], guard := none }
def rbn2_o7 : Oper := { dst := some 27, op := Op.load 3 (Operand.tmp 26), type := 3, pos := "row.go:93", after := #[{ on := 6, ground := Ground.data }], guard := none }
def rbn2_o8 : Oper := { dst := some 6, op := Op.assign (Operand.tmp 27), type := 3, pos := "row.go:93", after := #[{ on := 7, ground := Ground.data }, { on := 0, ground := Ground.phase }, { on := 1, ground := Ground.phase }, { on := 2, ground := Ground.phase }, { on := 3, ground := Ground.phase }, { on := 4, ground := Ground.phase }, { on := 5, ground := Ground.phase }, { on := 6, ground := Ground.phase }, { on := 7, ground := Ground.phase }], guard := none }
def rbn2_ops : Array Oper := #[rbn2_o0, rbn2_o1, rbn2_o2, rbn2_o3, rbn2_o4, rbn2_o5, rbn2_o6, rbn2_o7, rbn2_o8]
set_option maxRecDepth 100000 in
set_option maxHeartbeats 4000000 in
theorem rbn2 {rb ro g cap : Nat} {L : List Sp} {m : Nat} (a : Act) (w : World) (Q : Exit → Act → World → Prop) (zz : a.tmps.size = 67)
    (t0 : a.tmps.getD 0 undef = .pointer (some ⟨rb, ro, none⟩))
    (t5 : a.tmps.getD 5 undef = .int .i64 (m : Int))
    (hR : SqAt w rb ro g cap L) (hm : m < L.length)
    (h : ∀ (a' : Act) (w' : World), w' = w → a' = (((((((((a).put (some 20) (.pointer (some ⟨rb, ro, none⟩))).put (some 21) (.pointer (some ⟨rb, ro, none⟩))).put (some 22) (.pointer (some ⟨rb, ro + 0, none⟩))).put (some 23) (.slice (some ⟨g, 0, none⟩) (L).length cap)).put (some 24) (.int .i64 (m : Int))).put (some 25) (.pointer (some ⟨g, 73 * m, none⟩))).put (some 26) (.pointer (some ⟨g, 73 * m + 68, none⟩))).put (some 27) (.int .i64 ((gt L m).up : Int))).put (some 6) (.int .i64 ((gt L m).up : Int)) → Q .normal a' w') :
    (Code.region 2 rbn2_ops false).wp Try.prog Q a w := by
  refine z0 rfl ?_
  refine zv rfl (exec_move rfl (zi t0 rfl)) ?_
  refine zv rfl (exec_nilCheck rfl (zg zz rfl)) ?_
  refine zv rfl (exec_fieldAt rfl (zg zz rfl) (fg_87_0 _ _ _)) ?_
  refine zv rfl (exec_load rfl (zg zz rfl) (R_sl hR)) ?_
  refine zv rfl (exec_move rfl (zi t5 rfl)) ?_
  refine zv rfl (exec_indexAt rfl (zg zz rfl) (zg zz rfl) (R_ix hm hR.len _)) ?_
  refine zv rfl (exec_fieldAt rfl (zg zz rfl) (fg_113_2 _ _ _)) ?_
  refine zv rfl (exec_load rfl (zg zz rfl) (R_up hR hm)) ?_
  refine zv rfl (exec_assign rfl (zg zz rfl)) ?_
  exact ze rfl (h _ _ (rfl) rfl)
def rbn3_o0 : Oper := { dst := some 28, op := Op.move (Operand.tmp 0), type := 114, pos := "row.go:94", after := #[], guard := none }
def rbn3_o1 : Oper := { dst := some 29, op := Op.move (Operand.tmp 5), type := 3, pos := "row.go:94", after := #[], guard := none }
def rbn3_o2 : Oper := { dst := some 30, op := Op.move (Operand.tmp 0), type := 114, pos := "row.go:94", after := #[], guard := none }
def rbn3_o3 : Oper := { dst := some 31, op := Op.nilCheck (Operand.tmp 30), type := 0, pos := "row.go:94", after := #[{ on := 2, ground := Ground.data }], guard := none }
def rbn3_o4 : Oper := { dst := some 32, op := Op.fieldAddr 87 (Operand.tmp 31) 0, type := 0, pos := "row.go:94", after := #[{ on := 3, ground := Ground.data }], guard := none }
def rbn3_o5 : Oper := { dst := some 33, op := Op.load 85 (Operand.tmp 32), type := 85, pos := "row.go:94", after := #[{ on := 4, ground := Ground.data }], guard := none }
def rbn3_o6 : Oper := { dst := some 34, op := Op.move (Operand.tmp 5), type := 3, pos := "row.go:94", after := #[], guard := none }
def rbn3_o7 : Oper := { dst := some 35, op := Op.indexAddr 85 (Operand.tmp 33) (Operand.tmp 34), type := 0, pos := "row.go:94", after := #[{ on := 5, ground := Ground.data }, { on := 6, ground := Ground.data }], guard := none }
def rbn3_o8 : Oper := { dst := some 36, op := Op.fieldAddr 113 (Operand.tmp 35) 3, type := 0, pos := "row.go:94", after := #[{ on := 7, ground := Ground.data }], guard := none }
def rbn3_o9 : Oper := { dst := some 37, op := Op.indexAddr 111 (Operand.tmp 36) (Operand.const (Value.int IntKind.i64 1)), type := 0, pos := "row.go:94", after := #[{ on := 8, ground := Ground.data }], guard := none }
def rbn3_o10 : Oper := { dst := some 38, op := Op.load 3 (Operand.tmp 37), type := 3, pos := "row.go:94", after := #[{ on := 9, ground := Ground.data }], guard := none }
def rbn3_o11 : Oper := { dst := some 39, op := Op.call { callee := Callee.value (Operand.func 79), args := #[Operand.tmp 28, Operand.tmp 29, Operand.tmp 38], argTypes := #[114, 3, 3] }, type := 0, pos := "row.go:94", after := #[{ on := 0, ground := Ground.data }, { on := 1, ground := Ground.data }, { on := 10, ground := Ground.data }], guard := none }
def rbn3_ops : Array Oper := #[rbn3_o0, rbn3_o1, rbn3_o2, rbn3_o3, rbn3_o4, rbn3_o5, rbn3_o6, rbn3_o7, rbn3_o8, rbn3_o9, rbn3_o10, rbn3_o11]
set_option maxRecDepth 100000 in
set_option maxHeartbeats 4000000 in
theorem rbn3 {rb ro g cap : Nat} {L : List Sp} {m : Nat} (Fin : World → Prop) (a : Act) (w : World) (Q : Exit → Act → World → Prop) (zz : a.tmps.size = 67)
    (t0 : a.tmps.getD 0 undef = .pointer (some ⟨rb, ro, none⟩))
    (t5 : a.tmps.getD 5 undef = .int .i64 (m : Int))
    (hR : SqAt w rb ro g cap L) (hm : m < L.length) (CR : Calls Try.prog 79 #[.pointer (some ⟨rb, ro, none⟩), .int .i64 (m : Int), .int .i64 (dn (gt L m) true : Int)] w fun e w' => e = .returned (.tuple #[]) ∧ Fin w')
    (h : ∀ (a' : Act) (w' : World), Fin w' → a' = ((((((((((((a).put (some 28) (.pointer (some ⟨rb, ro, none⟩))).put (some 29) (.int .i64 (m : Int))).put (some 30) (.pointer (some ⟨rb, ro, none⟩))).put (some 31) (.pointer (some ⟨rb, ro, none⟩))).put (some 32) (.pointer (some ⟨rb, ro + 0, none⟩))).put (some 33) (.slice (some ⟨g, 0, none⟩) (L).length cap)).put (some 34) (.int .i64 (m : Int))).put (some 35) (.pointer (some ⟨g, 73 * m, none⟩))).put (some 36) (.pointer (some ⟨g, 73 * m + 69, none⟩))).put (some 37) (.pointer (some ⟨g, 73 * m + 69 + nb true, none⟩))).put (some 38) (.int .i64 (dn (gt L m) true : Int))).put (some 39) (.tuple #[]) → Q .normal a' w') :
    (Code.region 3 rbn3_ops false).wp Try.prog Q a w := by
  refine z0 rfl ?_
  refine zv rfl (exec_move rfl (zi t0 rfl)) ?_
  refine zv rfl (exec_move rfl (zi t5 rfl)) ?_
  refine zv rfl (exec_move rfl (zi t0 rfl)) ?_
  refine zv rfl (exec_nilCheck rfl (zg zz rfl)) ?_
  refine zv rfl (exec_fieldAt rfl (zg zz rfl) (fg_87_0 _ _ _)) ?_
  refine zv rfl (exec_load rfl (zg zz rfl) (R_sl hR)) ?_
  refine zv rfl (exec_move rfl (zi t5 rfl)) ?_
  refine zv rfl (exec_indexAt rfl (zg zz rfl) (zg zz rfl) (R_ix hm hR.len _)) ?_
  refine zv rfl (exec_fieldAt rfl (zg zz rfl) (fg_113_3 _ _ _)) ?_
  refine zv rfl (exec_indexAt rfl (zg zz rfl) rfl (ix_a1 _ _)) ?_
  refine zv rfl (exec_load rfl (zg zz rfl) (R_dn hR hm true)) ?_
  refine zc rfl (exec_c3 rfl (zg zz rfl) (zg zz rfl) (zg zz rfl)) (CR) (fun e x11 hx => ?_)
  obtain ⟨rfl, HF⟩ := hx
  refine ⟨_, rfl, ?_⟩
  exact ze rfl (h _ _ (HF) rfl)
def rbn5_o0 : Oper := { dst := some 44, op := Op.move (Operand.tmp 0), type := 114, pos := "row.go:96", after := #[], guard := none }
def rbn5_o1 : Oper := { dst := some 45, op := Op.nilCheck (Operand.tmp 44), type := 0, pos := "row.go:96", after := #[{ on := 0, ground := Ground.data }], guard := none }
def rbn5_o2 : Oper := { dst := some 46, op := Op.fieldAddr 87 (Operand.tmp 45) 0, type := 0, pos := "row.go:96", after := #[{ on := 1, ground := Ground.data }], guard := none }
def rbn5_o3 : Oper := { dst := some 47, op := Op.load 85 (Operand.tmp 46), type := 85, pos := "row.go:96", after := #[{ on := 2, ground := Ground.data }], guard := none }
def rbn5_o4 : Oper := { dst := some 48, op := Op.move (Operand.tmp 1), type := 3, pos := "row.go:96", after := #[], guard := none }
def rbn5_o5 : Oper := { dst := some 49, op := Op.indexAddr 85 (Operand.tmp 47) (Operand.tmp 48), type := 0, pos := "row.go:96", after := #[{ on := 3, ground := Ground.data }, { on := 4, ground := Ground.data }], guard := none }
def rbn5_o6 : Oper := { dst := some 50, op := Op.fieldAddr 113 (Operand.tmp 49) 3, type := 0, pos := "row.go:96", after := #[{ on := 5, ground := Ground.data }], guard := none }
def rbn5_o7 : Oper := { dst := some 51, op := Op.load 111 (Operand.tmp 50), type := 111, pos := "row.go:96", after := #[{ on := 6, ground := Ground.data }], guard := none }
def rbn5_o8 : Oper := { dst := some 52, op := Op.move (Operand.const (Value.int IntKind.i64 0)), type := 3, pos := "row.go:96", after := #[], guard := none }
def rbn5_ops : Array Oper := #[rbn5_o0, rbn5_o1, rbn5_o2, rbn5_o3, rbn5_o4, rbn5_o5, rbn5_o6, rbn5_o7, rbn5_o8]
set_option maxRecDepth 100000 in
set_option maxHeartbeats 4000000 in
theorem rbn5 {rb ro g cap : Nat} {L : List Sp} {i : Nat} (a : Act) (w : World) (Q : Exit → Act → World → Prop) (zz : a.tmps.size = 67)
    (t0 : a.tmps.getD 0 undef = .pointer (some ⟨rb, ro, none⟩))
    (t1 : a.tmps.getD 1 undef = .int .i64 (i : Int))
    (hR : SqAt w rb ro g cap L) (hi : i < L.length)
    (h : ∀ (a' : Act) (w' : World), w' = w → a' = (((((((((a).put (some 44) (.pointer (some ⟨rb, ro, none⟩))).put (some 45) (.pointer (some ⟨rb, ro, none⟩))).put (some 46) (.pointer (some ⟨rb, ro + 0, none⟩))).put (some 47) (.slice (some ⟨g, 0, none⟩) (L).length cap)).put (some 48) (.int .i64 (i : Int))).put (some 49) (.pointer (some ⟨g, 73 * i, none⟩))).put (some 50) (.pointer (some ⟨g, 73 * i + 69, none⟩))).put (some 51) (.agg #[.int .i64 ((gt L i).l : Int), .int .i64 ((gt L i).r : Int)])).put (some 52) (.int .i64 0) → Q .normal a' w') :
    (Code.region 5 rbn5_ops false).wp Try.prog Q a w := by
  refine z0 rfl ?_
  refine zv rfl (exec_move rfl (zi t0 rfl)) ?_
  refine zv rfl (exec_nilCheck rfl (zg zz rfl)) ?_
  refine zv rfl (exec_fieldAt rfl (zg zz rfl) (fg_87_0 _ _ _)) ?_
  refine zv rfl (exec_load rfl (zg zz rfl) (R_sl hR)) ?_
  refine zv rfl (exec_move rfl (zi t1 rfl)) ?_
  refine zv rfl (exec_indexAt rfl (zg zz rfl) (zg zz rfl) (R_ix hi hR.len _)) ?_
  refine zv rfl (exec_fieldAt rfl (zg zz rfl) (fg_113_3 _ _ _)) ?_
  refine zv rfl (exec_load rfl (zg zz rfl) (R_down hR hi)) ?_
  refine zv rfl (exec_move rfl rfl) ?_
  exact ze rfl (h _ _ (rfl) rfl)
def rbn7_o0 : Oper := { dst := some 54, op := Op.move (Operand.tmp 52), type := 3, pos := "row.go:96", after := #[], guard := none }
def rbn7_o1 : Oper := { dst := some 55, op := Op.index 111 (Operand.tmp 51) (Operand.tmp 52), type := 3, pos := "row.go:96", after := #[], guard := none }
def rbn7_o2 : Oper := { dst := some 7, op := Op.assign (Operand.tmp 54), type := 3, pos := "row.go:96", after := #[{ on := 0, ground := Ground.data }, { on := 0, ground := Ground.phase }, { on := 1, ground := Ground.phase }], guard := none }
def rbn7_o3 : Oper := { dst := some 8, op := Op.assign (Operand.tmp 55), type := 3, pos := "row.go:96", after := #[{ on := 1, ground := Ground.data }, { on := 2, ground := Ground.chain }, { on := 0, ground := Ground.phase }, { on := 1, ground := Ground.phase }, { on := 2, ground := Ground.phase }], guard := none }
def rbn7_ops : Array Oper := #[rbn7_o0, rbn7_o1, rbn7_o2, rbn7_o3]
set_option maxRecDepth 100000 in
set_option maxHeartbeats 4000000 in
theorem rbn7 {q : Sp} {s : Bool} (a : Act) (w : World) (Q : Exit → Act → World → Prop) (zz : a.tmps.size = 67)
    (t51 : a.tmps.getD 51 undef = .agg #[.int .i64 (q.l : Int), .int .i64 (q.r : Int)])
    (t52 : a.tmps.getD 52 undef = .int .i64 (nb s : Int))
    (h : ∀ (a' : Act) (w' : World), w' = w → a' = ((((a).put (some 54) (.int .i64 (nb s : Int))).put (some 55) (.int .i64 (dn q s : Int))).put (some 7) (.int .i64 (nb s : Int))).put (some 8) (.int .i64 (dn q s : Int)) → Q .normal a' w') :
    (Code.region 7 rbn7_ops false).wp Try.prog Q a w := by
  refine z0 rfl ?_
  refine zv rfl (exec_move rfl (zi t52 rfl)) ?_
  refine zv (v := .int .i64 (dn q s : Int)) rfl (ex_ix2 rfl (zi t51 rfl) (zi t52 rfl)) ?_
  refine zv rfl (exec_assign rfl (zg zz rfl)) ?_
  refine zv rfl (exec_assign rfl (zg zz rfl)) ?_
  exact ze rfl (h _ _ (rfl) rfl)
def fill0_o0 : Oper := { dst := some 7, op := Op.move (Operand.tmp 0), type := 114, pos := "row.go:107", after := #[], guard := none }
def fill0_o1 : Oper := { dst := some 8, op := Op.nilCheck (Operand.tmp 7), type := 0, pos := "row.go:107", after := #[{ on := 0, ground := Ground.data }], guard := none }
def fill0_o2 : Oper := { dst := some 9, op := Op.fieldAddr 87 (Operand.tmp 8) 0, type := 0, pos := "row.go:107", after := #[{ on := 1, ground := Ground.data }], guard := none }
def fill0_o3 : Oper := { dst := some 10, op := Op.load 85 (Operand.tmp 9), type := 85, pos := "row.go:107", after := #[{ on := 2, ground := Ground.data }], guard := none }
def fill0_o4 : Oper := { dst := some 11, op := Op.call { callee := Callee.builtin Builtin.len, args := #[Operand.tmp 10], argTypes := #[85] }, type := 3, pos := "row.go:107", after := #[{ on := 3, ground := Ground.data }], guard := none }
def fill0_o5 : Oper := { dst := some 12, op := Op.binOp BinOp.sub 3 (Operand.tmp 11) (Operand.const (Value.int IntKind.i64 1)) 3, type := 3, pos := "row.go:107", after := #[{ on := 4, ground := Ground.data }], guard := none }
def fill0_o6 : Oper := { dst := some 4, op := Op.assign (Operand.tmp 12), type := 3, pos := "row.go:107", after := #[{ on := 5, ground := Ground.data }, { on := 0, ground := Ground.phase }, { on := 1, ground := Ground.phase }, { on := 2, ground := Ground.phase }, { on := 3, ground := Ground.phase }, { on := 4, ground := Ground.phase }, { on := 5, ground := Ground.phase }], guard := none }
def fill0_ops : Array Oper := #[fill0_o0, fill0_o1, fill0_o2, fill0_o3, fill0_o4, fill0_o5, fill0_o6]
set_option maxRecDepth 100000 in
set_option maxHeartbeats 4000000 in
theorem fill0 {rb ro g cap : Nat} {L : List Sp} {n : Nat} (a : Act) (w : World) (Q : Exit → Act → World → Prop) (zz : a.tmps.size = 62)
    (t0 : a.tmps.getD 0 undef = .pointer (some ⟨rb, ro, none⟩))
    (hR : SqAt w rb ro g cap L) (hn : L.length = n + 1 ∧ n ≤ 1400000000000)
    (h : ∀ (a' : Act) (w' : World), w' = w → a' = (((((((a).put (some 7) (.pointer (some ⟨rb, ro, none⟩))).put (some 8) (.pointer (some ⟨rb, ro, none⟩))).put (some 9) (.pointer (some ⟨rb, ro + 0, none⟩))).put (some 10) (.slice (some ⟨g, 0, none⟩) (L).length cap)).put (some 11) (.int .i64 (L.length : Int))).put (some 12) (.int .i64 (n : Int))).put (some 4) (.int .i64 (n : Int)) → Q .normal a' w') :
    (Code.region 0 fill0_ops false).wp Try.prog Q a w := by
  refine z0 rfl ?_
  refine zv rfl (exec_move rfl (zi t0 rfl)) ?_
  refine zv rfl (exec_nilCheck rfl (zg zz rfl)) ?_
  refine zv rfl (exec_fieldAt rfl (zg zz rfl) (fg_87_0 _ _ _)) ?_
  refine zv rfl (exec_load rfl (zg zz rfl) (R_sl hR)) ?_
  refine zv rfl (exec_len rfl (zg zz rfl) (len_sl _)) ?_
  refine zv (v := .int .i64 (n : Int)) rfl (ex_subN rfl (zg zz rfl) rfl hn) ?_
  refine zv rfl (exec_assign rfl (zg zz rfl)) ?_
  exact ze rfl (h _ _ (rfl) rfl)
def fill3_o0 : Oper := { dst := some 20, op := Op.move (Operand.tmp 0), type := 114, pos := "row.go:110", after := #[], guard := none }
def fill3_o1 : Oper := { dst := some 21, op := Op.nilCheck (Operand.tmp 20), type := 0, pos := "row.go:110", after := #[{ on := 0, ground := Ground.data }], guard := none }
def fill3_o2 : Oper := { dst := some 22, op := Op.fieldAddr 87 (Operand.tmp 21) 0, type := 0, pos := "row.go:110", after := #[{ on := 1, ground := Ground.data }], guard := none }
def fill3_o3 : Oper := { dst := some 23, op := Op.load 85 (Operand.tmp 22), type := 85, pos := "row.go:110", after := #[{ on := 2, ground := Ground.data }], guard := none }
def fill3_o4 : Oper := { dst := some 24, op := Op.move (Operand.tmp 1), type := 3, pos := "row.go:110", after := #[], guard := none }
def fill3_o5 : Oper := { dst := some 25, op := Op.move (Operand.tmp 0), type := 114, pos := "row.go:110", after := #[], guard := none }
def fill3_o6 : Oper := { dst := some 26, op := Op.nilCheck (Operand.tmp 25), type := 0, pos := "row.go:110", after := #[{ on := 5, ground := Ground.data }], guard := none }
def fill3_o7 : Oper := { dst := some 27, op := Op.fieldAddr 87 (Operand.tmp 26) 0, type := 0, pos := "row.go:110", after := #[{ on := 6, ground := Ground.data }], guard := none }
def fill3_o8 : Oper := { dst := some 28, op := Op.load 85 (Operand.tmp 27), type := 85, pos := "row.go:110", after := #[{ on := 7, ground := Ground.data }], guard := none }
def fill3_o9 : Oper := { dst := some 29, op := Op.move (Operand.tmp 4), type := 3, pos := "row.go:110", after := #[], guard := none }
def fill3_o10 : Oper := { dst := some 30, op := Op.indexAddr 85 (Operand.tmp 28) (Operand.tmp 29), type := 0, pos := "row.go:110", after := #[{ on := 8, ground := Ground.data }, { on := 9, ground := Ground.data }], guard := none }
def fill3_o11 : Oper := { dst := some 31, op := Op.load 113 (Operand.tmp 30), type := 113, pos := "row.go:110", after := #[{ on := 10, ground := Ground.data }], guard := none }
def fill3_o12 : Oper := { dst := some 32, op := Op.indexAddr 85 (Operand.tmp 23) (Operand.tmp 24), type := 0, pos := "row.go:110", after := #[{ on := 3, ground := Ground.data }, { on := 4, ground := Ground.data }, { on := 0, ground := Ground.phase }, { on := 1, ground := Ground.phase }, { on := 2, ground := Ground.phase }, { on := 3, ground := Ground.phase }, { on := 4, ground := Ground.phase }, { on := 5, ground := Ground.phase }, { on := 6, ground := Ground.phase }, { on := 7, ground := Ground.phase }, { on := 8, ground := Ground.phase }, { on := 9, ground := Ground.phase }, { on := 10, ground := Ground.phase }, { on := 11, ground := Ground.phase }], guard := none }
def fill3_o13 : Oper := { dst := none, op := Op.store 113 (Operand.tmp 32) (Operand.tmp 31), type := 0, pos := "row.go:110", after := #[{ on := 12, ground := Ground.data }, { on := 11, ground := Ground.data }, { on := 0, ground := Ground.phase }, { on := 1, ground := Ground.phase }, { on := 2, ground := Ground.phase }, { on := 3, ground := Ground.phase }, { on := 4, ground := Ground.phase }, { on := 5, ground := Ground.phase }, { on := 6, ground := Ground.phase }, { on := 7, ground := Ground.phase }, { on := 8, ground := Ground.phase }, { on := 9, ground := Ground.phase }, { on := 10, ground := Ground.phase }, { on := 11, ground := Ground.phase }], guard := none }
def fill3_ops : Array Oper := #[fill3_o0, fill3_o1, fill3_o2, fill3_o3, fill3_o4, fill3_o5, fill3_o6, fill3_o7, fill3_o8, fill3_o9, fill3_o10, fill3_o11, fill3_o12, fill3_o13]
set_option maxRecDepth 100000 in
set_option maxHeartbeats 4000000 in
theorem fill3 {rb ro g cap N f e : Nat} {sv : Value} {w2 : World} (a : Act) (w : World) (Q : Exit → Act → World → Prop) (zz : a.tmps.size = 62)
    (t0 : a.tmps.getD 0 undef = .pointer (some ⟨rb, ro, none⟩))
    (t1 : a.tmps.getD 1 undef = .int .i64 (f : Int))
    (t4 : a.tmps.getD 4 undef = .int .i64 (e : Int))
    (h0 : FS rb ro g cap N e sv w.drew) (XE : ∀ W, (Instr.indexAt 85 (.slice (some ⟨g, 0, none⟩) N cap) (.int .i64 (e : Int))).run Try.prog W = .ok (.pointer (some ⟨g, 73 * e, none⟩)) W) (XF : ∀ W, (Instr.indexAt 85 (.slice (some ⟨g, 0, none⟩) N cap) (.int .i64 (f : Int))).run Try.prog W = .ok (.pointer (some ⟨g, 73 * f, none⟩)) W) (ES : (Instr.storeAt 113 (.pointer (some ⟨g, 73 * f, none⟩)) sv).run Try.prog w.drew = .ok () w2) (S2 : FS rb ro g cap N e sv w2)
    (h : ∀ (a' : Act) (w' : World), w' = w2 → a' = (((((((((((((a).put (some 20) (.pointer (some ⟨rb, ro, none⟩))).put (some 21) (.pointer (some ⟨rb, ro, none⟩))).put (some 22) (.pointer (some ⟨rb, ro + 0, none⟩))).put (some 23) (.slice (some ⟨g, 0, none⟩) N cap)).put (some 24) (.int .i64 (f : Int))).put (some 25) (.pointer (some ⟨rb, ro, none⟩))).put (some 26) (.pointer (some ⟨rb, ro, none⟩))).put (some 27) (.pointer (some ⟨rb, ro + 0, none⟩))).put (some 28) (.slice (some ⟨g, 0, none⟩) N cap)).put (some 29) (.int .i64 (e : Int))).put (some 30) (.pointer (some ⟨g, 73 * e, none⟩))).put (some 31) (sv)).put (some 32) (.pointer (some ⟨g, 73 * f, none⟩)) → Q .normal a' w') :
    (Code.region 3 fill3_ops true).wp Try.prog Q a w := by
  refine y0 (fun w' => FS rb ro g cap N e sv w') (h0) (fun hHeld => ?_)
  refine yv 0 rfl rfl (fun w1 hw => exec_move rfl (zi t0 rfl)) hHeld ?_
  refine yv 1 rfl rfl (fun w1 hw => exec_nilCheck rfl (zg zz rfl)) hHeld ?_
  refine yv 2 rfl rfl (fun w1 hw => exec_fieldAt rfl (zg zz rfl) (fg_87_0 _ _ _)) hHeld ?_
  refine yv 3 rfl rfl (fun w1 hw => exec_load rfl (zg zz rfl) hw.1) hHeld ?_
  refine yv 4 rfl rfl (fun w1 hw => exec_move rfl (zi t1 rfl)) hHeld ?_
  refine yv 5 rfl rfl (fun w1 hw => exec_move rfl (zi t0 rfl)) hHeld ?_
  refine yv 6 rfl rfl (fun w1 hw => exec_nilCheck rfl (zg zz rfl)) hHeld ?_
  refine yv 7 rfl rfl (fun w1 hw => exec_fieldAt rfl (zg zz rfl) (fg_87_0 _ _ _)) hHeld ?_
  refine yv 8 rfl rfl (fun w1 hw => exec_load rfl (zg zz rfl) hw.1) hHeld ?_
  refine yv 9 rfl rfl (fun w1 hw => exec_move rfl (zi t4 rfl)) hHeld ?_
  refine yv 10 rfl rfl (fun w1 hw => exec_indexAt rfl (zg zz rfl) (zg zz rfl) (XE _)) hHeld ?_
  refine yv 11 rfl rfl (fun w1 hw => exec_load rfl (zg zz rfl) hw.2) hHeld ?_
  refine yv 12 rfl rfl (fun w1 hw => exec_indexAt rfl (zg zz rfl) (zg zz rfl) (XF _)) hHeld ?_
  refine ys 13 rfl rfl (exec_store rfl (zg zz rfl) (zg zz rfl) ES) (S2) (fun hHeld => ?_)
  exact ye rfl (h _ _ (rfl) rfl)
def fill4_o0 : Oper := { dst := some 33, op := Op.move (Operand.tmp 0), type := 114, pos := "row.go:111", after := #[], guard := none }
def fill4_o1 : Oper := { dst := some 34, op := Op.nilCheck (Operand.tmp 33), type := 0, pos := "row.go:111", after := #[{ on := 0, ground := Ground.data }], guard := none }
def fill4_o2 : Oper := { dst := some 35, op := Op.fieldAddr 87 (Operand.tmp 34) 0, type := 0, pos := "row.go:111", after := #[{ on := 1, ground := Ground.data }], guard := none }
def fill4_o3 : Oper := { dst := some 36, op := Op.load 85 (Operand.tmp 35), type := 85, pos := "row.go:111", after := #[{ on := 2, ground := Ground.data }], guard := none }
def fill4_o4 : Oper := { dst := some 37, op := Op.move (Operand.tmp 1), type := 3, pos := "row.go:111", after := #[], guard := none }
def fill4_o5 : Oper := { dst := some 38, op := Op.indexAddr 85 (Operand.tmp 36) (Operand.tmp 37), type := 0, pos := "row.go:111", after := #[{ on := 3, ground := Ground.data }, { on := 4, ground := Ground.data }], guard := none }
def fill4_o6 : Oper := { dst := some 39, op := Op.fieldAddr 113 (Operand.tmp 38) 3, type := 0, pos := "row.go:111", after := #[{ on := 5, ground := Ground.data }], guard := none }
def fill4_o7 : Oper := { dst := some 40, op := Op.load 111 (Operand.tmp 39), type := 111, pos := "row.go:111", after := #[{ on := 6, ground := Ground.data }], guard := none }
def fill4_o8 : Oper := { dst := some 41, op := Op.move (Operand.const (Value.int IntKind.i64 0)), type := 3, pos := "row.go:111", after := #[], guard := none }
def fill4_ops : Array Oper := #[fill4_o0, fill4_o1, fill4_o2, fill4_o3, fill4_o4, fill4_o5, fill4_o6, fill4_o7, fill4_o8]
set_option maxRecDepth 100000 in
set_option maxHeartbeats 4000000 in
theorem fill4 {rb ro g cap : Nat} {L : List Sp} {f : Nat} (a : Act) (w : World) (Q : Exit → Act → World → Prop) (zz : a.tmps.size = 62)
    (t0 : a.tmps.getD 0 undef = .pointer (some ⟨rb, ro, none⟩))
    (t1 : a.tmps.getD 1 undef = .int .i64 (f : Int))
    (hR : SqAt w rb ro g cap L) (hf : f < L.length)
    (h : ∀ (a' : Act) (w' : World), w' = w → a' = (((((((((a).put (some 33) (.pointer (some ⟨rb, ro, none⟩))).put (some 34) (.pointer (some ⟨rb, ro, none⟩))).put (some 35) (.pointer (some ⟨rb, ro + 0, none⟩))).put (some 36) (.slice (some ⟨g, 0, none⟩) (L).length cap)).put (some 37) (.int .i64 (f : Int))).put (some 38) (.pointer (some ⟨g, 73 * f, none⟩))).put (some 39) (.pointer (some ⟨g, 73 * f + 69, none⟩))).put (some 40) (.agg #[.int .i64 ((gt L f).l : Int), .int .i64 ((gt L f).r : Int)])).put (some 41) (.int .i64 0) → Q .normal a' w') :
    (Code.region 4 fill4_ops false).wp Try.prog Q a w := by
  refine z0 rfl ?_
  refine zv rfl (exec_move rfl (zi t0 rfl)) ?_
  refine zv rfl (exec_nilCheck rfl (zg zz rfl)) ?_
  refine zv rfl (exec_fieldAt rfl (zg zz rfl) (fg_87_0 _ _ _)) ?_
  refine zv rfl (exec_load rfl (zg zz rfl) (R_sl hR)) ?_
  refine zv rfl (exec_move rfl (zi t1 rfl)) ?_
  refine zv rfl (exec_indexAt rfl (zg zz rfl) (zg zz rfl) (R_ix hf hR.len _)) ?_
  refine zv rfl (exec_fieldAt rfl (zg zz rfl) (fg_113_3 _ _ _)) ?_
  refine zv rfl (exec_load rfl (zg zz rfl) (R_down hR hf)) ?_
  refine zv rfl (exec_move rfl rfl) ?_
  exact ze rfl (h _ _ (rfl) rfl)
def fill6_o0 : Oper := { dst := some 43, op := Op.move (Operand.tmp 41), type := 3, pos := "row.go:111", after := #[], guard := none }
def fill6_o1 : Oper := { dst := some 44, op := Op.index 111 (Operand.tmp 40) (Operand.tmp 41), type := 3, pos := "row.go:111", after := #[], guard := none }
def fill6_o2 : Oper := { dst := some 5, op := Op.assign (Operand.tmp 43), type := 3, pos := "row.go:111", after := #[{ on := 0, ground := Ground.data }, { on := 0, ground := Ground.phase }, { on := 1, ground := Ground.phase }], guard := none }
def fill6_o3 : Oper := { dst := some 6, op := Op.assign (Operand.tmp 44), type := 3, pos := "row.go:111", after := #[{ on := 1, ground := Ground.data }, { on := 2, ground := Ground.chain }, { on := 0, ground := Ground.phase }, { on := 1, ground := Ground.phase }, { on := 2, ground := Ground.phase }], guard := none }
def fill6_ops : Array Oper := #[fill6_o0, fill6_o1, fill6_o2, fill6_o3]
set_option maxRecDepth 100000 in
set_option maxHeartbeats 4000000 in
theorem fill6 {q : Sp} {s : Bool} (a : Act) (w : World) (Q : Exit → Act → World → Prop) (zz : a.tmps.size = 62)
    (t40 : a.tmps.getD 40 undef = .agg #[.int .i64 (q.l : Int), .int .i64 (q.r : Int)])
    (t41 : a.tmps.getD 41 undef = .int .i64 (nb s : Int))
    (h : ∀ (a' : Act) (w' : World), w' = w → a' = ((((a).put (some 43) (.int .i64 (nb s : Int))).put (some 44) (.int .i64 (dn q s : Int))).put (some 5) (.int .i64 (nb s : Int))).put (some 6) (.int .i64 (dn q s : Int)) → Q .normal a' w') :
    (Code.region 6 fill6_ops false).wp Try.prog Q a w := by
  refine z0 rfl ?_
  refine zv rfl (exec_move rfl (zi t41 rfl)) ?_
  refine zv (v := .int .i64 (dn q s : Int)) rfl (ex_ix2 rfl (zi t40 rfl) (zi t41 rfl)) ?_
  refine zv rfl (exec_assign rfl (zg zz rfl)) ?_
  refine zv rfl (exec_assign rfl (zg zz rfl)) ?_
  exact ze rfl (h _ _ (rfl) rfl)
def fill9_o0 : Oper := { dst := some 51, op := Op.move (Operand.tmp 0), type := 114, pos := "row.go:115", after := #[], guard := none }
def fill9_o1 : Oper := { dst := some 52, op := Op.move (Operand.tmp 0), type := 114, pos := "row.go:115", after := #[], guard := none }
def fill9_o2 : Oper := { dst := some 53, op := Op.nilCheck (Operand.tmp 52), type := 0, pos := "row.go:115", after := #[{ on := 1, ground := Ground.data }], guard := none }
def fill9_o3 : Oper := { dst := some 54, op := Op.fieldAddr 87 (Operand.tmp 53) 0, type := 0, pos := "row.go:115", after := #[{ on := 2, ground := Ground.data }], guard := none }
def fill9_o4 : Oper := { dst := some 55, op := Op.load 85 (Operand.tmp 54), type := 85, pos := "row.go:115", after := #[{ on := 3, ground := Ground.data }], guard := none }
def fill9_o5 : Oper := { dst := some 56, op := Op.move (Operand.tmp 4), type := 3, pos := "row.go:115", after := #[], guard := none }
def fill9_o6 : Oper := { dst := some 57, op := Op.move (Operand.tmp 4), type := 3, pos := "row.go:115", after := #[], guard := none }
def fill9_o7 : Oper := { dst := some 58, op := Op.binOp BinOp.add 3 (Operand.tmp 57) (Operand.const (Value.int IntKind.i64 1)) 3, type := 3, pos := "row.go:115", after := #[{ on := 6, ground := Ground.data }], guard := none }
def fill9_o8 : Oper := { dst := some 59, op := Op.call { callee := Callee.value (Operand.func 93), args := #[Operand.tmp 55, Operand.tmp 56, Operand.tmp 58], argTypes := #[85, 3, 3] }, type := 85, pos := "row.go:115", after := #[{ on := 4, ground := Ground.data }, { on := 5, ground := Ground.data }, { on := 7, ground := Ground.data }], guard := none }
def fill9_o9 : Oper := { dst := some 60, op := Op.nilCheck (Operand.tmp 51), type := 0, pos := "row.go:115", after := #[{ on := 0, ground := Ground.data }, { on := 0, ground := Ground.phase }, { on := 1, ground := Ground.phase }, { on := 2, ground := Ground.phase }, { on := 3, ground := Ground.phase }, { on := 4, ground := Ground.phase }, { on := 5, ground := Ground.phase }, { on := 6, ground := Ground.phase }, { on := 7, ground := Ground.phase }, { on := 8, ground := Ground.phase }], guard := none }
def fill9_o10 : Oper := { dst := some 61, op := Op.fieldAddr 87 (Operand.tmp 60) 0, type := 0, pos := "row.go:115", after := #[{ on := 9, ground := Ground.data }, { on := 0, ground := Ground.phase }, { on := 1, ground := Ground.phase }, { on := 2, ground := Ground.phase }, { on := 3, ground := Ground.phase }, { on := 4, ground := Ground.phase }, { on := 5, ground := Ground.phase }, { on := 6, ground := Ground.phase }, { on := 7, ground := Ground.phase }, { on := 8, ground := Ground.phase }], guard := none }
def fill9_o11 : Oper := { dst := none, op := Op.store 85 (Operand.tmp 61) (Operand.tmp 59), type := 0, pos := "row.go:115", after := #[{ on := 10, ground := Ground.data }, { on := 8, ground := Ground.data }, { on := 8, ground := Ground.chain }, { on := 0, ground := Ground.phase }, { on := 1, ground := Ground.phase }, { on := 2, ground := Ground.phase }, { on := 3, ground := Ground.phase }, { on := 4, ground := Ground.phase }, { on := 5, ground := Ground.phase }, { on := 6, ground := Ground.phase }, { on := 7, ground := Ground.phase }, { on := 8, ground := Ground.phase }], guard := none }
def fill9_ops : Array Oper := #[fill9_o0, fill9_o1, fill9_o2, fill9_o3, fill9_o4, fill9_o5, fill9_o6, fill9_o7, fill9_o8, fill9_o9, fill9_o10, fill9_o11]
set_option maxRecDepth 100000 in
set_option maxHeartbeats 4000000 in
theorem fill9 {rb ro g cap : Nat} {L : List Sp} {n : Nat} (Fin : World → Prop) (a : Act) (w : World) (Q : Exit → Act → World → Prop) (zz : a.tmps.size = 62)
    (t0 : a.tmps.getD 0 undef = .pointer (some ⟨rb, ro, none⟩))
    (t4 : a.tmps.getD 4 undef = .int .i64 (n : Int))
    (hR : SqAt w rb ro g cap L) (hs : n + 1 ≤ 9223372036854775807) (CD : Calls Try.prog 93 #[.slice (some ⟨g, 0, none⟩) L.length cap, .int .i64 (n : Int), .int .i64 ((n + 1 : Nat) : Int)] w fun e w' => e = .returned (.slice (some ⟨g, 0, none⟩) n cap) ∧ ∃ w2, (Instr.storeAt 85 (.pointer (some ⟨rb, ro + 0, none⟩)) (.slice (some ⟨g, 0, none⟩) n cap)).run Try.prog w' = .ok () w2 ∧ Fin w2)
    (h : ∀ (a' : Act) (w' : World), Fin w' → a' = (((((((((((a).put (some 51) (.pointer (some ⟨rb, ro, none⟩))).put (some 52) (.pointer (some ⟨rb, ro, none⟩))).put (some 53) (.pointer (some ⟨rb, ro, none⟩))).put (some 54) (.pointer (some ⟨rb, ro + 0, none⟩))).put (some 55) (.slice (some ⟨g, 0, none⟩) (L).length cap)).put (some 56) (.int .i64 (n : Int))).put (some 57) (.int .i64 (n : Int))).put (some 58) (.int .i64 ((n + 1 : Nat) : Int))).put (some 59) (.slice (some ⟨g, 0, none⟩) n cap)).put (some 60) (.pointer (some ⟨rb, ro, none⟩))).put (some 61) (.pointer (some ⟨rb, ro + 0, none⟩)) → Q .normal a' w') :
    (Code.region 9 fill9_ops false).wp Try.prog Q a w := by
  refine z0 rfl ?_
  refine zv rfl (exec_move rfl (zi t0 rfl)) ?_
  refine zv rfl (exec_move rfl (zi t0 rfl)) ?_
  refine zv rfl (exec_nilCheck rfl (zg zz rfl)) ?_
  refine zv rfl (exec_fieldAt rfl (zg zz rfl) (fg_87_0 _ _ _)) ?_
  refine zv rfl (exec_load rfl (zg zz rfl) (R_sl hR)) ?_
  refine zv rfl (exec_move rfl (zi t4 rfl)) ?_
  refine zv rfl (exec_move rfl (zi t4 rfl)) ?_
  refine zv (v := .int .i64 ((n + 1 : Nat) : Int)) rfl (ex_addN (q := 1) rfl (zg zz rfl) rfl hs) ?_
  refine zc rfl (exec_c3 rfl (zg zz rfl) (zg zz rfl) (zg zz rfl)) (CD) (fun e x8 hx => ?_)
  obtain ⟨rfl, w2, ES, HF⟩ := hx
  refine ⟨_, rfl, ?_⟩
  refine zv rfl (exec_nilCheck rfl (zg zz rfl)) ?_
  refine zv rfl (exec_fieldAt rfl (zg zz rfl) (fg_87_0 _ _ _)) ?_
  refine zs rfl (exec_store rfl (zg zz rfl) (zg zz rfl) ES) ?_
  exact ze rfl (h _ _ (HF) rfl)
def del1_o0 : Oper := { dst := some 8, op := Op.move (Operand.tmp 0), type := 85, pos := "slices.go:225", after := #[], guard := none }
def del1_o1 : Oper := { dst := some 9, op := Op.move (Operand.tmp 1), type := 3, pos := "slices.go:225", after := #[], guard := none }
def del1_o2 : Oper := { dst := some 10, op := Op.move (Operand.tmp 2), type := 3, pos := "slices.go:225", after := #[], guard := none }
def del1_o3 : Oper := { dst := some 11, op := Op.move (Operand.tmp 0), type := 85, pos := "slices.go:225", after := #[], guard := none }
def del1_o4 : Oper := { dst := some 12, op := Op.call { callee := Callee.builtin Builtin.len, args := #[Operand.tmp 11], argTypes := #[85] }, type := 3, pos := "slices.go:225", after := #[{ on := 3, ground := Ground.data }], guard := none }
def del1_o5 : Oper := { dst := some 13, op := Op.slice 85 (Operand.tmp 8) (some (Operand.tmp 9)) (some (Operand.tmp 10)) (some (Operand.tmp 12)), type := 85, pos := "slices.go:225", after := #[{ on := 0, ground := Ground.data }, { on := 1, ground := Ground.data }, { on := 2, ground := Ground.data }, { on := 4, ground := Ground.data }], guard := none }
def del1_ops : Array Oper := #[del1_o0, del1_o1, del1_o2, del1_o3, del1_o4, del1_o5]
set_option maxRecDepth 100000 in
set_option maxHeartbeats 4000000 in
theorem del1 {g n cap : Nat} {sv : Value} (a : Act) (w : World) (Q : Exit → Act → World → Prop) (zz : a.tmps.size = 33)
    (t0 : a.tmps.getD 0 undef = .slice (some ⟨g, 0, none⟩) (n + 1) cap)
    (t1 : a.tmps.getD 1 undef = .int .i64 (n : Int))
    (t2 : a.tmps.getD 2 undef = .int .i64 ((n + 1 : Nat) : Int))
    (E : ∀ W, (Instr.sliceAt 85 (.slice (some ⟨g, 0, none⟩) (n + 1) cap) (some (.int .i64 (n : Int))) (some (.int .i64 ((n + 1 : Nat) : Int))) (some (.int .i64 ((n + 1 : Nat) : Int)))).run Try.prog W = .ok sv W)
    (h : ∀ (a' : Act) (w' : World), w' = w → a' = ((((((a).put (some 8) (.slice (some ⟨g, 0, none⟩) (n + 1) cap)).put (some 9) (.int .i64 (n : Int))).put (some 10) (.int .i64 ((n + 1 : Nat) : Int))).put (some 11) (.slice (some ⟨g, 0, none⟩) (n + 1) cap)).put (some 12) (.int .i64 ((n + 1 : Nat) : Int))).put (some 13) (sv) → Q .normal a' w') :
    (Code.region 1 del1_ops false).wp Try.prog Q a w := by
  refine z0 rfl ?_
  refine zv rfl (exec_move rfl (zi t0 rfl)) ?_
  refine zv rfl (exec_move rfl (zi t1 rfl)) ?_
  refine zv rfl (exec_move rfl (zi t2 rfl)) ?_
  refine zv rfl (exec_move rfl (zi t0 rfl)) ?_
  refine zv rfl (exec_len rfl (zg zz rfl) (len_sl _)) ?_
  refine zv (v := sv) rfl (exec_slice rfl (zg zz rfl) (congrArg some (zg zz rfl)) (congrArg some (zg zz rfl)) (congrArg some (zg zz rfl)) (E _)) ?_
  exact ze rfl (h _ _ (rfl) rfl)
def del5_o0 : Oper := { dst := some 20, op := Op.move (Operand.tmp 0), type := 85, pos := "slices.go:232", after := #[], guard := none }
def del5_o1 : Oper := { dst := some 21, op := Op.move (Operand.tmp 1), type := 3, pos := "slices.go:232", after := #[], guard := none }
def del5_o2 : Oper := { dst := some 22, op := Op.slice 85 (Operand.tmp 20) none (some (Operand.tmp 21)) none, type := 85, pos := "slices.go:232", after := #[{ on := 0, ground := Ground.data }, { on := 1, ground := Ground.data }], guard := none }
def del5_o3 : Oper := { dst := some 23, op := Op.move (Operand.tmp 0), type := 85, pos := "slices.go:232", after := #[], guard := none }
def del5_o4 : Oper := { dst := some 24, op := Op.move (Operand.tmp 2), type := 3, pos := "slices.go:232", after := #[], guard := none }
def del5_o5 : Oper := { dst := some 25, op := Op.slice 85 (Operand.tmp 23) (some (Operand.tmp 24)) none none, type := 85, pos := "slices.go:232", after := #[{ on := 3, ground := Ground.data }, { on := 4, ground := Ground.data }], guard := none }
def del5_o6 : Oper := { dst := some 26, op := Op.call { callee := Callee.builtin Builtin.append, args := #[Operand.tmp 22, Operand.tmp 25], argTypes := #[85, 85] }, type := 85, pos := "slices.go:232", after := #[{ on := 2, ground := Ground.data }, { on := 5, ground := Ground.data }], guard := none }
def del5_o7 : Oper := { dst := some 0, op := Op.assign (Operand.tmp 26), type := 85, pos := "slices.go:232", after := #[{ on := 6, ground := Ground.data }, { on := 6, ground := Ground.chain }, { on := 0, ground := Ground.phase }, { on := 1, ground := Ground.phase }, { on := 2, ground := Ground.phase }, { on := 3, ground := Ground.phase }, { on := 4, ground := Ground.phase }, { on := 5, ground := Ground.phase }, { on := 6, ground := Ground.phase }], guard := none }
def del5_ops : Array Oper := #[del5_o0, del5_o1, del5_o2, del5_o3, del5_o4, del5_o5, del5_o6, del5_o7]
set_option maxRecDepth 100000 in
set_option maxHeartbeats 4000000 in
theorem del5 {g n cap : Nat} {sv : Value} (a : Act) (w : World) (Q : Exit → Act → World → Prop) (zz : a.tmps.size = 33)
    (t0 : a.tmps.getD 0 undef = .slice (some ⟨g, 0, none⟩) (n + 1) cap)
    (t1 : a.tmps.getD 1 undef = .int .i64 (n : Int))
    (t2 : a.tmps.getD 2 undef = .int .i64 ((n + 1 : Nat) : Int))
    (E1 : ∀ W, (Instr.sliceAt 85 (.slice (some ⟨g, 0, none⟩) (n + 1) cap) none (some (.int .i64 (n : Int))) none).run Try.prog W = .ok (.slice (some ⟨g, 0, none⟩) n cap) W) (E2 : ∀ W, (Instr.sliceAt 85 (.slice (some ⟨g, 0, none⟩) (n + 1) cap) (some (.int .i64 ((n + 1 : Nat) : Int))) none none).run Try.prog W = .ok sv W) (EA : (Builtin.append_ #[85, 85] 85 #[.slice (some ⟨g, 0, none⟩) n cap, sv]).run Try.prog w.drew = .ok (.slice (some ⟨g, 0, none⟩) n cap) w.drew)
    (h : ∀ (a' : Act) (w' : World), w' = w.drew → a' = ((((((((a).put (some 20) (.slice (some ⟨g, 0, none⟩) (n + 1) cap)).put (some 21) (.int .i64 (n : Int))).put (some 22) (.slice (some ⟨g, 0, none⟩) n cap)).put (some 23) (.slice (some ⟨g, 0, none⟩) (n + 1) cap)).put (some 24) (.int .i64 ((n + 1 : Nat) : Int))).put (some 25) (sv)).put (some 26) (.slice (some ⟨g, 0, none⟩) n cap)).put (some 0) (.slice (some ⟨g, 0, none⟩) n cap) → Q .normal a' w') :
    (Code.region 5 del5_ops true).wp Try.prog Q a w := by
  refine y0 (fun w' => w' = w.drew) (rfl) (fun hHeld => ?_)
  refine yv 0 rfl rfl (fun w1 hw => exec_move rfl (zi t0 rfl)) hHeld ?_
  refine yv 1 rfl rfl (fun w1 hw => exec_move rfl (zi t1 rfl)) hHeld ?_
  refine yv (v := .slice (some ⟨g, 0, none⟩) n cap) 2 rfl rfl (fun w1 hw => exec_slice rfl (zg zz rfl) rfl (congrArg some (zg zz rfl)) rfl (E1 _)) hHeld ?_
  refine yv 3 rfl rfl (fun w1 hw => exec_move rfl (zi t0 rfl)) hHeld ?_
  refine yv 4 rfl rfl (fun w1 hw => exec_move rfl (zi t2 rfl)) hHeld ?_
  refine yv (v := sv) 5 rfl rfl (fun w1 hw => exec_slice rfl (zg zz rfl) (congrArg some (zg zz rfl)) rfl rfl (E2 _)) hHeld ?_
  refine yr (v := .slice (some ⟨g, 0, none⟩) n cap) 6 rfl rfl (exec_append rfl (zg zz rfl) (zg zz rfl) (hHeld ▸ EA)) (hHeld) (fun hHeld => ?_)
  refine yv 7 rfl rfl (fun w1 hw => exec_assign rfl (zg zz rfl)) hHeld ?_
  exact ye rfl (h _ _ (hHeld) rfl)
def del6_o0 : Oper := { dst := some 27, op := Op.move (Operand.tmp 0), type := 85, pos := "slices.go:233", after := #[], guard := none }
def del6_o1 : Oper := { dst := some 28, op := Op.move (Operand.tmp 0), type := 85, pos := "slices.go:233", after := #[], guard := none }
def del6_o2 : Oper := { dst := some 29, op := Op.call { callee := Callee.builtin Builtin.len, args := #[Operand.tmp 28], argTypes := #[85] }, type := 3, pos := "slices.go:233", after := #[{ on := 1, ground := Ground.data }], guard := none }
def del6_o3 : Oper := { dst := some 30, op := Op.move (Operand.tmp 7), type := 3, pos := "slices.go:233", after := #[], guard := none }
def del6_o4 : Oper := { dst := some 31, op := Op.slice 85 (Operand.tmp 27) (some (Operand.tmp 29)) (some (Operand.tmp 30)) none, type := 85, pos := "slices.go:233", after := #[{ on := 0, ground := Ground.data }, { on := 2, ground := Ground.data }, { on := 3, ground := Ground.data }], guard := none }
def del6_o5 : Oper := { dst := none, op := Op.call { callee := Callee.builtin Builtin.clear, args := #[Operand.tmp 31], argTypes := #[85] }, type := 0, pos := "slices.go:233", after := #[{ on := 4, ground := Ground.data }], guard := none }
def del6_ops : Array Oper := #[del6_o0, del6_o1, del6_o2, del6_o3, del6_o4, del6_o5]
set_option maxRecDepth 100000 in
set_option maxHeartbeats 4000000 in
theorem del6 {g n cap : Nat} {vv : Value} {w2 : World} (a : Act) (w : World) (Q : Exit → Act → World → Prop) (zz : a.tmps.size = 33)
    (t0 : a.tmps.getD 0 undef = .slice (some ⟨g, 0, none⟩) n cap)
    (t7 : a.tmps.getD 7 undef = .int .i64 ((n + 1 : Nat) : Int))
    (E1 : ∀ W, (Instr.sliceAt 85 (.slice (some ⟨g, 0, none⟩) n cap) (some (.int .i64 (n : Int))) (some (.int .i64 ((n + 1 : Nat) : Int))) none).run Try.prog W = .ok (.slice (some ⟨g, n * 73, none⟩) 1 (cap - n)) W) (EC : (Builtin.clear_ #[85] 0 #[.slice (some ⟨g, n * 73, none⟩) 1 (cap - n)]).run Try.prog w = .ok vv w2)
    (h : ∀ (a' : Act) (w' : World), w' = w2 → a' = (((((a).put (some 27) (.slice (some ⟨g, 0, none⟩) n cap)).put (some 28) (.slice (some ⟨g, 0, none⟩) n cap)).put (some 29) (.int .i64 (n : Int))).put (some 30) (.int .i64 ((n + 1 : Nat) : Int))).put (some 31) (.slice (some ⟨g, n * 73, none⟩) 1 (cap - n)) → Q .normal a' w') :
    (Code.region 6 del6_ops false).wp Try.prog Q a w := by
  refine z0 rfl ?_
  refine zv rfl (exec_move rfl (zi t0 rfl)) ?_
  refine zv rfl (exec_move rfl (zi t0 rfl)) ?_
  refine zv rfl (exec_len rfl (zg zz rfl) (len_sl _)) ?_
  refine zv rfl (exec_move rfl (zi t7 rfl)) ?_
  refine zv (v := .slice (some ⟨g, n * 73, none⟩) 1 (cap - n)) rfl (exec_slice rfl (zg zz rfl) (congrArg some (zg zz rfl)) (congrArg some (zg zz rfl)) rfl (E1 _)) ?_
  refine zd rfl (exec_clear rfl (zg zz rfl) EC) ?_
  exact ze rfl (h _ _ (rfl) rfl)
end Go.Proofs.Ytlejbdepoemcjaa
