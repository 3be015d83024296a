import Derived.Test.YtlejbdepoemcjaaZr
import Derived.Test.YtlejbdepoemcjaaXg
namespace Go.Proofs.Ytlejbdepoemcjaa
open Go.RowKit Sq
set_option linter.unusedVariables false
set_option linter.unusedSimpArgs false

theorem ex_nb {w : World} {a : Act} {o : Oper} {x y : Operand} {s : Bool} (ho : o.op = .binOp .sub 3 x y 3) (hx : a.eval x = .int .i64 1) (hy : a.eval y = .int .i64 (nb s : Int)) : (execOp a.eval o).run Try.prog w = .ok (.value (.int .i64 (nb (!s) : Int))) w := by
  have := ex_sub (w := w) ho hx hy (by cases s <;> decide)
  rw [this]
  cases s <;> rfl
theorem ex_ix2 {w : World} {a : Act} {o : Oper} {x y : Operand} {s : Bool} {q : Sp} (ho : o.op = .index 111 x y) (hx : a.eval x = .agg #[.int .i64 (q.l : Int), .int .i64 (q.r : Int)]) (hy : a.eval y = .int .i64 (nb s : Int)) : (execOp a.eval o).run Try.prog w = .ok (.value (.int .i64 (dn q s : Int))) w := by
  unfold execOp
  rw [ho]
  simp only [hx, hy]
  have hs := m_sz (t := 3) (n := 1) (by kernel_rfl) w
  have p0 : (Go.part 3 #[.int .i64 (q.l : Int), .int .i64 (q.r : Int)] 0).run Try.prog w = .ok (.int .i64 (q.l : Int)) w := m_one (agInt w) rfl
  have p1 : (Go.part 3 #[.int .i64 (q.l : Int), .int .i64 (q.r : Int)] 1).run Try.prog w = .ok (.int .i64 (q.r : Int)) w := m_one (agInt w) rfl
  cases s <;> simp only [nb, dn, Bool.false_eq_true, if_false, if_true] <;> simp [Instr.index, run_underlying Try.underlying111, asIntOf, hs, p0, p1, Sem.run_bind, Result.andThen]
def MS (rb ro g cap N : Nat) (w' : World) : Prop := (Instr.loadAt 85 (.pointer (some ⟨rb, ro + 0, none⟩))).run Try.prog w' = .ok (.slice (some ⟨g, 0, none⟩) N cap) w'
def lift0r_o0 : Oper := { dst := some 6, op := Op.move (Operand.tmp 0), type := 114, pos := "row.go:210", after := #[], guard := none }
def lift0r_o1 : Oper := { dst := some 7, op := Op.nilCheck (Operand.tmp 6), type := 0, pos := "row.go:210", after := #[{ on := 0, ground := Ground.data }], guard := none }
def lift0r_o2 : Oper := { dst := some 8, op := Op.fieldAddr 87 (Operand.tmp 7) 0, type := 0, pos := "row.go:210", after := #[{ on := 1, ground := Ground.data }], guard := none }
def lift0r_o3 : Oper := { dst := some 9, op := Op.load 85 (Operand.tmp 8), type := 85, pos := "row.go:210", after := #[{ on := 2, ground := Ground.data }], guard := none }
def lift0r_o4 : Oper := { dst := some 10, op := Op.move (Operand.tmp 1), type := 3, pos := "row.go:210", after := #[], guard := none }
def lift0r_o5 : Oper := { dst := some 11, op := Op.indexAddr 85 (Operand.tmp 9) (Operand.tmp 10), type := 0, pos := "row.go:210", after := #[{ on := 3, ground := Ground.data }, { on := 4, ground := Ground.data }], guard := none }
def lift0r_o6 : Oper := { dst := some 12, op := Op.fieldAddr 113 (Operand.tmp 11) 2, type := 0, pos := "row.go:210", after := #[{ on := 5, ground := Ground.data }], guard := none }
def lift0r_o7 : Oper := { dst := some 13, op := Op.load 3 (Operand.tmp 12), type := 3, pos := "row.go:210", after := #[{ on := 6, ground := Ground.data }], guard := none }
def lift0r_o8 : Oper := { dst := some 14, op := Op.move (Operand.tmp 0), type := 114, pos := "row.go:210", after := #[], guard := none }
def lift0r_o9 : Oper := { dst := some 15, op := Op.move (Operand.tmp 1), type := 3, pos := "row.go:210", after := #[], guard := none }
def lift0r_o10 : Oper := { dst := some 16, op := Op.call { callee := Callee.value (Operand.func 92), args := #[Operand.tmp 14, Operand.tmp 15], argTypes := #[114, 3] }, type := 3, pos := "row.go:210", after := #[{ on := 8, ground := Ground.data }, { on := 9, ground := Ground.data }], guard := none }
def lift0r_o11 : Oper := { dst := some 4, op := Op.assign (Operand.tmp 13), type := 3, pos := "row.go:210", after := #[{ on := 7, ground := Ground.data }, { on := 10, ground := Ground.chain }, { on := 0, ground := Ground.phase }, { on := 1, ground := Ground.phase }, { on := 2, ground := Ground.phase }, { on := 3, ground := Ground.phase }, { on := 4, ground := Ground.phase }, { on := 5, ground := Ground.phase }, { on := 6, ground := Ground.phase }, { on := 7, ground := Ground.phase }, { on := 8, ground := Ground.textOnly Departure.lateStores }, { on := 9, ground := Ground.textOnly Departure.lateStores }, { on := 10, ground := Ground.textOnly Departure.lateStoresUnsure }], guard := none }
def lift0r_o12 : Oper := { dst := some 5, op := Op.assign (Operand.tmp 16), type := 3, pos := "row.go:210", after := #[{ on := 10, ground := Ground.data }, { on := 11, ground := Ground.chain }, { on := 0, ground := Ground.phase }, { on := 1, ground := Ground.phase }, { on := 2, ground := Ground.phase }, { on := 3, ground := Ground.phase }, { on := 4, ground := Ground.phase }, { on := 5, ground := Ground.phase }, { on := 6, ground := Ground.phase }, { on := 7, ground := Ground.phase }, { on := 8, ground := Ground.phase }, { on := 9, ground := Ground.phase }, { on := 10, ground := Ground.phase }, { on := 11, ground := Ground.phase }], guard := none }
def lift0r_ops : Array Oper := #[lift0r_o0, lift0r_o1, lift0r_o2, lift0r_o3, lift0r_o4, lift0r_o5, lift0r_o6, lift0r_o7, lift0r_o8, lift0r_o9, lift0r_o10, lift0r_o11, lift0r_o12]
set_option maxRecDepth 100000 in
set_option maxHeartbeats 4000000 in
theorem lift0r {rb ro g cap : Nat} {L : List Sp} {i : Nat} {s : Bool} (a : Act) (w : World) (Q : Exit → Act → World → Prop) (zz : a.tmps.size = 48)
    (t0 : a.tmps.getD 0 undef = .pointer (some ⟨rb, ro, none⟩))
    (t1 : a.tmps.getD 1 undef = .int .i64 (i : Int))
    (hR : SqAt w rb ro g cap L) (hi : i < L.length) (hl : L.length ≤ 1400000000000) (CS : Calls Try.prog 92 #[.pointer (some ⟨rb, ro, none⟩), .int .i64 (i : Int)] w.drew fun e w' => e = .returned (.int .i64 (nb s : Int)) ∧ SqAt w' rb ro g cap L ∧ Qt w w')
    (h : ∀ (a' : Act) (w' : World), SqAt w' rb ro g cap L ∧ Qt w w' → a' = (((((((((((((a).put (some 6) (.pointer (some ⟨rb, ro, none⟩))).put (some 7) (.pointer (some ⟨rb, ro, none⟩))).put (some 8) (.pointer (some ⟨rb, ro + 0, none⟩))).put (some 9) (.slice (some ⟨g, 0, none⟩) (L).length cap)).put (some 10) (.int .i64 (i : Int))).put (some 11) (.pointer (some ⟨g, 73 * i, none⟩))).put (some 12) (.pointer (some ⟨g, 73 * i + 68, none⟩))).put (some 13) (.int .i64 ((gt L i).up : Int))).put (some 14) (.pointer (some ⟨rb, ro, none⟩))).put (some 15) (.int .i64 (i : Int))).put (some 16) (.int .i64 (nb s : Int))).put (some 4) (.int .i64 ((gt L i).up : Int))).put (some 5) (.int .i64 (nb s : Int)) → Q .normal a' w') :
    (Code.region 0 lift0r_ops true).wp Try.prog Q a w := by
  refine y0 (fun w' => SqAt w' rb ro g cap L ∧ Qt w w') (⟨hR.drew, Qt.drew w⟩) (fun hHeld => ?_)
  refine yv 0 rfl rfl (fun w1 hw => exec_move rfl (zi t0 rfl)) hHeld ?_
  refine yv 1 rfl rfl (fun w1 hw => exec_nilCheck rfl (zg zz rfl)) hHeld ?_
  refine yv 2 rfl rfl (fun w1 hw => exec_fieldAt rfl (zg zz rfl) (fg_87_0 _ _ _)) hHeld ?_
  refine yv 3 rfl rfl (fun w1 hw => exec_load rfl (zg zz rfl) (R_sl hw.1)) hHeld ?_
  refine yv 4 rfl rfl (fun w1 hw => exec_move rfl (zi t1 rfl)) hHeld ?_
  refine yv 5 rfl rfl (fun w1 hw => exec_indexAt rfl (zg zz rfl) (zg zz rfl) (R_ix hi hl _)) hHeld ?_
  refine yv 6 rfl rfl (fun w1 hw => exec_fieldAt rfl (zg zz rfl) (fg_113_2 _ _ _)) hHeld ?_
  refine yv 7 rfl rfl (fun w1 hw => exec_load rfl (zg zz rfl) (R_up hw.1 hi)) hHeld ?_
  refine yv 8 rfl rfl (fun w1 hw => exec_move rfl (zi t0 rfl)) hHeld ?_
  refine yv 9 rfl rfl (fun w1 hw => exec_move rfl (zi t1 rfl)) hHeld ?_
  refine yc 10 rfl rfl (exec_c2 rfl (zg zz rfl) (zg zz rfl)) (CS) (fun e x10 hx => ?_)
  obtain ⟨rfl, S1⟩ := hx
  refine ⟨_, rfl, S1, fun hHeld => ?_⟩
  refine yv 11 rfl rfl (fun w1 hw => exec_assign rfl (zg zz rfl)) hHeld ?_
  refine yv 12 rfl rfl (fun w1 hw => exec_assign rfl (zg zz rfl)) hHeld ?_
  exact ye rfl (h _ _ (hHeld) rfl)
def lift2r_o0 : Oper := { dst := some 21, op := Op.move (Operand.tmp 0), type := 114, pos := "row.go:212", after := #[], guard := none }
def lift2r_o1 : Oper := { dst := some 22, op := Op.move (Operand.tmp 4), type := 3, pos := "row.go:212", after := #[], guard := none }
def lift2r_o2 : Oper := { dst := some 23, op := Op.move (Operand.tmp 5), type := 3, pos := "row.go:212", after := #[], guard := none }
def lift2r_o3 : Oper := { dst := some 24, op := Op.move (Operand.tmp 0), type := 114, pos := "row.go:212", after := #[], guard := none }
def lift2r_o4 : Oper := { dst := some 25, op := Op.nilCheck (Operand.tmp 24), type := 0, pos := "row.go:212", after := #[{ on := 3, ground := Ground.data }], guard := none }
def lift2r_o5 : Oper := { dst := some 26, op := Op.fieldAddr 87 (Operand.tmp 25) 0, type := 0, pos := "row.go:212", after := #[{ on := 4, ground := Ground.data }], guard := none }
def lift2r_o6 : Oper := { dst := some 27, op := Op.load 85 (Operand.tmp 26), type := 85, pos := "row.go:212", after := #[{ on := 5, ground := Ground.data }], guard := none }
def lift2r_o7 : Oper := { dst := some 28, op := Op.move (Operand.tmp 1), type := 3, pos := "row.go:212", after := #[], guard := none }
def lift2r_o8 : Oper := { dst := some 29, op := Op.move (Operand.tmp 5), type := 3, pos := "row.go:212", after := #[], guard := none }
def lift2r_o9 : Oper := { dst := some 30, op := Op.binOp BinOp.sub 3 (Operand.const (Value.int IntKind.i64 1)) (Operand.tmp 29) 3, type := 3, pos := "row.go:212", after := #[{ on := 8, ground := Ground.data }], guard := none }
def lift2r_o10 : Oper := { dst := some 31, op := Op.indexAddr 85 (Operand.tmp 27) (Operand.tmp 28), type := 0, pos := "row.go:212", after := #[{ on := 6, ground := Ground.data }, { on := 7, ground := Ground.data }], guard := none }
def lift2r_o11 : Oper := { dst := some 32, op := Op.fieldAddr 113 (Operand.tmp 31) 3, type := 0, pos := "row.go:212", after := #[{ on := 10, ground := Ground.data }], guard := none }
def lift2r_o12 : Oper := { dst := some 33, op := Op.indexAddr 111 (Operand.tmp 32) (Operand.tmp 30), type := 0, pos := "row.go:212", after := #[{ on := 11, ground := Ground.data }, { on := 9, ground := Ground.data }], guard := none }
def lift2r_o13 : Oper := { dst := some 34, op := Op.load 3 (Operand.tmp 33), type := 3, pos := "row.go:212", after := #[{ on := 12, ground := Ground.data }], guard := none }
def lift2r_o14 : Oper := { dst := some 35, op := Op.call { callee := Callee.value (Operand.func 76), args := #[Operand.tmp 21, Operand.tmp 22, Operand.tmp 23, Operand.tmp 34], argTypes := #[114, 3, 3, 3] }, type := 0, pos := "row.go:212", after := #[{ on := 0, ground := Ground.data }, { on := 1, ground := Ground.data }, { on := 2, ground := Ground.data }, { on := 13, ground := Ground.data }], guard := none }
def lift2r_ops : Array Oper := #[lift2r_o0, lift2r_o1, lift2r_o2, lift2r_o3, lift2r_o4, lift2r_o5, lift2r_o6, lift2r_o7, lift2r_o8, lift2r_o9, lift2r_o10, lift2r_o11, lift2r_o12, lift2r_o13, lift2r_o14]
set_option maxRecDepth 100000 in
set_option maxHeartbeats 4000000 in
theorem lift2r {rb ro g cap : Nat} {L : List Sp} {i u : Nat} {s : Bool} (Fin : World → Prop) (a : Act) (w : World) (Q : Exit → Act → World → Prop) (zz : a.tmps.size = 48)
    (t0 : a.tmps.getD 0 undef = .pointer (some ⟨rb, ro, none⟩))
    (t1 : a.tmps.getD 1 undef = .int .i64 (i : Int))
    (t4 : a.tmps.getD 4 undef = .int .i64 (u : Int))
    (t5 : a.tmps.getD 5 undef = .int .i64 (nb s : Int))
    (hR : SqAt w rb ro g cap L) (hi : i < L.length) (CH : Calls Try.prog 76 #[.pointer (some ⟨rb, ro, none⟩), .int .i64 (u : Int), .int .i64 (nb s : Int), .int .i64 (dn (gt L i) (!s) : Int)] w fun e w' => e = .returned (.tuple #[]) ∧ Fin w')
    (h : ∀ (a' : Act) (w' : World), Fin w' → a' = (((((((((((((((a).put (some 21) (.pointer (some ⟨rb, ro, none⟩))).put (some 22) (.int .i64 (u : Int))).put (some 23) (.int .i64 (nb s : Int))).put (some 24) (.pointer (some ⟨rb, ro, none⟩))).put (some 25) (.pointer (some ⟨rb, ro, none⟩))).put (some 26) (.pointer (some ⟨rb, ro + 0, none⟩))).put (some 27) (.slice (some ⟨g, 0, none⟩) (L).length cap)).put (some 28) (.int .i64 (i : Int))).put (some 29) (.int .i64 (nb s : Int))).put (some 30) (.int .i64 (nb (!s) : Int))).put (some 31) (.pointer (some ⟨g, 73 * i, none⟩))).put (some 32) (.pointer (some ⟨g, 73 * i + 69, none⟩))).put (some 33) (.pointer (some ⟨g, 73 * i + 69 + nb (!s), none⟩))).put (some 34) (.int .i64 (dn (gt L i) (!s) : Int))).put (some 35) (.tuple #[]) → Q .normal a' w') :
    (Code.region 2 lift2r_ops false).wp Try.prog Q a w := by
  refine z0 rfl ?_
  refine zv rfl (exec_move rfl (zi t0 rfl)) ?_
  refine zv rfl (exec_move rfl (zi t4 rfl)) ?_
  refine zv rfl (exec_move rfl (zi t5 rfl)) ?_
  refine zv rfl (exec_move rfl (zi t0 rfl)) ?_
  refine zv rfl (exec_nilCheck rfl (zg zz rfl)) ?_
  refine zv rfl (exec_fieldAt rfl (zg zz rfl) (fg_87_0 _ _ _)) ?_
  refine zv rfl (exec_load rfl (zg zz rfl) (R_sl hR)) ?_
  refine zv rfl (exec_move rfl (zi t1 rfl)) ?_
  refine zv rfl (exec_move rfl (zi t5 rfl)) ?_
  refine zv (v := .int .i64 (nb (!s) : Int)) rfl (ex_nb rfl rfl (zg zz rfl)) ?_
  refine zv rfl (exec_indexAt rfl (zg zz rfl) (zg zz rfl) (R_ix hi hR.len _)) ?_
  refine zv rfl (exec_fieldAt rfl (zg zz rfl) (fg_113_3 _ _ _)) ?_
  refine zv rfl (exec_indexAt rfl (zg zz rfl) (zg zz rfl) (ix_ar _ (!s) _)) ?_
  refine zv rfl (exec_load rfl (zg zz rfl) (R_dn hR hi (!s))) ?_
  refine zc rfl (exec_c4 rfl (zg zz rfl) (zg zz rfl) (zg zz rfl) (zg zz rfl)) (CH) (fun e x14 hx => ?_)
  obtain ⟨rfl, HF⟩ := hx
  refine ⟨_, rfl, ?_⟩
  exact ze rfl (h _ _ (HF) rfl)
def lift3r_o0 : Oper := { dst := some 36, op := Op.move (Operand.tmp 0), type := 114, pos := "row.go:213", after := #[], guard := none }
def lift3r_o1 : Oper := { dst := some 37, op := Op.move (Operand.tmp 1), type := 3, pos := "row.go:213", after := #[], guard := none }
def lift3r_o2 : Oper := { dst := some 38, op := Op.move (Operand.tmp 5), type := 3, pos := "row.go:213", after := #[], guard := none }
def lift3r_o3 : Oper := { dst := some 39, op := Op.binOp BinOp.sub 3 (Operand.const (Value.int IntKind.i64 1)) (Operand.tmp 38) 3, type := 3, pos := "row.go:213", after := #[{ on := 2, ground := Ground.data }], guard := none }
def lift3r_o4 : Oper := { dst := some 40, op := Op.move (Operand.tmp 4), type := 3, pos := "row.go:213", after := #[], guard := none }
def lift3r_o5 : Oper := { dst := some 41, op := Op.call { callee := Callee.value (Operand.func 76), args := #[Operand.tmp 36, Operand.tmp 37, Operand.tmp 39, Operand.tmp 40], argTypes := #[114, 3, 3, 3] }, type := 0, pos := "row.go:213", after := #[{ on := 0, ground := Ground.data }, { on := 1, ground := Ground.data }, { on := 3, ground := Ground.data }, { on := 4, ground := Ground.data }], guard := none }
def lift3r_ops : Array Oper := #[lift3r_o0, lift3r_o1, lift3r_o2, lift3r_o3, lift3r_o4, lift3r_o5]
set_option maxRecDepth 100000 in
set_option maxHeartbeats 4000000 in
theorem lift3r {rb ro i u : Nat} {s : Bool} (Fin : World → Prop) (a : Act) (w : World) (Q : Exit → Act → World → Prop) (zz : a.tmps.size = 48)
    (t0 : a.tmps.getD 0 undef = .pointer (some ⟨rb, ro, none⟩))
    (t1 : a.tmps.getD 1 undef = .int .i64 (i : Int))
    (t4 : a.tmps.getD 4 undef = .int .i64 (u : Int))
    (t5 : a.tmps.getD 5 undef = .int .i64 (nb s : Int))
    (CH : Calls Try.prog 76 #[.pointer (some ⟨rb, ro, none⟩), .int .i64 (i : Int), .int .i64 (nb (!s) : Int), .int .i64 (u : Int)] w fun e w' => e = .returned (.tuple #[]) ∧ Fin w')
    (h : ∀ (a' : Act) (w' : World), Fin w' → a' = ((((((a).put (some 36) (.pointer (some ⟨rb, ro, none⟩))).put (some 37) (.int .i64 (i : Int))).put (some 38) (.int .i64 (nb s : Int))).put (some 39) (.int .i64 (nb (!s) : Int))).put (some 40) (.int .i64 (u : Int))).put (some 41) (.tuple #[]) → Q .normal a' w') :
    (Code.region 3 lift3r_ops false).wp Try.prog Q a w := by
  refine z0 rfl ?_
  refine zv rfl (exec_move rfl (zi t0 rfl)) ?_
  refine zv rfl (exec_move rfl (zi t1 rfl)) ?_
  refine zv rfl (exec_move rfl (zi t5 rfl)) ?_
  refine zv (v := .int .i64 (nb (!s) : Int)) rfl (ex_nb rfl rfl (zg zz rfl)) ?_
  refine zv rfl (exec_move rfl (zi t4 rfl)) ?_
  refine zc rfl (exec_c4 rfl (zg zz rfl) (zg zz rfl) (zg zz rfl) (zg zz rfl)) (CH) (fun e x5 hx => ?_)
  obtain ⟨rfl, HF⟩ := hx
  refine ⟨_, rfl, ?_⟩
  exact ze rfl (h _ _ (HF) rfl)
def even1_o0 : Oper := { dst := some 10, op := Op.move (Operand.tmp 0), type := 114, pos := "row.go:192", after := #[], guard := none }
def even1_o1 : Oper := { dst := some 11, op := Op.nilCheck (Operand.tmp 10), type := 0, pos := "row.go:192", after := #[{ on := 0, ground := Ground.data }], guard := none }
def even1_o2 : Oper := { dst := some 12, op := Op.fieldAddr 87 (Operand.tmp 11) 0, type := 0, pos := "row.go:192", after := #[{ on := 1, ground := Ground.data }], guard := none }
def even1_o3 : Oper := { dst := some 13, op := Op.load 85 (Operand.tmp 12), type := 85, pos := "row.go:192", after := #[{ on := 2, ground := Ground.data }], guard := none }
def even1_o4 : Oper := { dst := some 14, op := Op.move (Operand.tmp 1), type := 3, pos := "row.go:192", after := #[], guard := none }
def even1_o5 : Oper := { dst := some 15, op := Op.indexAddr 85 (Operand.tmp 13) (Operand.tmp 14), type := 0, pos := "row.go:192", after := #[{ on := 3, ground := Ground.data }, { on := 4, ground := Ground.data }], guard := none }
def even1_o6 : Oper := { dst := some 16, op := Op.fieldAddr 113 (Operand.tmp 15) 3, type := 0, pos := "row.go:192", after := #[{ on := 5, ground := Ground.data }], guard := none }
def even1_o7 : Oper := { dst := some 17, op := Op.load 111 (Operand.tmp 16), type := 111, pos := "row.go:192", after := #[{ on := 6, ground := Ground.data }], guard := none }
def even1_o8 : Oper := { dst := some 18, op := Op.move (Operand.const (Value.int IntKind.i64 0)), type := 3, pos := "row.go:192", after := #[], guard := none }
def even1_ops : Array Oper := #[even1_o0, even1_o1, even1_o2, even1_o3, even1_o4, even1_o5, even1_o6, even1_o7, even1_o8]
set_option maxRecDepth 100000 in
set_option maxHeartbeats 4000000 in
theorem even1 {rb ro g cap : Nat} {L : List Sp} {i : Nat} (a : Act) (w : World) (Q : Exit → Act → World → Prop) (zz : a.tmps.size = 79)
    (t0 : a.tmps.getD 0 undef = .pointer (some ⟨rb, ro, none⟩))
    (t1 : a.tmps.getD 1 undef = .int .i64 (i : Int))
    (hR : SqAt w rb ro g cap L) (hi : i < L.length)
    (h : ∀ (a' : Act) (w' : World), w' = w → a' = (((((((((a).put (some 10) (.pointer (some ⟨rb, ro, none⟩))).put (some 11) (.pointer (some ⟨rb, ro, none⟩))).put (some 12) (.pointer (some ⟨rb, ro + 0, none⟩))).put (some 13) (.slice (some ⟨g, 0, none⟩) (L).length cap)).put (some 14) (.int .i64 (i : Int))).put (some 15) (.pointer (some ⟨g, 73 * i, none⟩))).put (some 16) (.pointer (some ⟨g, 73 * i + 69, none⟩))).put (some 17) (.agg #[.int .i64 ((gt L i).l : Int), .int .i64 ((gt L i).r : Int)])).put (some 18) (.int .i64 0) → Q .normal a' w') :
    (Code.region 1 even1_ops false).wp Try.prog Q a w := by
  refine z0 rfl ?_
  refine zv rfl (exec_move rfl (zi t0 rfl)) ?_
  refine zv rfl (exec_nilCheck rfl (zg zz rfl)) ?_
  refine zv rfl (exec_fieldAt rfl (zg zz rfl) (fg_87_0 _ _ _)) ?_
  refine zv rfl (exec_load rfl (zg zz rfl) (R_sl hR)) ?_
  refine zv rfl (exec_move rfl (zi t1 rfl)) ?_
  refine zv rfl (exec_indexAt rfl (zg zz rfl) (zg zz rfl) (R_ix hi hR.len _)) ?_
  refine zv rfl (exec_fieldAt rfl (zg zz rfl) (fg_113_3 _ _ _)) ?_
  refine zv rfl (exec_load rfl (zg zz rfl) (R_down hR hi)) ?_
  refine zv rfl (exec_move rfl rfl) ?_
  exact ze rfl (h _ _ (rfl) rfl)
def even3_o0 : Oper := { dst := some 20, op := Op.move (Operand.tmp 18), type := 3, pos := "row.go:192", after := #[], guard := none }
def even3_o1 : Oper := { dst := some 21, op := Op.index 111 (Operand.tmp 17) (Operand.tmp 18), type := 3, pos := "row.go:192", after := #[], guard := none }
def even3_o2 : Oper := { dst := some 5, op := Op.assign (Operand.tmp 20), type := 3, pos := "row.go:192", after := #[{ on := 0, ground := Ground.data }, { on := 0, ground := Ground.phase }, { on := 1, ground := Ground.phase }], guard := none }
def even3_o3 : Oper := { dst := some 6, op := Op.assign (Operand.tmp 21), type := 3, pos := "row.go:192", after := #[{ on := 1, ground := Ground.data }, { on := 2, ground := Ground.chain }, { on := 0, ground := Ground.phase }, { on := 1, ground := Ground.phase }, { on := 2, ground := Ground.phase }], guard := none }
def even3_ops : Array Oper := #[even3_o0, even3_o1, even3_o2, even3_o3]
set_option maxRecDepth 100000 in
set_option maxHeartbeats 4000000 in
theorem even3 {L : List Sp} {i : Nat} {s : Bool} (a : Act) (w : World) (Q : Exit → Act → World → Prop) (zz : a.tmps.size = 79)
    (t17 : a.tmps.getD 17 undef = .agg #[.int .i64 ((gt L i).l : Int), .int .i64 ((gt L i).r : Int)])
    (t18 : a.tmps.getD 18 undef = .int .i64 (nb s : Int))
    (h : ∀ (a' : Act) (w' : World), w' = w → a' = ((((a).put (some 20) (.int .i64 (nb s : Int))).put (some 21) (.int .i64 (dn (gt L i) s : Int))).put (some 5) (.int .i64 (nb s : Int))).put (some 6) (.int .i64 (dn (gt L i) s : Int)) → Q .normal a' w') :
    (Code.region 3 even3_ops false).wp Try.prog Q a w := by
  refine z0 rfl ?_
  refine zv rfl (exec_move rfl (zi t18 rfl)) ?_
  refine zv (v := .int .i64 (dn (gt L i) s : Int)) rfl (ex_ix2 rfl (zi t17 rfl) (zi t18 rfl)) ?_
  refine zv rfl (exec_assign rfl (zg zz rfl)) ?_
  refine zv rfl (exec_assign rfl (zg zz rfl)) ?_
  exact ze rfl (h _ _ (rfl) rfl)
def even4_o0 : Oper := { dst := some 22, op := Op.move (Operand.tmp 5), type := 3, pos := "row.go:193", after := #[], guard := none }
def even4_o1 : Oper := { dst := some 23, op := Op.binOp BinOp.sub 3 (Operand.const (Value.int IntKind.i64 1)) (Operand.tmp 22) 3, type := 3, pos := "row.go:193", after := #[{ on := 0, ground := Ground.data }], guard := none }
def even4_o2 : Oper := { dst := some 7, op := Op.assign (Operand.tmp 23), type := 3, pos := "row.go:193", after := #[{ on := 1, ground := Ground.data }, { on := 0, ground := Ground.phase }, { on := 1, ground := Ground.phase }], guard := none }
def even4_ops : Array Oper := #[even4_o0, even4_o1, even4_o2]
set_option maxRecDepth 100000 in
set_option maxHeartbeats 4000000 in
theorem even4 {s : Bool} (a : Act) (w : World) (Q : Exit → Act → World → Prop) (zz : a.tmps.size = 79)
    (t5 : a.tmps.getD 5 undef = .int .i64 (nb s : Int))
    (h : ∀ (a' : Act) (w' : World), w' = w → a' = (((a).put (some 22) (.int .i64 (nb s : Int))).put (some 23) (.int .i64 (nb (!s) : Int))).put (some 7) (.int .i64 (nb (!s) : Int)) → Q .normal a' w') :
    (Code.region 4 even4_ops false).wp Try.prog Q a w := by
  refine z0 rfl ?_
  refine zv rfl (exec_move rfl (zi t5 rfl)) ?_
  refine zv (v := .int .i64 (nb (!s) : Int)) rfl (ex_nb rfl rfl (zg zz rfl)) ?_
  refine zv rfl (exec_assign rfl (zg zz rfl)) ?_
  exact ze rfl (h _ _ (rfl) rfl)
def even5_o0 : Oper := { dst := some 24, op := Op.move (Operand.tmp 0), type := 114, pos := "row.go:194", after := #[], guard := none }
def even5_o1 : Oper := { dst := some 25, op := Op.move (Operand.tmp 6), type := 3, pos := "row.go:194", after := #[], guard := none }
def even5_o2 : Oper := { dst := some 26, op := Op.call { callee := Callee.value (Operand.func 99), args := #[Operand.tmp 24, Operand.tmp 25], argTypes := #[114, 3] }, type := 3, pos := "row.go:194", after := #[{ on := 0, ground := Ground.data }, { on := 1, ground := Ground.data }], guard := none }
def even5_o3 : Oper := { dst := some 27, op := Op.move (Operand.tmp 0), type := 114, pos := "row.go:194", after := #[], guard := none }
def even5_o4 : Oper := { dst := some 28, op := Op.move (Operand.tmp 0), type := 114, pos := "row.go:194", after := #[], guard := none }
def even5_o5 : Oper := { dst := some 29, op := Op.nilCheck (Operand.tmp 28), type := 0, pos := "row.go:194", after := #[{ on := 4, ground := Ground.data }], guard := none }
def even5_o6 : Oper := { dst := some 30, op := Op.fieldAddr 87 (Operand.tmp 29) 0, type := 0, pos := "row.go:194", after := #[{ on := 5, ground := Ground.data }], guard := none }
def even5_o7 : Oper := { dst := some 31, op := Op.load 85 (Operand.tmp 30), type := 85, pos := "row.go:194", after := #[{ on := 6, ground := Ground.data }], guard := none }
def even5_o8 : Oper := { dst := some 32, op := Op.move (Operand.tmp 1), type := 3, pos := "row.go:194", after := #[], guard := none }
def even5_o9 : Oper := { dst := some 33, op := Op.move (Operand.tmp 7), type := 3, pos := "row.go:194", after := #[], guard := none }
def even5_o10 : Oper := { dst := some 34, op := Op.indexAddr 85 (Operand.tmp 31) (Operand.tmp 32), type := 0, pos := "row.go:194", after := #[{ on := 7, ground := Ground.data }, { on := 8, ground := Ground.data }], guard := none }
def even5_o11 : Oper := { dst := some 35, op := Op.fieldAddr 113 (Operand.tmp 34) 3, type := 0, pos := "row.go:194", after := #[{ on := 10, ground := Ground.data }], guard := none }
def even5_o12 : Oper := { dst := some 36, op := Op.indexAddr 111 (Operand.tmp 35) (Operand.tmp 33), type := 0, pos := "row.go:194", after := #[{ on := 11, ground := Ground.data }, { on := 9, ground := Ground.data }], guard := none }
def even5_o13 : Oper := { dst := some 37, op := Op.load 3 (Operand.tmp 36), type := 3, pos := "row.go:194", after := #[{ on := 12, ground := Ground.data }], guard := none }
def even5_o14 : Oper := { dst := some 38, op := Op.call { callee := Callee.value (Operand.func 99), args := #[Operand.tmp 27, Operand.tmp 37], argTypes := #[114, 3] }, type := 3, pos := "row.go:194", after := #[{ on := 3, ground := Ground.data }, { on := 13, ground := Ground.data }, { on := 2, ground := Ground.chain }], guard := none }
def even5_o15 : Oper := { dst := some 39, op := Op.binOp BinOp.mul 3 (Operand.const (Value.int IntKind.i64 3)) (Operand.tmp 38) 3, type := 3, pos := "row.go:194", after := #[{ on := 14, ground := Ground.data }], guard := none }
def even5_o16 : Oper := { dst := some 40, op := Op.binOp BinOp.leq 3 (Operand.tmp 26) (Operand.tmp 39) 3, type := 4, pos := "row.go:194", after := #[{ on := 2, ground := Ground.data }, { on := 15, ground := Ground.data }], guard := none }
def even5_ops : Array Oper := #[even5_o0, even5_o1, even5_o2, even5_o3, even5_o4, even5_o5, even5_o6, even5_o7, even5_o8, even5_o9, even5_o10, even5_o11, even5_o12, even5_o13, even5_o14, even5_o15, even5_o16]
set_option maxRecDepth 100000 in
set_option maxHeartbeats 4000000 in
theorem even5 {rb ro g cap : Nat} {L : List Sp} {i p x y : Nat} {o r : Bool} (a : Act) (w : World) (Q : Exit → Act → World → Prop) (zz : a.tmps.size = 79)
    (t0 : a.tmps.getD 0 undef = .pointer (some ⟨rb, ro, none⟩))
    (t1 : a.tmps.getD 1 undef = .int .i64 (i : Int))
    (t6 : a.tmps.getD 6 undef = .int .i64 (p : Int))
    (t7 : a.tmps.getD 7 undef = .int .i64 (nb o : Int))
    (hR : SqAt w rb ro g cap L) (hi : i < L.length) (hl : L.length ≤ 1400000000000) (hm : 3 * y ≤ 9223372036854775807) (hr : decide ((x : Int) ≤ ((3 * y : Nat) : Int)) = r) (C1 : Calls Try.prog 99 #[.pointer (some ⟨rb, ro, none⟩), .int .i64 (p : Int)] w.drew fun e w' => e = .returned (.int .i64 (x : Int)) ∧ (SqAt w' rb ro g cap L ∧ Qt w w') ∧ Calls Try.prog 99 #[.pointer (some ⟨rb, ro, none⟩), .int .i64 (dn (gt L i) o : Int)] w' fun e2 w2 => e2 = .returned (.int .i64 (y : Int)) ∧ SqAt w2 rb ro g cap L ∧ Qt w w2)
    (h : ∀ (a' : Act) (w' : World), SqAt w' rb ro g cap L ∧ Qt w w' → a' = (((((((((((((((((a).put (some 24) (.pointer (some ⟨rb, ro, none⟩))).put (some 25) (.int .i64 (p : Int))).put (some 27) (.pointer (some ⟨rb, ro, none⟩))).put (some 28) (.pointer (some ⟨rb, ro, none⟩))).put (some 29) (.pointer (some ⟨rb, ro, none⟩))).put (some 30) (.pointer (some ⟨rb, ro + 0, none⟩))).put (some 31) (.slice (some ⟨g, 0, none⟩) (L).length cap)).put (some 32) (.int .i64 (i : Int))).put (some 33) (.int .i64 (nb o : Int))).put (some 34) (.pointer (some ⟨g, 73 * i, none⟩))).put (some 35) (.pointer (some ⟨g, 73 * i + 69, none⟩))).put (some 36) (.pointer (some ⟨g, 73 * i + 69 + nb o, none⟩))).put (some 37) (.int .i64 (dn (gt L i) o : Int))).put (some 26) (.int .i64 (x : Int))).put (some 38) (.int .i64 (y : Int))).put (some 39) (.int .i64 ((3 * y : Nat) : Int))).put (some 40) (.bool r) → Q .normal a' w') :
    (Code.region 5 even5_ops true).wp Try.prog Q a w := by
  refine y0 (fun w' => SqAt w' rb ro g cap L ∧ Qt w w') (⟨hR.drew, Qt.drew w⟩) (fun hHeld => ?_)
  refine yv 0 rfl rfl (fun w1 hw => exec_move rfl (zi t0 rfl)) hHeld ?_
  refine yv 1 rfl rfl (fun w1 hw => exec_move rfl (zi t6 rfl)) hHeld ?_
  refine yv 3 rfl rfl (fun w1 hw => exec_move rfl (zi t0 rfl)) hHeld ?_
  refine yv 4 rfl rfl (fun w1 hw => exec_move rfl (zi t0 rfl)) hHeld ?_
  refine yv 5 rfl rfl (fun w1 hw => exec_nilCheck rfl (zg zz rfl)) hHeld ?_
  refine yv 6 rfl rfl (fun w1 hw => exec_fieldAt rfl (zg zz rfl) (fg_87_0 _ _ _)) hHeld ?_
  refine yv 7 rfl rfl (fun w1 hw => exec_load rfl (zg zz rfl) (R_sl hw.1)) hHeld ?_
  refine yv 8 rfl rfl (fun w1 hw => exec_move rfl (zi t1 rfl)) hHeld ?_
  refine yv 9 rfl rfl (fun w1 hw => exec_move rfl (zi t7 rfl)) hHeld ?_
  refine yv 10 rfl rfl (fun w1 hw => exec_indexAt rfl (zg zz rfl) (zg zz rfl) (R_ix hi hl _)) hHeld ?_
  refine yv 11 rfl rfl (fun w1 hw => exec_fieldAt rfl (zg zz rfl) (fg_113_3 _ _ _)) hHeld ?_
  refine yv 12 rfl rfl (fun w1 hw => exec_indexAt rfl (zg zz rfl) (zg zz rfl) (ix_ar _ o _)) hHeld ?_
  refine yv 13 rfl rfl (fun w1 hw => exec_load rfl (zg zz rfl) (R_dn hw.1 hi o)) hHeld ?_
  refine yc 2 rfl rfl (exec_c2 rfl (zg zz rfl) (zg zz rfl)) (C1) (fun e x2 hx => ?_)
  obtain ⟨rfl, S1, C2⟩ := hx
  refine ⟨_, rfl, S1, fun hHeld => ?_⟩
  refine yc 14 rfl rfl (exec_c2 rfl (zg zz rfl) (zg zz rfl)) (C2) (fun e x14 hx => ?_)
  obtain ⟨rfl, S2⟩ := hx
  refine ⟨_, rfl, S2, fun hHeld => ?_⟩
  refine yv (v := .int .i64 ((3 * y : Nat) : Int)) 15 rfl rfl (fun w1 hw => ex_mulN (p := 3) rfl rfl (zg zz rfl) hm) hHeld ?_
  refine yv (v := .bool r) 16 rfl rfl (fun w1 hw => ex_leq rfl (zg zz rfl) (zg zz rfl) hr) hHeld ?_
  exact ye rfl (h _ _ (hHeld) rfl)
def even6_o0 : Oper := { dst := some 41, op := Op.move (Operand.tmp 0), type := 114, pos := "row.go:197", after := #[], guard := none }
def even6_o1 : Oper := { dst := some 42, op := Op.nilCheck (Operand.tmp 41), type := 0, pos := "row.go:197", after := #[{ on := 0, ground := Ground.data }], guard := none }
def even6_o2 : Oper := { dst := some 43, op := Op.fieldAddr 87 (Operand.tmp 42) 0, type := 0, pos := "row.go:197", after := #[{ on := 1, ground := Ground.data }], guard := none }
def even6_o3 : Oper := { dst := some 44, op := Op.load 85 (Operand.tmp 43), type := 85, pos := "row.go:197", after := #[{ on := 2, ground := Ground.data }], guard := none }
def even6_o4 : Oper := { dst := some 45, op := Op.move (Operand.tmp 6), type := 3, pos := "row.go:197", after := #[], guard := none }
def even6_o5 : Oper := { dst := some 46, op := Op.move (Operand.tmp 7), type := 3, pos := "row.go:197", after := #[], guard := none }
def even6_o6 : Oper := { dst := some 47, op := Op.indexAddr 85 (Operand.tmp 44) (Operand.tmp 45), type := 0, pos := "row.go:197", after := #[{ on := 3, ground := Ground.data }, { on := 4, ground := Ground.data }], guard := none }
def even6_o7 : Oper := { dst := some 48, op := Op.fieldAddr 113 (Operand.tmp 47) 3, type := 0, pos := "row.go:197", after := #[{ on := 6, ground := Ground.data }], guard := none }
def even6_o8 : Oper := { dst := some 49, op := Op.indexAddr 111 (Operand.tmp 48) (Operand.tmp 46), type := 0, pos := "row.go:197", after := #[{ on := 7, ground := Ground.data }, { on := 5, ground := Ground.data }], guard := none }
def even6_o9 : Oper := { dst := some 50, op := Op.load 3 (Operand.tmp 49), type := 3, pos := "row.go:197", after := #[{ on := 8, ground := Ground.data }], guard := none }
def even6_o10 : Oper := { dst := some 51, op := Op.move (Operand.tmp 0), type := 114, pos := "row.go:197", after := #[{ on := 20, ground := Ground.gcOnly Departure.lateStores }], guard := none }
def even6_o11 : Oper := { dst := some 52, op := Op.nilCheck (Operand.tmp 51), type := 0, pos := "row.go:197", after := #[{ on := 10, ground := Ground.data }, { on := 20, ground := Ground.gcOnly Departure.lateStores }], guard := none }
def even6_o12 : Oper := { dst := some 53, op := Op.fieldAddr 87 (Operand.tmp 52) 0, type := 0, pos := "row.go:197", after := #[{ on := 11, ground := Ground.data }, { on := 20, ground := Ground.gcOnly Departure.lateStores }], guard := none }
def even6_o13 : Oper := { dst := some 54, op := Op.load 85 (Operand.tmp 53), type := 85, pos := "row.go:197", after := #[{ on := 12, ground := Ground.data }, { on := 20, ground := Ground.gcOnly Departure.lateStores }], guard := none }
def even6_o14 : Oper := { dst := some 55, op := Op.move (Operand.tmp 6), type := 3, pos := "row.go:197", after := #[{ on := 20, ground := Ground.gcOnly Departure.lateStores }], guard := none }
def even6_o15 : Oper := { dst := some 56, op := Op.move (Operand.tmp 5), type := 3, pos := "row.go:197", after := #[{ on := 20, ground := Ground.gcOnly Departure.lateStores }], guard := none }
def even6_o16 : Oper := { dst := some 57, op := Op.indexAddr 85 (Operand.tmp 54) (Operand.tmp 55), type := 0, pos := "row.go:197", after := #[{ on := 13, ground := Ground.data }, { on := 14, ground := Ground.data }, { on := 20, ground := Ground.gcOnly Departure.lateStores }], guard := none }
def even6_o17 : Oper := { dst := some 58, op := Op.fieldAddr 113 (Operand.tmp 57) 3, type := 0, pos := "row.go:197", after := #[{ on := 16, ground := Ground.data }, { on := 20, ground := Ground.gcOnly Departure.lateStores }], guard := none }
def even6_o18 : Oper := { dst := some 59, op := Op.indexAddr 111 (Operand.tmp 58) (Operand.tmp 56), type := 0, pos := "row.go:197", after := #[{ on := 17, ground := Ground.data }, { on := 15, ground := Ground.data }, { on := 20, ground := Ground.gcOnly Departure.lateStores }], guard := none }
def even6_o19 : Oper := { dst := some 60, op := Op.load 3 (Operand.tmp 59), type := 3, pos := "row.go:197", after := #[{ on := 18, ground := Ground.data }, { on := 20, ground := Ground.gcOnly Departure.lateStores }], guard := none }
def even6_o20 : Oper := { dst := some 8, op := Op.assign (Operand.tmp 50), type := 3, pos := "row.go:197", after := #[{ on := 9, ground := Ground.data }, { on := 0, ground := Ground.phase }, { on := 1, ground := Ground.phase }, { on := 2, ground := Ground.phase }, { on := 3, ground := Ground.phase }, { on := 4, ground := Ground.phase }, { on := 5, ground := Ground.phase }, { on := 6, ground := Ground.phase }, { on := 7, ground := Ground.phase }, { on := 8, ground := Ground.phase }, { on := 9, ground := Ground.phase }, { on := 10, ground := Ground.textOnly Departure.lateStores }, { on := 11, ground := Ground.textOnly Departure.lateStores }, { on := 12, ground := Ground.textOnly Departure.lateStores }, { on := 13, ground := Ground.textOnly Departure.lateStores }, { on := 14, ground := Ground.textOnly Departure.lateStores }, { on := 15, ground := Ground.textOnly Departure.lateStores }, { on := 16, ground := Ground.textOnly Departure.lateStores }, { on := 17, ground := Ground.textOnly Departure.lateStores }, { on := 18, ground := Ground.textOnly Departure.lateStores }, { on := 19, ground := Ground.textOnly Departure.lateStores }], guard := none }
def even6_o21 : Oper := { dst := some 9, op := Op.assign (Operand.tmp 60), type := 3, pos := "row.go:197", after := #[{ on := 19, ground := Ground.data }, { on := 20, ground := Ground.chain }, { on := 0, ground := Ground.phase }, { on := 1, ground := Ground.phase }, { on := 2, ground := Ground.phase }, { on := 3, ground := Ground.phase }, { on := 4, ground := Ground.phase }, { on := 5, ground := Ground.phase }, { on := 6, ground := Ground.phase }, { on := 7, ground := Ground.phase }, { on := 8, ground := Ground.phase }, { on := 9, ground := Ground.phase }, { on := 10, ground := Ground.phase }, { on := 11, ground := Ground.phase }, { on := 12, ground := Ground.phase }, { on := 13, ground := Ground.phase }, { on := 14, ground := Ground.phase }, { on := 15, ground := Ground.phase }, { on := 16, ground := Ground.phase }, { on := 17, ground := Ground.phase }, { on := 18, ground := Ground.phase }, { on := 19, ground := Ground.phase }, { on := 20, ground := Ground.phase }], guard := none }
def even6_ops : Array Oper := #[even6_o0, even6_o1, even6_o2, even6_o3, even6_o4, even6_o5, even6_o6, even6_o7, even6_o8, even6_o9, even6_o10, even6_o11, even6_o12, even6_o13, even6_o14, even6_o15, even6_o16, even6_o17, even6_o18, even6_o19, even6_o20, even6_o21]
set_option maxRecDepth 100000 in
set_option maxHeartbeats 4000000 in
theorem even6 {rb ro g cap : Nat} {L : List Sp} {p : Nat} {s o : Bool} (a : Act) (w : World) (Q : Exit → Act → World → Prop) (zz : a.tmps.size = 79)
    (t0 : a.tmps.getD 0 undef = .pointer (some ⟨rb, ro, none⟩))
    (t5 : a.tmps.getD 5 undef = .int .i64 (nb s : Int))
    (t6 : a.tmps.getD 6 undef = .int .i64 (p : Int))
    (t7 : a.tmps.getD 7 undef = .int .i64 (nb o : Int))
    (hR : SqAt w rb ro g cap L) (hp : p < L.length)
    (h : ∀ (a' : Act) (w' : World), w' = w.drew → a' = ((((((((((((((((((((((a).put (some 41) (.pointer (some ⟨rb, ro, none⟩))).put (some 42) (.pointer (some ⟨rb, ro, none⟩))).put (some 43) (.pointer (some ⟨rb, ro + 0, none⟩))).put (some 44) (.slice (some ⟨g, 0, none⟩) (L).length cap)).put (some 45) (.int .i64 (p : Int))).put (some 46) (.int .i64 (nb o : Int))).put (some 47) (.pointer (some ⟨g, 73 * p, none⟩))).put (some 48) (.pointer (some ⟨g, 73 * p + 69, none⟩))).put (some 49) (.pointer (some ⟨g, 73 * p + 69 + nb o, none⟩))).put (some 50) (.int .i64 (dn (gt L p) o : Int))).put (some 51) (.pointer (some ⟨rb, ro, none⟩))).put (some 52) (.pointer (some ⟨rb, ro, none⟩))).put (some 53) (.pointer (some ⟨rb, ro + 0, none⟩))).put (some 54) (.slice (some ⟨g, 0, none⟩) (L).length cap)).put (some 55) (.int .i64 (p : Int))).put (some 56) (.int .i64 (nb s : Int))).put (some 57) (.pointer (some ⟨g, 73 * p, none⟩))).put (some 58) (.pointer (some ⟨g, 73 * p + 69, none⟩))).put (some 59) (.pointer (some ⟨g, 73 * p + 69 + nb s, none⟩))).put (some 60) (.int .i64 (dn (gt L p) s : Int))).put (some 8) (.int .i64 (dn (gt L p) o : Int))).put (some 9) (.int .i64 (dn (gt L p) s : Int)) → Q .normal a' w') :
    (Code.region 6 even6_ops true).wp Try.prog Q a w := by
  refine y0 (fun w' => w' = w.drew) (rfl) (fun hHeld => ?_)
  refine yv 0 rfl rfl (fun w1 hw => exec_move rfl (zi t0 rfl)) hHeld ?_
  refine yv 1 rfl rfl (fun w1 hw => exec_nilCheck rfl (zg zz rfl)) hHeld ?_
  refine yv 2 rfl rfl (fun w1 hw => exec_fieldAt rfl (zg zz rfl) (fg_87_0 _ _ _)) hHeld ?_
  refine yv 3 rfl rfl (fun w1 hw => exec_load rfl (zg zz rfl) (R_sl (hw ▸ hR.drew))) hHeld ?_
  refine yv 4 rfl rfl (fun w1 hw => exec_move rfl (zi t6 rfl)) hHeld ?_
  refine yv 5 rfl rfl (fun w1 hw => exec_move rfl (zi t7 rfl)) hHeld ?_
  refine yv 6 rfl rfl (fun w1 hw => exec_indexAt rfl (zg zz rfl) (zg zz rfl) (R_ix hp hR.len _)) hHeld ?_
  refine yv 7 rfl rfl (fun w1 hw => exec_fieldAt rfl (zg zz rfl) (fg_113_3 _ _ _)) hHeld ?_
  refine yv 8 rfl rfl (fun w1 hw => exec_indexAt rfl (zg zz rfl) (zg zz rfl) (ix_ar _ o _)) hHeld ?_
  refine yv 9 rfl rfl (fun w1 hw => exec_load rfl (zg zz rfl) (R_dn (hw ▸ hR.drew) hp o)) hHeld ?_
  refine yv 10 rfl rfl (fun w1 hw => exec_move rfl (zi t0 rfl)) hHeld ?_
  refine yv 11 rfl rfl (fun w1 hw => exec_nilCheck rfl (zg zz rfl)) hHeld ?_
  refine yv 12 rfl rfl (fun w1 hw => exec_fieldAt rfl (zg zz rfl) (fg_87_0 _ _ _)) hHeld ?_
  refine yv 13 rfl rfl (fun w1 hw => exec_load rfl (zg zz rfl) (R_sl (hw ▸ hR.drew))) hHeld ?_
  refine yv 14 rfl rfl (fun w1 hw => exec_move rfl (zi t6 rfl)) hHeld ?_
  refine yv 15 rfl rfl (fun w1 hw => exec_move rfl (zi t5 rfl)) hHeld ?_
  refine yv 16 rfl rfl (fun w1 hw => exec_indexAt rfl (zg zz rfl) (zg zz rfl) (R_ix hp hR.len _)) hHeld ?_
  refine yv 17 rfl rfl (fun w1 hw => exec_fieldAt rfl (zg zz rfl) (fg_113_3 _ _ _)) hHeld ?_
  refine yv 18 rfl rfl (fun w1 hw => exec_indexAt rfl (zg zz rfl) (zg zz rfl) (ix_ar _ s _)) hHeld ?_
  refine yv 19 rfl rfl (fun w1 hw => exec_load rfl (zg zz rfl) (R_dn (hw ▸ hR.drew) hp s)) hHeld ?_
  refine yv 20 rfl rfl (fun w1 hw => exec_assign rfl (zg zz rfl)) hHeld ?_
  refine yv 21 rfl rfl (fun w1 hw => exec_assign rfl (zg zz rfl)) hHeld ?_
  exact ye rfl (h _ _ (hHeld) rfl)
def even7_o0 : Oper := { dst := some 61, op := Op.move (Operand.tmp 0), type := 114, pos := "row.go:198", after := #[], guard := none }
def even7_o1 : Oper := { dst := some 62, op := Op.move (Operand.tmp 8), type := 3, pos := "row.go:198", after := #[], guard := none }
def even7_o2 : Oper := { dst := some 63, op := Op.call { callee := Callee.value (Operand.func 99), args := #[Operand.tmp 61, Operand.tmp 62], argTypes := #[114, 3] }, type := 3, pos := "row.go:198", after := #[{ on := 0, ground := Ground.data }, { on := 1, ground := Ground.data }], guard := none }
def even7_o3 : Oper := { dst := some 64, op := Op.move (Operand.tmp 0), type := 114, pos := "row.go:198", after := #[], guard := none }
def even7_o4 : Oper := { dst := some 65, op := Op.move (Operand.tmp 9), type := 3, pos := "row.go:198", after := #[], guard := none }
def even7_o5 : Oper := { dst := some 66, op := Op.call { callee := Callee.value (Operand.func 99), args := #[Operand.tmp 64, Operand.tmp 65], argTypes := #[114, 3] }, type := 3, pos := "row.go:198", after := #[{ on := 3, ground := Ground.data }, { on := 4, ground := Ground.data }, { on := 2, ground := Ground.chain }], guard := none }
def even7_o6 : Oper := { dst := some 67, op := Op.binOp BinOp.mul 3 (Operand.const (Value.int IntKind.i64 2)) (Operand.tmp 66) 3, type := 3, pos := "row.go:198", after := #[{ on := 5, ground := Ground.data }], guard := none }
def even7_o7 : Oper := { dst := some 68, op := Op.binOp BinOp.geq 3 (Operand.tmp 63) (Operand.tmp 67) 3, type := 4, pos := "row.go:198", after := #[{ on := 2, ground := Ground.data }, { on := 6, ground := Ground.data }], guard := none }
def even7_ops : Array Oper := #[even7_o0, even7_o1, even7_o2, even7_o3, even7_o4, even7_o5, even7_o6, even7_o7]
set_option maxRecDepth 100000 in
set_option maxHeartbeats 4000000 in
theorem even7 {rb ro p q x y : Nat} {r : Bool} (Fin : World → Prop) (a : Act) (w : World) (Q : Exit → Act → World → Prop) (zz : a.tmps.size = 79)
    (t0 : a.tmps.getD 0 undef = .pointer (some ⟨rb, ro, none⟩))
    (t8 : a.tmps.getD 8 undef = .int .i64 (p : Int))
    (t9 : a.tmps.getD 9 undef = .int .i64 (q : Int))
    (hm : 2 * y ≤ 9223372036854775807) (hr : decide ((x : Int) ≥ ((2 * y : Nat) : Int)) = r) (C1 : Calls Try.prog 99 #[.pointer (some ⟨rb, ro, none⟩), .int .i64 (p : Int)] w fun e w' => e = .returned (.int .i64 (x : Int)) ∧ Calls Try.prog 99 #[.pointer (some ⟨rb, ro, none⟩), .int .i64 (q : Int)] w' fun e2 w2 => e2 = .returned (.int .i64 (y : Int)) ∧ Fin w2)
    (h : ∀ (a' : Act) (w' : World), Fin w' → a' = ((((((((a).put (some 61) (.pointer (some ⟨rb, ro, none⟩))).put (some 62) (.int .i64 (p : Int))).put (some 63) (.int .i64 (x : Int))).put (some 64) (.pointer (some ⟨rb, ro, none⟩))).put (some 65) (.int .i64 (q : Int))).put (some 66) (.int .i64 (y : Int))).put (some 67) (.int .i64 ((2 * y : Nat) : Int))).put (some 68) (.bool r) → Q .normal a' w') :
    (Code.region 7 even7_ops false).wp Try.prog Q a w := by
  refine z0 rfl ?_
  refine zv rfl (exec_move rfl (zi t0 rfl)) ?_
  refine zv rfl (exec_move rfl (zi t8 rfl)) ?_
  refine zc rfl (exec_c2 rfl (zg zz rfl) (zg zz rfl)) (C1) (fun e x2 hx => ?_)
  obtain ⟨rfl, C2⟩ := hx
  refine ⟨_, rfl, ?_⟩
  refine zv rfl (exec_move rfl (zi t0 rfl)) ?_
  refine zv rfl (exec_move rfl (zi t9 rfl)) ?_
  refine zc rfl (exec_c2 rfl (zg zz rfl) (zg zz rfl)) (C2) (fun e x5 hx => ?_)
  obtain ⟨rfl, HF⟩ := hx
  refine ⟨_, rfl, ?_⟩
  refine zv (v := .int .i64 ((2 * y : Nat) : Int)) rfl (ex_mulN (p := 2) rfl rfl (zg zz rfl) hm) ?_
  refine zv (v := .bool r) rfl (ex_geq rfl (zg zz rfl) (zg zz rfl) hr) ?_
  exact ze rfl (h _ _ (HF) rfl)
def mend2_o0 : Oper := { dst := some 9, op := Op.move (Operand.tmp 0), type := 114, pos := "row.go:157", after := #[], guard := none }
def mend2_o1 : Oper := { dst := some 10, op := Op.nilCheck (Operand.tmp 9), type := 0, pos := "row.go:157", after := #[{ on := 0, ground := Ground.data }], guard := none }
def mend2_o2 : Oper := { dst := some 11, op := Op.fieldAddr 87 (Operand.tmp 10) 0, type := 0, pos := "row.go:157", after := #[{ on := 1, ground := Ground.data }], guard := none }
def mend2_o3 : Oper := { dst := some 12, op := Op.load 85 (Operand.tmp 11), type := 85, pos := "row.go:157", after := #[{ on := 2, ground := Ground.data }], guard := none }
def mend2_o4 : Oper := { dst := some 13, op := Op.move (Operand.tmp 0), type := 114, pos := "row.go:157", after := #[], guard := none }
def mend2_o5 : Oper := { dst := some 14, op := Op.move (Operand.tmp 1), type := 3, pos := "row.go:157", after := #[], guard := none }
def mend2_o6 : Oper := { dst := some 15, op := Op.call { callee := Callee.value (Operand.func 91), args := #[Operand.tmp 13, Operand.tmp 14], argTypes := #[114, 3] }, type := 3, pos := "row.go:157", after := #[{ on := 4, ground := Ground.data }, { on := 5, ground := Ground.data }], guard := none }
def mend2_o7 : Oper := { dst := some 16, op := Op.indexAddr 85 (Operand.tmp 12) (Operand.tmp 15), type := 0, pos := "row.go:157", after := #[{ on := 3, ground := Ground.data }, { on := 6, ground := Ground.data }], guard := none }
def mend2_o8 : Oper := { dst := some 17, op := Op.fieldAddr 113 (Operand.tmp 16) 2, type := 0, pos := "row.go:157", after := #[{ on := 7, ground := Ground.data }], guard := none }
def mend2_o9 : Oper := { dst := some 18, op := Op.load 3 (Operand.tmp 17), type := 3, pos := "row.go:157", after := #[{ on := 8, ground := Ground.data }], guard := none }
def mend2_o10 : Oper := { dst := some 1, op := Op.assign (Operand.tmp 18), type := 3, pos := "row.go:157", after := #[{ on := 9, ground := Ground.data }, { on := 6, ground := Ground.chain }, { on := 0, ground := Ground.phase }, { on := 1, ground := Ground.phase }, { on := 2, ground := Ground.phase }, { on := 3, ground := Ground.phase }, { on := 4, ground := Ground.phase }, { on := 5, ground := Ground.phase }, { on := 6, ground := Ground.phase }, { on := 7, ground := Ground.phase }, { on := 8, ground := Ground.phase }, { on := 9, ground := Ground.phase }], guard := none }
def mend2_ops : Array Oper := #[mend2_o0, mend2_o1, mend2_o2, mend2_o3, mend2_o4, mend2_o5, mend2_o6, mend2_o7, mend2_o8, mend2_o9, mend2_o10]
set_option maxRecDepth 100000 in
set_option maxHeartbeats 4000000 in
theorem mend2 {rb ro g cap N i j k : Nat} (Fin : World → Prop) (a : Act) (w : World) (Q : Exit → Act → World → Prop) (zz : a.tmps.size = 19)
    (t0 : a.tmps.getD 0 undef = .pointer (some ⟨rb, ro, none⟩))
    (t1 : a.tmps.getD 1 undef = .int .i64 (i : Int))
    (h0 : MS rb ro g cap N w.drew) (XJ : ∀ W, (Instr.indexAt 85 (.slice (some ⟨g, 0, none⟩) N cap) (.int .i64 (j : Int))).run Try.prog W = .ok (.pointer (some ⟨g, 73 * j, none⟩)) W) (CE : Calls Try.prog 91 #[.pointer (some ⟨rb, ro, none⟩), .int .i64 (i : Int)] w.drew fun e w' => e = .returned (.int .i64 (j : Int)) ∧ MS rb ro g cap N w' ∧ (Instr.loadAt 3 (.pointer (some ⟨g, 73 * j + 68, none⟩))).run Try.prog w' = .ok (.int .i64 (k : Int)) w' ∧ Fin w')
    (h : ∀ (a' : Act) (w' : World), Fin w' → a' = (((((((((((a).put (some 9) (.pointer (some ⟨rb, ro, none⟩))).put (some 10) (.pointer (some ⟨rb, ro, none⟩))).put (some 11) (.pointer (some ⟨rb, ro + 0, none⟩))).put (some 12) (.slice (some ⟨g, 0, none⟩) N cap)).put (some 13) (.pointer (some ⟨rb, ro, none⟩))).put (some 14) (.int .i64 (i : Int))).put (some 15) (.int .i64 (j : Int))).put (some 16) (.pointer (some ⟨g, 73 * j, none⟩))).put (some 17) (.pointer (some ⟨g, 73 * j + 68, none⟩))).put (some 18) (.int .i64 (k : Int))).put (some 1) (.int .i64 (k : Int)) → Q .normal a' w') :
    (Code.region 2 mend2_ops true).wp Try.prog Q a w := by
  refine y0 (fun w' => MS rb ro g cap N w') (h0) (fun hHeld => ?_)
  refine yv 0 rfl rfl (fun w1 hw => exec_move rfl (zi t0 rfl)) hHeld ?_
  refine yv 1 rfl rfl (fun w1 hw => exec_nilCheck rfl (zg zz rfl)) hHeld ?_
  refine yv 2 rfl rfl (fun w1 hw => exec_fieldAt rfl (zg zz rfl) (fg_87_0 _ _ _)) hHeld ?_
  refine yv 3 rfl rfl (fun w1 hw => exec_load rfl (zg zz rfl) hw) hHeld ?_
  refine yv 4 rfl rfl (fun w1 hw => exec_move rfl (zi t0 rfl)) hHeld ?_
  refine yv 5 rfl rfl (fun w1 hw => exec_move rfl (zi t1 rfl)) hHeld ?_
  refine yc 6 rfl rfl (exec_c2 rfl (zg zz rfl) (zg zz rfl)) (CE) (fun e x6 hx => ?_)
  obtain ⟨rfl, S1, LK, HF⟩ := hx
  refine ⟨_, rfl, S1, fun hHeld => ?_⟩
  refine yv 7 rfl rfl (fun w1 hw => exec_indexAt rfl (zg zz rfl) (zg zz rfl) (XJ _)) hHeld ?_
  refine yv 8 rfl rfl (fun w1 hw => exec_fieldAt rfl (zg zz rfl) (fg_113_2 _ _ _)) hHeld ?_
  refine yr (v := .int .i64 (k : Int)) 9 rfl rfl (exec_load rfl (zg zz rfl) LK) (S1) (fun hHeld => ?_)
  refine yv 10 rfl rfl (fun w1 hw => exec_assign rfl (zg zz rfl)) hHeld ?_
  exact ye rfl (h _ _ (HF) rfl)
end Go.Proofs.Ytlejbdepoemcjaa
