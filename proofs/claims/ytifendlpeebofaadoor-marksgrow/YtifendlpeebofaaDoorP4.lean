import Derived.Test.YtifendlpeebofaaDoorP2
import Derived.Test.YtifendlpeebofaaDoorXea
import Derived.RangeFuncNested
import Derived.RangeFuncBound
import Derived.RangeFuncCalls
import Derived.RangeFuncLeaves
import Derived.RangeFuncFrom
import Derived.OwnWalkIn
import Derived.TacticsInMore
import Derived.Test.YtifendlpeebofaaDoorP0
import Derived.Test.YtifendlpeebofaaDoorP3
import Derived.Shelf.Abstract
import Derived.WalkKit
import Derived.WalkSpells
import Derived.WalkLawsBesides
import Derived.Lib.Bytealg
import Derived.Deep.RegionHeld3
import Derived.Deep.Cut
import Derived.Shelf.SlSortCmp.WholeK
import Derived.Shelf.SlSortCmp.NoneTotal
import Derived.Shelf.SlGeneric
import Derived.Ground.SlsfProg
import Derived.Test.YtifendlpeebofaaDoorRows
namespace Go.Proofs.YtifendlpeebofaaDoor
open Go.RowKit Sq
set_option linter.unusedVariables false
set_option linter.unusedSimpArgs false

/- Steps of a list of operations inside a fence that lets all by. -/
section
variable {F : Fence} {n : Nat} {P : Program} {ops : Array Oper} {rest : List Oper} {o : Oper} {a : Act} {w w2 : World} {Q : Exit → Act → World → Prop}
theorem qkI {v : Value} {d : Nat} (hw : Region.wanted o (yielded ops a.tmps) = true) (hr : (execOp a.eval o).run P w = .ok (.value v) w2) (h : ∀ a', a' = a.put (some d) v → wpListIn F n P ops Q rest a' w2) (hd : o.dst = some d := by rfl) (hF : ∀ f, F.fn f := by exact fun _ => trivial) (hn : ∀ c, o.op ≠ .defer c := by intro c h; cases h) : wpListIn F n P ops Q (o :: rest) a w :=
  wpListIn_step fun K hK => by
    rw [if_pos hw]
    refine ⟨fun f _ => hF f, ?_⟩
    rw [Oper.semAt_plain F _ _ hn, hr, Oper.uponIn_value]
    exact hK _ _ (by rw [hd]; exact h _ rfl)
theorem qvI {v : Value} {d : Nat} (hw : Region.wanted o (yielded ops a.tmps) = true) (hr : (execOp a.eval o).run P w = .ok (.value v) w) (h : ∀ a', a' = a.put (some d) v → wpListIn F n P ops Q rest a' w) (hd : o.dst = some d := by rfl) (hF : ∀ f, F.fn f := by exact fun _ => trivial) (hn : ∀ c, o.op ≠ .defer c := by intro c h; cases h) : wpListIn F n P ops Q (o :: rest) a w := qkI hw hr h hd hF hn
theorem qsI (hw : Region.wanted o (yielded ops a.tmps) = true) (hr : (execOp a.eval o).run P w = .ok .skip w2) (h : wpListIn F n P ops Q rest a w2) (hd : o.dst = none := by rfl) (hF : ∀ f, F.fn f := by exact fun _ => trivial) (hn : ∀ c, o.op ≠ .defer c := by intro c h; cases h) : wpListIn F n P ops Q (o :: rest) a w :=
  wpListIn_step fun K hK => by
    rw [if_pos hw]
    refine ⟨fun f _ => hF f, ?_⟩
    rw [Oper.semAt_plain F _ _ hn, hr, Oper.uponIn_skip]
    exact hK _ _ (by rw [hd]; exact h)
theorem qnI {d : Nat} (hw : Region.wanted o (yielded ops a.tmps) = false) (h : ∀ a', a' = a.put (some d) undef → wpListIn F n P ops Q rest a' w) (hd : o.dst = some d := by rfl) (hF : ∀ f, F.fn f := by exact fun _ => trivial) : wpListIn F n P ops Q (o :: rest) a w :=
  wpListIn_step fun K hK => by
    rw [if_neg (by rw [hw]; decide), hd]
    exact ⟨fun f _ => hF f, hK _ _ (h _ rfl)⟩
/-- A call of yield, in the widest fence. -/
theorem qyI {l : Nat} {vs : Array Value} {R : Ending → World → Prop} {d : Nat} (hw : Region.wanted o (yielded ops a.tmps) = true) (hr : (execOp a.eval o).run P w = (Instr.yield l vs).run P w) (hC : YieldAt Fence.wide (n - 1) P l vs w R) (h : ∀ e w', R e w' → ∃ v, e = .returned v ∧ ∀ a', a' = a.put (some d) v → wpListIn Fence.wide n P ops Q rest a' w') (hd : o.dst = some d := by rfl) (hn : ∀ c, o.op ≠ .defer c := by intro c h; cases h) : wpListIn Fence.wide n P ops Q (o :: rest) a w :=
  wpListIn_step fun K hK => by
    rw [if_pos hw]
    refine ⟨fun f _ => trivial, ?_⟩
    obtain ⟨fn, tmps, assign, body, hy, hR⟩ := hC
    rw [Oper.semAt_plain Fence.wide _ _ hn, hr, hy, Oper.uponIn_round]
    refine ⟨fun h => by simp [Fence.wide] at h, hR.mono ?_⟩
    intro e w' hp
    obtain ⟨v, rfl, hh⟩ := h e w' hp
    exact hK _ _ (by rw [hd]; exact hh _ rfl)
end
end Go.Proofs.YtifendlpeebofaaDoor

namespace Go.Proofs.YtifendlpeebofaaDoor
open Go.RowKit
set_option linter.unusedVariables false
set_option linter.unusedSimpArgs false

theorem len_mk (a : Option Addr) (m c : Nat) (w : World) : (Builtin.len_ #[54] 3 #[.slice a m c]).run Tryd.prog w = .ok (.int .i64 (m : Int)) w := by go_simp
theorem ix_mk {b o n c i : Nat} (hi : i < n) (hm : n ≤ 9223372036854775807) (W : World) : (Instr.indexAt 54 (.slice (some ⟨b, o, none⟩) n c) (.int .i64 (i : Int))).run Tryd.prog W = .ok (.pointer (some ⟨b, o + 105 * i, none⟩)) W := by
  rw [Nat.mul_comm]
  go_simp
theorem exec_boxM {P : Program} {w w2 : World} {a : Act} {o : Oper} {t : TypeId} {x : Operand} {v u : Value} (ho : o.op = .box t x) (hx : a.eval x = v) (hl : (Instr.box t v).run P w = .ok u w2) : (execOp a.eval o).run P w = .ok (.value u) w2 := by
  unfold execOp; simp only [ho, hx, Sem.run_bind, hl, Result.andThen_ok, Sem.run_pure]
theorem qcR {l n : Nat} {P : Program} {ops : Array Oper} {rest : List Oper} {o : Oper} {a : Act} {w : World} {Q : Exit → Act → World → Prop} {f : Nat} {vs : Array Value} {R : Ending → World → Prop} {d : Nat} (h1 : 1 ≤ n) (hw : Region.wanted o (yielded ops a.tmps) = true) (hr : (execOp a.eval o).run P w = .ok (.enter f vs) w) (hC : Calls P f vs w R) (h : ∀ e w', R e w' → ∃ v, e = .returned v ∧ ∀ a', a' = a.put (some d) v → wpListIn (Fence.wide.inRound l) n P ops Q rest a' w') (hd : o.dst = some d := by rfl) (hn : ∀ c, o.op ≠ .defer c := by intro c h; cases h) : wpListIn (Fence.wide.inRound l) n P ops Q (o :: rest) a w :=
  wpListIn_step fun K hK => by
    rw [if_pos hw]
    refine ⟨fun f _ => trivial, ?_⟩
    rw [Oper.semAt_plain _ _ _ hn, hr, Oper.uponIn_enter]
    refine ⟨fun _ => h1, (CallsIn.inRound l (callsIn_wide.2 hC)).mono ?_⟩
    intro e w' hp
    obtain ⟨v, rfl, hh⟩ := h e w' hp
    exact hK _ _ (by rw [hd]; exact hh _ rfl)
def bwd0_o0 : Oper := { dst := some 4, op := Op.load 54 (Operand.tmp 1), type := 54, pos := "iter.go:28", after := #[], guard := none }
def bwd0_o1 : Oper := { dst := some 5, op := Op.call { callee := Callee.builtin Builtin.len, args := #[Operand.tmp 4], argTypes := #[54] }, type := 3, pos := "iter.go:28", after := #[{ on := 0, ground := Ground.data }], guard := none }
def bwd0_o2 : Oper := { dst := some 6, op := Op.binOp BinOp.sub 3 (Operand.tmp 5) (Operand.const (Value.int IntKind.i64 1)) 3, type := 3, pos := "iter.go:28", after := #[{ on := 1, ground := Ground.data }], guard := none }
def bwd0_o3 : Oper := { dst := some 3, op := Op.assign (Operand.tmp 6), type := 3, pos := "iter.go:28", after := #[{ on := 2, ground := Ground.data }, { on := 0, ground := Ground.phase }, { on := 1, ground := Ground.phase }, { on := 2, ground := Ground.phase }], guard := none }
def bwd0_ops : Array Oper := #[bwd0_o0, bwd0_o1, bwd0_o2, bwd0_o3]
set_option maxRecDepth 100000 in
set_option maxHeartbeats 4000000 in
theorem bwd0 {bs n c : Nat} {la : Option Addr} (a : Act) (w : World) (Q : Exit → Act → World → Prop) (zz : a.tmps.size = 19)
    (t1 : a.tmps.getD 1 undef = .pointer (some ⟨bs, 0, none⟩))
    (hb : -9223372036854775808 ≤ (n : Int) - 1 ∧ (n : Int) - 1 ≤ 9223372036854775807) (LB : ∀ W, W = w → (Instr.loadAt 54 (.pointer (some ⟨bs, 0, none⟩))).run Tryd.prog W = .ok (.slice la n c) W)
    (h : ∀ (a' : Act) (w' : World), w' = w → a' = ((((a).put (some 4) (.slice la n c)).put (some 5) (.int .i64 (n : Int))).put (some 6) (.int .i64 ((n : Int) - 1))).put (some 3) (.int .i64 ((n : Int) - 1)) → Q .normal a' w') :
    (Code.region 0 bwd0_ops false).wp Tryd.prog Q a w := by
  refine z0 rfl ?_
  refine zv rfl (exec_load rfl (zi t1 rfl) (LB _ rfl)) ?_
  refine zv rfl (exec_len rfl (zg zz rfl) (len_mk _ _ _ _)) ?_
  refine zv (v := .int .i64 ((n : Int) - 1)) rfl (ex_sub rfl (zg zz rfl) rfl hb) ?_
  refine zv rfl (exec_assign rfl (zg zz rfl)) ?_
  exact ze rfl (h _ _ (rfl) rfl)
def bwd1_o0 : Oper := { dst := some 7, op := Op.move (Operand.tmp 3), type := 3, pos := "iter.go:28", after := #[], guard := none }
def bwd1_o1 : Oper := { dst := some 8, op := Op.binOp BinOp.geq 3 (Operand.tmp 7) (Operand.const (Value.int IntKind.i64 0)) 3, type := 4, pos := "iter.go:28", after := #[{ on := 0, ground := Ground.data }], guard := none }
def bwd1_ops : Array Oper := #[bwd1_o0, bwd1_o1]
set_option maxRecDepth 100000 in
set_option maxHeartbeats 4000000 in
theorem bwd1 {z : Int} {r : Bool} (a : Act) (w : World) (Q : Exit → Act → World → Prop) (zz : a.tmps.size = 19)
    (t3 : a.tmps.getD 3 undef = .int .i64 z)
    (hz : decide (z ≥ 0) = r)
    (h : ∀ (a' : Act) (w' : World), w' = w → a' = ((a).put (some 7) (.int .i64 z)).put (some 8) (.bool r) → Q .normal a' w') :
    (Code.region 1 bwd1_ops false).wp Tryd.prog Q a w := by
  refine z0 rfl ?_
  refine zv rfl (exec_move rfl (zi t3 rfl)) ?_
  refine zv (v := .bool r) rfl (ex_geq rfl (zg zz rfl) rfl hz) ?_
  exact ze rfl (h _ _ (rfl) rfl)
def bwd2_o0 : Oper := { dst := some 9, op := Op.move (Operand.tmp 3), type := 3, pos := "iter.go:28", after := #[], guard := none }
def bwd2_o1 : Oper := { dst := some 10, op := Op.binOp BinOp.sub 3 (Operand.tmp 9) (Operand.const (Value.int IntKind.i64 1)) 3, type := 3, pos := "iter.go:28", after := #[{ on := 0, ground := Ground.data }], guard := none }
def bwd2_o2 : Oper := { dst := some 3, op := Op.assign (Operand.tmp 10), type := 3, pos := "iter.go:28", after := #[{ on := 1, ground := Ground.data }, { on := 0, ground := Ground.phase }, { on := 1, ground := Ground.phase }], guard := none }
def bwd2_ops : Array Oper := #[bwd2_o0, bwd2_o1, bwd2_o2]
set_option maxRecDepth 100000 in
set_option maxHeartbeats 4000000 in
theorem bwd2 {z : Int} (a : Act) (w : World) (Q : Exit → Act → World → Prop) (zz : a.tmps.size = 19)
    (t3 : a.tmps.getD 3 undef = .int .i64 z)
    (hb : -9223372036854775808 ≤ z - 1 ∧ z - 1 ≤ 9223372036854775807)
    (h : ∀ (a' : Act) (w' : World), w' = w → a' = (((a).put (some 9) (.int .i64 z)).put (some 10) (.int .i64 (z - 1))).put (some 3) (.int .i64 (z - 1)) → Q .normal a' w') :
    (Code.region 2 bwd2_ops false).wp Tryd.prog Q a w := by
  refine z0 rfl ?_
  refine zv rfl (exec_move rfl (zi t3 rfl)) ?_
  refine zv (v := .int .i64 (z - 1)) rfl (ex_sub rfl (zg zz rfl) rfl hb) ?_
  refine zv rfl (exec_assign rfl (zg zz rfl)) ?_
  exact ze rfl (h _ _ (rfl) rfl)
def bwd3_o0 : Oper := { dst := some 11, op := Op.move (Operand.tmp 0), type := 111, pos := "iter.go:29", after := #[], guard := none }
def bwd3_o1 : Oper := { dst := some 12, op := Op.move (Operand.tmp 3), type := 3, pos := "iter.go:29", after := #[], guard := none }
def bwd3_o2 : Oper := { dst := some 13, op := Op.load 54 (Operand.tmp 1), type := 54, pos := "iter.go:29", after := #[], guard := none }
def bwd3_o3 : Oper := { dst := some 14, op := Op.move (Operand.tmp 3), type := 3, pos := "iter.go:29", after := #[], guard := none }
def bwd3_o4 : Oper := { dst := some 15, op := Op.indexAddr 54 (Operand.tmp 13) (Operand.tmp 14), type := 0, pos := "iter.go:29", after := #[{ on := 2, ground := Ground.data }, { on := 3, ground := Ground.data }], guard := none }
def bwd3_o5 : Oper := { dst := some 16, op := Op.load 59 (Operand.tmp 15), type := 59, pos := "iter.go:29", after := #[{ on := 4, ground := Ground.data }], guard := none }
def bwd3_o6 : Oper := { dst := some 17, op := Op.call { callee := Callee.value (Operand.tmp 11), args := #[Operand.tmp 12, Operand.tmp 16], argTypes := #[3, 59] }, type := 4, pos := "iter.go:29", after := #[{ on := 0, ground := Ground.data }, { on := 1, ground := Ground.data }, { on := 5, ground := Ground.data }], guard := none }
def bwd3_o7 : Oper := { dst := some 18, op := Op.unOp UnOp.not 4 (Operand.tmp 17), type := 4, pos := "iter.go:29", after := #[{ on := 6, ground := Ground.data }], guard := none }
def bwd3_ops : Array Oper := #[bwd3_o0, bwd3_o1, bwd3_o2, bwd3_o3, bwd3_o4, bwd3_o5, bwd3_o6, bwd3_o7]
set_option maxRecDepth 100000 in
set_option maxHeartbeats 4000000 in
theorem bwd3 {bs g o n c i l n0 : Nat} {x : MkV} (Fin : Bool → World → Prop) (a : Act) (w : World) (Q : Exit → Act → World → Prop) (hsz : a.tmps.size = 19)
    (t0 : a.tmps.getD 0 undef = .func (.yield l) #[] #[])
    (t1 : a.tmps.getD 1 undef = .pointer (some ⟨bs, 0, none⟩))
    (t3 : a.tmps.getD 3 undef = .int .i64 (i : Int))
    (hi : i < n) (hm : n ≤ 9223372036854775807) (LB : (Instr.loadAt 54 (.pointer (some ⟨bs, 0, none⟩))).run Tryd.prog w = .ok (.slice (some ⟨g, o, none⟩) n c) w) (LX : (Instr.loadAt 59 (.pointer (some ⟨g, o + 105 * i, none⟩))).run Tryd.prog w = .ok x.a w) (CY : YieldAt Fence.wide (n0 - 1) Tryd.prog l #[.int .i64 (i : Int), x.a] w fun e w' => ∃ b, e = .returned (.bool b) ∧ Fin b w')
    (h : ∀ (b : Bool) (a' : Act) (w' : World), Fin b w' → a' = ((((((((a).put (some 11) (.func (.yield l) #[] #[])).put (some 12) (.int .i64 (i : Int))).put (some 13) (.slice (some ⟨g, o, none⟩) n c)).put (some 14) (.int .i64 (i : Int))).put (some 15) (.pointer (some ⟨g, o + 105 * i, none⟩))).put (some 16) (x.a)).put (some 17) (.bool b)).put (some 18) (.bool (!b)) → Q .normal a' w') :
    (Code.region 3 bwd3_ops false).wpIn Fence.wide n0 Tryd.prog Q a w := by
  refine wpIn_region_list ?_
  change wpListIn _ _ _ _ _ [bwd3_o0, bwd3_o1, bwd3_o2, bwd3_o3, bwd3_o4, bwd3_o5, bwd3_o6, bwd3_o7] _ _
  refine qvI (v := .func (.yield l) #[] #[]) (by rfl) (exec_move rfl t0) (fun a0 e0 => ?_)
  rw [← e0] at h
  have z0 := pz e0 hsz
  replace t1 := pk e0 t1
  replace t3 := pk e0 t3
  clear t0
  have t11 := pq e0 hsz
  clear e0 hsz
  refine qvI (v := .int .i64 (i : Int)) (by rfl) (exec_move rfl t3) (fun a1 e1 => ?_)
  rw [← e1] at h
  have z1 := pz e1 z0
  replace t1 := pk e1 t1
  replace t3 := pk e1 t3
  replace t11 := pk e1 t11
  have t12 := pq e1 z0
  clear e1 z0
  refine qvI (v := .slice (some ⟨g, o, none⟩) n c) (by rfl) (exec_load rfl t1 LB) (fun a2 e2 => ?_)
  rw [← e2] at h
  have z2 := pz e2 z1
  replace t3 := pk e2 t3
  replace t11 := pk e2 t11
  replace t12 := pk e2 t12
  clear t1
  have t13 := pq e2 z1
  clear e2 z1
  refine qvI (v := .int .i64 (i : Int)) (by rfl) (exec_move rfl t3) (fun a3 e3 => ?_)
  rw [← e3] at h
  have z3 := pz e3 z2
  replace t11 := pk e3 t11
  replace t12 := pk e3 t12
  replace t13 := pk e3 t13
  clear t3
  have t14 := pq e3 z2
  clear e3 z2
  refine qvI (v := .pointer (some ⟨g, o + 105 * i, none⟩)) (by rfl) (exec_indexAt rfl t13 t14 (ix_mk hi hm _)) (fun a4 e4 => ?_)
  rw [← e4] at h
  have z4 := pz e4 z3
  replace t11 := pk e4 t11
  replace t12 := pk e4 t12
  clear t13 t14
  have t15 := pq e4 z3
  clear e4 z3
  refine qvI (v := x.a) (by rfl) (exec_load rfl t15 LX) (fun a5 e5 => ?_)
  rw [← e5] at h
  have z5 := pz e5 z4
  replace t11 := pk e5 t11
  replace t12 := pk e5 t12
  clear t15
  have t16 := pq e5 z4
  clear e5 z4
  refine qyI (by rfl) (by unfold bwd3_o6; go_simp) (CY) (fun e x6 hx => ?_)
  obtain ⟨b, rfl, HF⟩ := hx
  replace h := h b
  refine ⟨_, rfl, fun a6 e6 => ?_⟩
  rw [← e6] at h
  have z6 := pz e6 z5
  clear t11 t12 t16
  have t17 := pq e6 z5
  clear e6 z5
  refine qvI (v := .bool (!b)) (by rfl) (by unfold bwd3_o7; go_simp) (fun a7 e7 => ?_)
  rw [← e7] at h
  have z7 := pz e7 z6
  clear t17
  clear e7 z6
  exact wpListIn_nil (h _ _ (HF) rfl)
def cov0_o0 : Oper := { dst := some 4, op := Op.box 25 (Operand.tmp 1), type := 0, pos := "tell.go:30", after := #[], guard := none }
def cov0_o1 : Oper := { dst := some 5, op := Op.box 3 (Operand.tmp 2), type := 0, pos := "tell.go:30", after := #[], guard := none }
def cov0_o2 : Oper := { dst := some 6, op := Op.assign (Operand.const (Value.slice none 0 0)), type := 54, pos := "tell.go:30", after := #[], guard := none }
def cov0_ops : Array Oper := #[cov0_o0, cov0_o1, cov0_o2]
set_option maxRecDepth 100000 in
set_option maxHeartbeats 4000000 in
theorem cov0 {sp : Value} {r : Int} {b4 b5 : Nat} {w1 w2 : World} (a : Act) (w : World) (Q : Exit → Act → World → Prop) (zz : a.tmps.size = 53)
    (t1 : a.tmps.getD 1 undef = sp)
    (t2 : a.tmps.getD 2 undef = .int .i64 r)
    (E1 : (Instr.box 25 sp).run Tryd.prog w = .ok (.pointer (some ⟨b4, 0, none⟩)) w1) (E2 : (Instr.box 3 (.int .i64 r)).run Tryd.prog w1 = .ok (.pointer (some ⟨b5, 0, none⟩)) w2)
    (h : ∀ (a' : Act) (w' : World), w' = w2 → a' = (((a).put (some 4) (.pointer (some ⟨b4, 0, none⟩))).put (some 5) (.pointer (some ⟨b5, 0, none⟩))).put (some 6) (.slice none 0 0) → Q .normal a' w') :
    (Code.region 0 cov0_ops false).wp Tryd.prog Q a w := by
  refine z0 rfl ?_
  refine zv (v := .pointer (some ⟨b4, 0, none⟩)) rfl (exec_boxM rfl (zi t1 rfl) E1) ?_
  refine zv (v := .pointer (some ⟨b5, 0, none⟩)) rfl (exec_boxM rfl (zi t2 rfl) E2) ?_
  refine zv rfl (exec_assign rfl rfl) ?_
  exact ze rfl (h _ _ (rfl) rfl)
def cov1_o0 : Oper := { dst := some 7, op := Op.alloc 54, type := 0, pos := "tell.go:31", after := #[], guard := none }
def cov1_ops : Array Oper := #[cov1_o0]
set_option maxRecDepth 100000 in
set_option maxHeartbeats 4000000 in
theorem cov1 {b7 : Nat} {w1 : World} (a : Act) (w : World) (Q : Exit → Act → World → Prop) (zz : a.tmps.size = 53)
    (E1 : (Instr.alloc 54 true (.tuple #[])).run Tryd.prog w = .ok (.pointer (some ⟨b7, 0, none⟩)) w1)
    (h : ∀ (a' : Act) (w' : World), w' = w1 → a' = (a).put (some 7) (.pointer (some ⟨b7, 0, none⟩)) → Q .normal a' w') :
    (Code.region 1 cov1_ops false).wp Tryd.prog Q a w := by
  refine z0 rfl ?_
  refine zv (v := .pointer (some ⟨b7, 0, none⟩)) rfl (exec_alloc rfl E1) ?_
  exact ze rfl (h _ _ (rfl) rfl)
def cov2_o0 : Oper := { dst := some 15, op := Op.makeMap 90 none, type := 90, pos := "tell.go:32", after := #[], guard := none }
def cov2_o1 : Oper := { dst := some 8, op := Op.alloc 90, type := 0, pos := "tell.go:32", after := #[], guard := none }
def cov2_o2 : Oper := { dst := none, op := Op.store 90 (Operand.tmp 8) (Operand.tmp 15), type := 0, pos := "tell.go:32", after := #[{ on := 1, ground := Ground.data }, { on := 0, ground := Ground.data }, { on := 0, ground := Ground.phase }, { on := 1, ground := Ground.phase }], guard := none }
def cov2_ops : Array Oper := #[cov2_o0, cov2_o1, cov2_o2]
set_option maxRecDepth 100000 in
set_option maxHeartbeats 4000000 in
theorem cov2 {b8 fm : Nat} {w1 w2 w3 : World} (a : Act) (w : World) (Q : Exit → Act → World → Prop) (zz : a.tmps.size = 53)
    (E1 : (Instr.makeMap 90 none).run Tryd.prog w = .ok (.map (some fm)) w1) (E2 : (Instr.alloc 90 true (.tuple #[])).run Tryd.prog w1 = .ok (.pointer (some ⟨b8, 0, none⟩)) w2) (E3 : (Instr.storeAt 90 (.pointer (some ⟨b8, 0, none⟩)) (.map (some fm))).run Tryd.prog w2 = .ok () w3)
    (h : ∀ (a' : Act) (w' : World), w' = w3 → a' = ((a).put (some 15) (.map (some fm))).put (some 8) (.pointer (some ⟨b8, 0, none⟩)) → Q .normal a' w') :
    (Code.region 2 cov2_ops false).wp Tryd.prog Q a w := by
  refine z0 rfl ?_
  refine zv (v := .map (some fm)) rfl (exec_makeMap rfl E1) ?_
  refine zv (v := .pointer (some ⟨b8, 0, none⟩)) rfl (exec_alloc rfl E2) ?_
  refine zs rfl (exec_store rfl (zg zz rfl) (zg zz rfl) E3) ?_
  exact ze rfl (h _ _ (rfl) rfl)
def cov3_o0 : Oper := { dst := some 16, op := Op.move (Operand.tmp 0), type := 26, pos := "tell.go:33", after := #[], guard := none }
def cov3_o1 : Oper := { dst := some 17, op := Op.nilCheck (Operand.tmp 16), type := 0, pos := "tell.go:33", after := #[{ on := 0, ground := Ground.data }], guard := none }
def cov3_o2 : Oper := { dst := some 18, op := Op.fieldAddr 57 (Operand.tmp 17) 0, type := 0, pos := "tell.go:33", after := #[{ on := 1, ground := Ground.data }], guard := none }
def cov3_o3 : Oper := { dst := some 19, op := Op.load 54 (Operand.tmp 18), type := 54, pos := "tell.go:33", after := #[{ on := 2, ground := Ground.data }], guard := none }
def cov3_o4 : Oper := { dst := some 20, op := Op.call { callee := Callee.value (Operand.func 35), args := #[Operand.tmp 19], argTypes := #[54] }, type := 92, pos := "tell.go:33", after := #[{ on := 3, ground := Ground.data }], guard := none }
def cov3_ops : Array Oper := #[cov3_o0, cov3_o1, cov3_o2, cov3_o3, cov3_o4]
set_option maxRecDepth 100000 in
set_option maxHeartbeats 4000000 in
theorem cov3 {mb : Nat} {lv : Value} (Fin : Value → World → Prop) (a : Act) (w : World) (Q : Exit → Act → World → Prop) (zz : a.tmps.size = 53)
    (t0 : a.tmps.getD 0 undef = .pointer (some ⟨mb, 0, none⟩))
    (LL : ∀ W, W = w → (Instr.loadAt 54 (.pointer (some ⟨mb, 0 + 0, none⟩))).run Tryd.prog W = .ok (lv) W) (CB : Calls Tryd.prog 35 #[lv] w fun e w' => ∃ v, e = .returned v ∧ Fin v w')
    (h : ∀ (v : Value) (a' : Act) (w' : World), Fin v w' → a' = (((((a).put (some 16) (.pointer (some ⟨mb, 0, none⟩))).put (some 17) (.pointer (some ⟨mb, 0, none⟩))).put (some 18) (.pointer (some ⟨mb, 0 + 0, none⟩))).put (some 19) (lv)).put (some 20) (v) → Q .normal a' w') :
    (Code.region 3 cov3_ops false).wp Tryd.prog Q a w := by
  refine z0 rfl ?_
  refine zv rfl (exec_move rfl (zi t0 rfl)) ?_
  refine zv rfl (exec_nilCheck rfl (zg zz rfl)) ?_
  refine zv rfl (exec_fieldAt rfl (zg zz rfl) (fg_57_0 _ _ _)) ?_
  refine zv rfl (exec_load rfl (zg zz rfl) (LL _ rfl)) ?_
  refine zc rfl (exec_c1 rfl (zg zz rfl)) (CB) (fun e x4 hx => ?_)
  obtain ⟨v, rfl, HF⟩ := hx
  replace h := h v
  refine ⟨_, rfl, ?_⟩
  exact ze rfl (h _ _ (HF) rfl)
def cov4_o0 : Oper := { dst := some 10, op := Op.alloc 59, type := 0, pos := "tell.go:33", after := #[], guard := none }
def cov4_o1 : Oper := { dst := none, op := Op.store 59 (Operand.tmp 10) (Operand.tmp 22), type := 0, pos := "tell.go:33", after := #[{ on := 0, ground := Ground.data }, { on := 0, ground := Ground.phase }], guard := none }
def cov4_ops : Array Oper := #[cov4_o0, cov4_o1]
set_option maxRecDepth 100000 in
set_option maxHeartbeats 4000000 in
theorem cov4 {l n eb : Nat} {v : Value} {w1 w2 : World} (a : Act) (w : World) (Q : Exit → Act → World → Prop) (hsz : a.tmps.size = 53)
    (t22 : a.tmps.getD 22 undef = v)
    (EA : (Instr.alloc 59 true (.tuple #[])).run Tryd.prog w = .ok (.pointer (some ⟨eb, 0, none⟩)) w1) (ES : (Instr.storeAt 59 (.pointer (some ⟨eb, 0, none⟩)) v).run Tryd.prog w1 = .ok () w2)
    (h : ∀ (a' : Act) (w' : World), w' = w2 → a' = (a).put (some 10) (.pointer (some ⟨eb, 0, none⟩)) → Q .normal a' w') :
    (Code.region 4 cov4_ops false).wpIn (Fence.wide.inRound l) n Tryd.prog Q a w := by
  refine wpIn_region_list ?_
  change wpListIn _ _ _ _ _ [cov4_o0, cov4_o1] _ _
  refine qkI (v := .pointer (some ⟨eb, 0, none⟩)) (by rfl) (exec_alloc rfl EA) (fun a0 e0 => ?_)
  rw [← e0] at h
  have z0 := pz e0 hsz
  replace t22 := pk e0 t22
  have t10 := pq e0 hsz
  clear e0 hsz
  refine qsI (by rfl) (exec_store rfl t10 t22 ES) ?_
  exact wpListIn_nil (h _ _ (rfl) rfl)
def cov5_o0 : Oper := { dst := some 24, op := Op.load 90 (Operand.tmp 8), type := 90, pos := "tell.go:34", after := #[], guard := none }
def cov5_o1 : Oper := { dst := some 25, op := Op.fieldAddr 59 (Operand.tmp 10) 1, type := 0, pos := "tell.go:34", after := #[], guard := none }
def cov5_o2 : Oper := { dst := some 26, op := Op.load 9 (Operand.tmp 25), type := 9, pos := "tell.go:34", after := #[{ on := 1, ground := Ground.data }], guard := none }
def cov5_o3 : Oper := { dst := some 27, op := Op.lookup 90 (Operand.tmp 24) (Operand.tmp 26) true, type := 84, pos := "tell.go:34", after := #[{ on := 0, ground := Ground.data }, { on := 2, ground := Ground.data }], guard := none }
def cov5_o4 : Oper := { dst := some 23, op := Op.move (Operand.tmp 27), type := 84, pos := "tell.go:34", after := #[{ on := 3, ground := Ground.data }], guard := none }
def cov5_o5 : Oper := { dst := some 28, op := Op.extract (Operand.tmp 23) 0, type := 60, pos := "tell.go:34", after := #[{ on := 4, ground := Ground.data }], guard := none }
def cov5_o6 : Oper := { dst := some 29, op := Op.extract (Operand.tmp 23) 1, type := 4, pos := "tell.go:34", after := #[{ on := 4, ground := Ground.data }, { on := 8, ground := Ground.gcOnly Departure.lateStores }], guard := none }
def cov5_o7 : Oper := { dst := some 11, op := Op.alloc 60, type := 0, pos := "tell.go:34", after := #[], guard := none }
def cov5_o8 : Oper := { dst := none, op := Op.store 60 (Operand.tmp 11) (Operand.tmp 28), type := 0, pos := "tell.go:34", after := #[{ on := 7, ground := Ground.data }, { on := 5, ground := Ground.data }, { on := 0, ground := Ground.phase }, { on := 1, ground := Ground.phase }, { on := 2, ground := Ground.phase }, { on := 3, ground := Ground.phase }, { on := 4, ground := Ground.phase }, { on := 5, ground := Ground.phase }, { on := 6, ground := Ground.textOnly Departure.lateStores }, { on := 7, ground := Ground.phase }], guard := none }
def cov5_o9 : Oper := { dst := some 12, op := Op.assign (Operand.tmp 29), type := 4, pos := "tell.go:34", after := #[{ on := 6, ground := Ground.data }, { on := 8, ground := Ground.chain }, { on := 0, ground := Ground.phase }, { on := 1, ground := Ground.phase }, { on := 2, ground := Ground.phase }, { on := 3, ground := Ground.phase }, { on := 4, ground := Ground.phase }, { on := 5, ground := Ground.phase }, { on := 6, ground := Ground.phase }, { on := 7, ground := Ground.phase }, { on := 8, ground := Ground.phase }], guard := none }
def cov5_ops : Array Oper := #[cov5_o0, cov5_o1, cov5_o2, cov5_o3, cov5_o4, cov5_o5, cov5_o6, cov5_o7, cov5_o8, cov5_o9]
set_option maxRecDepth 100000 in
set_option maxHeartbeats 4000000 in
theorem cov5 {l n eb b8 fm ub : Nat} {nm : ByteArray} {r : Bool} {w1 w2 : World} (a : Act) (w : World) (Q : Exit → Act → World → Prop) (hsz : a.tmps.size = 53)
    (t8 : a.tmps.getD 8 undef = .pointer (some ⟨b8, 0, none⟩))
    (t10 : a.tmps.getD 10 undef = .pointer (some ⟨eb, 0, none⟩))
    (L0 : (Instr.loadAt 90 (.pointer (some ⟨b8, 0, none⟩))).run Tryd.prog w = .ok (.map (some fm)) w) (L1 : (Instr.loadAt 9 (.pointer (some ⟨eb, 0 + 33, none⟩))).run Tryd.prog w = .ok (.string nm) w) (LK : (Instr.lookup 90 (.map (some fm)) (.string nm) true).run Tryd.prog w = .ok (.tuple #[.agg #[], .bool r]) w) (EA : (Instr.alloc 60 true (.tuple #[])).run Tryd.prog w = .ok (.pointer (some ⟨ub, 0, none⟩)) w1) (ES : (Instr.storeAt 60 (.pointer (some ⟨ub, 0, none⟩)) (.agg #[])).run Tryd.prog w1 = .ok () w2)
    (h : ∀ (a' : Act) (w' : World), w' = w2 → a' = (((((((((a).put (some 24) (.map (some fm))).put (some 25) (.pointer (some ⟨eb, 0 + 33, none⟩))).put (some 26) (.string nm)).put (some 27) (.tuple #[.agg #[], .bool r])).put (some 23) (.tuple #[.agg #[], .bool r])).put (some 28) (.agg #[])).put (some 29) (.bool r)).put (some 11) (.pointer (some ⟨ub, 0, none⟩))).put (some 12) (.bool r) → Q .normal a' w') :
    (Code.region 5 cov5_ops false).wpIn (Fence.wide.inRound l) n Tryd.prog Q a w := by
  refine wpIn_region_list ?_
  change wpListIn _ _ _ _ _ [cov5_o0, cov5_o1, cov5_o2, cov5_o3, cov5_o4, cov5_o5, cov5_o6, cov5_o7, cov5_o8, cov5_o9] _ _
  refine qvI (v := .map (some fm)) (by rfl) (exec_load rfl t8 L0) (fun a0 e0 => ?_)
  rw [← e0] at h
  have z0 := pz e0 hsz
  replace t10 := pk e0 t10
  clear t8
  have t24 := pq e0 hsz
  clear e0 hsz
  refine qvI (v := .pointer (some ⟨eb, 0 + 33, none⟩)) (by rfl) (exec_fieldAt rfl t10 (fg_59_1 _ _ _)) (fun a1 e1 => ?_)
  rw [← e1] at h
  have z1 := pz e1 z0
  replace t24 := pk e1 t24
  clear t10
  have t25 := pq e1 z0
  clear e1 z0
  refine qvI (v := .string nm) (by rfl) (exec_load rfl t25 L1) (fun a2 e2 => ?_)
  rw [← e2] at h
  have z2 := pz e2 z1
  replace t24 := pk e2 t24
  clear t25
  have t26 := pq e2 z1
  clear e2 z1
  refine qvI (v := .tuple #[.agg #[], .bool r]) (by rfl) (exec_lookup rfl t24 t26 LK) (fun a3 e3 => ?_)
  rw [← e3] at h
  have z3 := pz e3 z2
  clear t24 t26
  have t27 := pq e3 z2
  clear e3 z2
  refine qvI (v := .tuple #[.agg #[], .bool r]) (by rfl) (exec_move rfl t27) (fun a4 e4 => ?_)
  rw [← e4] at h
  have z4 := pz e4 z3
  clear t27
  have t23 := pq e4 z3
  clear e4 z3
  refine qvI (v := .agg #[]) (by rfl) (exec_extract rfl t23 rfl) (fun a5 e5 => ?_)
  rw [← e5] at h
  have z5 := pz e5 z4
  replace t23 := pk e5 t23
  have t28 := pq e5 z4
  clear e5 z4
  refine qvI (v := .bool r) (by rfl) (exec_extract rfl t23 rfl) (fun a6 e6 => ?_)
  rw [← e6] at h
  have z6 := pz e6 z5
  replace t28 := pk e6 t28
  clear t23
  have t29 := pq e6 z5
  clear e6 z5
  refine qkI (v := .pointer (some ⟨ub, 0, none⟩)) (by rfl) (exec_alloc rfl EA) (fun a7 e7 => ?_)
  rw [← e7] at h
  have z7 := pz e7 z6
  replace t28 := pk e7 t28
  replace t29 := pk e7 t29
  have t11 := pq e7 z6
  clear e7 z6
  refine qsI (by rfl) (exec_store rfl t11 t28 ES) ?_
  refine qvI (v := .bool r) (by rfl) (exec_assign rfl t29) (fun a9 e9 => ?_)
  rw [← e9] at h
  have z9 := pz e9 z7
  clear t28 t29 t11
  clear e9 z7
  exact wpListIn_nil (h _ _ (rfl) rfl)
def cov6_o0 : Oper := { dst := some 30, op := Op.move (Operand.tmp 12), type := 4, pos := "tell.go:34", after := #[], guard := none }
def cov6_ops : Array Oper := #[cov6_o0]
set_option maxRecDepth 100000 in
set_option maxHeartbeats 4000000 in
theorem cov6 {l n : Nat} {r : Bool} (a : Act) (w : World) (Q : Exit → Act → World → Prop) (hsz : a.tmps.size = 53)
    (t12 : a.tmps.getD 12 undef = .bool r)
    (h : ∀ (a' : Act) (w' : World), w' = w → a' = (a).put (some 30) (.bool r) → Q .normal a' w') :
    (Code.region 6 cov6_ops false).wpIn (Fence.wide.inRound l) n Tryd.prog Q a w := by
  refine wpIn_region_list ?_
  change wpListIn _ _ _ _ _ [cov6_o0] _ _
  refine qvI (v := .bool r) (by rfl) (exec_move rfl t12) (fun a0 e0 => ?_)
  rw [← e0] at h
  have z0 := pz e0 hsz
  clear t12
  clear e0 hsz
  exact wpListIn_nil (h _ _ (rfl) rfl)
def cov7_o0 : Oper := { dst := some 32, op := Op.load 25 (Operand.tmp 4), type := 25, pos := "tell.go:37", after := #[], guard := none }
def cov7_o1 : Oper := { dst := some 33, op := Op.call { callee := Callee.value (Operand.func 36), args := #[Operand.tmp 10, Operand.tmp 32], argTypes := #[59, 25] }, type := 94, pos := "tell.go:37", after := #[{ on := 0, ground := Ground.data }], guard := none }
def cov7_o2 : Oper := { dst := some 31, op := Op.move (Operand.tmp 33), type := 94, pos := "tell.go:37", after := #[{ on := 1, ground := Ground.data }], guard := none }
def cov7_o3 : Oper := { dst := some 34, op := Op.extract (Operand.tmp 31) 0, type := 3, pos := "tell.go:37", after := #[{ on := 2, ground := Ground.data }], guard := none }
def cov7_o4 : Oper := { dst := some 35, op := Op.extract (Operand.tmp 31) 1, type := 3, pos := "tell.go:37", after := #[{ on := 2, ground := Ground.data }, { on := 5, ground := Ground.gcOnly Departure.lateStores }], guard := none }
def cov7_o5 : Oper := { dst := some 13, op := Op.assign (Operand.tmp 34), type := 3, pos := "tell.go:37", after := #[{ on := 3, ground := Ground.data }, { on := 1, ground := Ground.chain }, { on := 0, ground := Ground.phase }, { on := 1, ground := Ground.phase }, { on := 2, ground := Ground.phase }, { on := 3, ground := Ground.phase }, { on := 4, ground := Ground.textOnly Departure.lateStores }], guard := none }
def cov7_o6 : Oper := { dst := some 14, op := Op.assign (Operand.tmp 35), type := 3, pos := "tell.go:37", after := #[{ on := 4, ground := Ground.data }, { on := 5, ground := Ground.chain }, { on := 0, ground := Ground.phase }, { on := 1, ground := Ground.phase }, { on := 2, ground := Ground.phase }, { on := 3, ground := Ground.phase }, { on := 4, ground := Ground.phase }, { on := 5, ground := Ground.phase }], guard := none }
def cov7_ops : Array Oper := #[cov7_o0, cov7_o1, cov7_o2, cov7_o3, cov7_o4, cov7_o5, cov7_o6]
set_option maxRecDepth 100000 in
set_option maxHeartbeats 4000000 in
theorem cov7 {l n eb b4 : Nat} {sp : Value} {f u : Int} (Fin : World → Prop) (a : Act) (w : World) (Q : Exit → Act → World → Prop) (hsz : a.tmps.size = 53)
    (t4 : a.tmps.getD 4 undef = .pointer (some ⟨b4, 0, none⟩))
    (t10 : a.tmps.getD 10 undef = .pointer (some ⟨eb, 0, none⟩))
    (h1 : 1 ≤ n) (L0 : (Instr.loadAt 25 (.pointer (some ⟨b4, 0, none⟩))).run Tryd.prog w = .ok sp w) (CR : Calls Tryd.prog 36 #[.pointer (some ⟨eb, 0, none⟩), sp] w fun e w' => e = .returned (.tuple #[.int .i64 f, .int .i64 u]) ∧ Fin w')
    (h : ∀ (a' : Act) (w' : World), Fin w' → a' = (((((((a).put (some 32) (sp)).put (some 33) (.tuple #[.int .i64 f, .int .i64 u])).put (some 31) (.tuple #[.int .i64 f, .int .i64 u])).put (some 34) (.int .i64 f)).put (some 35) (.int .i64 u)).put (some 13) (.int .i64 f)).put (some 14) (.int .i64 u) → Q .normal a' w') :
    (Code.region 7 cov7_ops false).wpIn (Fence.wide.inRound l) n Tryd.prog Q a w := by
  refine wpIn_region_list ?_
  change wpListIn _ _ _ _ _ [cov7_o0, cov7_o1, cov7_o2, cov7_o3, cov7_o4, cov7_o5, cov7_o6] _ _
  refine qvI (v := sp) (by rfl) (exec_load rfl t4 L0) (fun a0 e0 => ?_)
  rw [← e0] at h
  have z0 := pz e0 hsz
  replace t10 := pk e0 t10
  clear t4
  have t32 := pq e0 hsz
  clear e0 hsz
  refine qcR h1 (by rfl) (by unfold cov7_o1; go_simp) (CR) (fun e x1 hx => ?_)
  obtain ⟨rfl, HF⟩ := hx
  refine ⟨_, rfl, fun a1 e1 => ?_⟩
  rw [← e1] at h
  have z1 := pz e1 z0
  clear t10 t32
  have t33 := pq e1 z0
  clear e1 z0
  refine qvI (v := .tuple #[.int .i64 f, .int .i64 u]) (by rfl) (exec_move rfl t33) (fun a2 e2 => ?_)
  rw [← e2] at h
  have z2 := pz e2 z1
  clear t33
  have t31 := pq e2 z1
  clear e2 z1
  refine qvI (v := .int .i64 f) (by rfl) (exec_extract rfl t31 rfl) (fun a3 e3 => ?_)
  rw [← e3] at h
  have z3 := pz e3 z2
  replace t31 := pk e3 t31
  have t34 := pq e3 z2
  clear e3 z2
  refine qvI (v := .int .i64 u) (by rfl) (exec_extract rfl t31 rfl) (fun a4 e4 => ?_)
  rw [← e4] at h
  have z4 := pz e4 z3
  replace t34 := pk e4 t34
  clear t31
  have t35 := pq e4 z3
  clear e4 z3
  refine qvI (v := .int .i64 f) (by rfl) (exec_assign rfl t34) (fun a5 e5 => ?_)
  rw [← e5] at h
  have z5 := pz e5 z4
  replace t35 := pk e5 t35
  clear t34
  clear e5 z4
  refine qvI (v := .int .i64 u) (by rfl) (exec_assign rfl t35) (fun a6 e6 => ?_)
  rw [← e6] at h
  have z6 := pz e6 z5
  clear t35
  clear e6 z5
  exact wpListIn_nil (h _ _ (HF) rfl)
def cov8f_o0 : Oper := { dst := some 36, op := Op.move (Operand.tmp 13), type := 3, pos := "tell.go:37", after := #[], guard := none }
def cov8f_o1 : Oper := { dst := some 37, op := Op.load 3 (Operand.tmp 5), type := 3, pos := "tell.go:37", after := #[], guard := none }
def cov8f_o2 : Oper := { dst := some 38, op := Op.binOp BinOp.leq 3 (Operand.tmp 36) (Operand.tmp 37) 3, type := 4, pos := "tell.go:37", after := #[{ on := 0, ground := Ground.data }, { on := 1, ground := Ground.data }], guard := none }
def cov8f_o3 : Oper := { dst := some 39, op := Op.move (Operand.tmp 38), type := 4, pos := "tell.go:37", after := #[{ on := 2, ground := Ground.data }], guard := none }
def cov8f_o4 : Oper := { dst := some 40, op := Op.load 3 (Operand.tmp 5), type := 3, pos := "tell.go:37", after := #[{ on := 3, ground := Ground.guard }], guard := some (3, true) }
def cov8f_o5 : Oper := { dst := some 41, op := Op.move (Operand.tmp 14), type := 3, pos := "tell.go:37", after := #[{ on := 3, ground := Ground.guard }], guard := some (3, true) }
def cov8f_o6 : Oper := { dst := some 42, op := Op.binOp BinOp.lss 3 (Operand.tmp 40) (Operand.tmp 41) 3, type := 4, pos := "tell.go:37", after := #[{ on := 4, ground := Ground.data }, { on := 5, ground := Ground.data }, { on := 3, ground := Ground.guard }], guard := some (3, true) }
def cov8f_o7 : Oper := { dst := some 43, op := Op.pick (Operand.tmp 39) (Operand.tmp 42) (Operand.const (Value.bool false)), type := 4, pos := "tell.go:37", after := #[{ on := 3, ground := Ground.data }, { on := 6, ground := Ground.data }], guard := none }
def cov8f_ops : Array Oper := #[cov8f_o0, cov8f_o1, cov8f_o2, cov8f_o3, cov8f_o4, cov8f_o5, cov8f_o6, cov8f_o7]
set_option maxRecDepth 100000 in
set_option maxHeartbeats 4000000 in
theorem cov8f {l n b5 : Nat} {f r : Int} (a : Act) (w : World) (Q : Exit → Act → World → Prop) (hsz : a.tmps.size = 53)
    (t5 : a.tmps.getD 5 undef = .pointer (some ⟨b5, 0, none⟩))
    (t13 : a.tmps.getD 13 undef = .int .i64 f)
    (hf : decide (f ≤ r) = false) (L5 : (Instr.loadAt 3 (.pointer (some ⟨b5, 0, none⟩))).run Tryd.prog w = .ok (.int .i64 r) w)
    (h : ∀ (a' : Act) (w' : World), w' = w → a' = ((((((((a).put (some 36) (.int .i64 f)).put (some 37) (.int .i64 r)).put (some 38) (.bool false)).put (some 39) (.bool false)).put (some 40) (undef)).put (some 41) (undef)).put (some 42) (undef)).put (some 43) (.bool false) → Q .normal a' w') :
    (Code.region 8 cov8f_ops false).wpIn (Fence.wide.inRound l) n Tryd.prog Q a w := by
  refine wpIn_region_list ?_
  change wpListIn _ _ _ _ _ [cov8f_o0, cov8f_o1, cov8f_o2, cov8f_o3, cov8f_o4, cov8f_o5, cov8f_o6, cov8f_o7] _ _
  refine qvI (v := .int .i64 f) (by rfl) (exec_move rfl t13) (fun a0 e0 => ?_)
  rw [← e0] at h
  have z0 := pz e0 hsz
  replace t5 := pk e0 t5
  clear t13
  have t36 := pq e0 hsz
  clear e0 hsz
  refine qvI (v := .int .i64 r) (by rfl) (exec_load rfl t5 L5) (fun a1 e1 => ?_)
  rw [← e1] at h
  have z1 := pz e1 z0
  replace t5 := pk e1 t5
  replace t36 := pk e1 t36
  have t37 := pq e1 z0
  clear e1 z0
  refine qvI (v := .bool false) (by rfl) (ex_leq rfl t36 t37 hf) (fun a2 e2 => ?_)
  rw [← e2] at h
  have z2 := pz e2 z1
  replace t5 := pk e2 t5
  clear t36 t37
  have t38 := pq e2 z1
  clear e2 z1
  refine qvI (v := .bool false) (by rfl) (exec_move rfl t38) (fun a3 e3 => ?_)
  rw [← e3] at h
  have z3 := pz e3 z2
  replace t5 := pk e3 t5
  clear t38
  have t39 := pq e3 z2
  clear e3 z2
  refine qnI (by simp [Region.wanted, yielded, cov8f_ops, cov8f_o4, cov8f_o3, tget z3 (by decide) t39]) (fun a4 e4 => ?_)
  rw [← e4] at h
  have z4 := pz e4 z3
  replace t39 := pk e4 t39
  clear t5
  have t40 := pq e4 z3
  clear e4 z3
  refine qnI (by simp [Region.wanted, yielded, cov8f_ops, cov8f_o5, cov8f_o3, tget z4 (by decide) t39]) (fun a5 e5 => ?_)
  rw [← e5] at h
  have z5 := pz e5 z4
  replace t39 := pk e5 t39
  replace t40 := pk e5 t40
  have t41 := pq e5 z4
  clear e5 z4
  refine qnI (by simp [Region.wanted, yielded, cov8f_ops, cov8f_o6, cov8f_o3, tget z5 (by decide) t39]) (fun a6 e6 => ?_)
  rw [← e6] at h
  have z6 := pz e6 z5
  replace t39 := pk e6 t39
  clear t40 t41
  have t42 := pq e6 z5
  clear e6 z5
  refine qvI (v := .bool false) (by rfl) (by unfold cov8f_o7; go_simp) (fun a7 e7 => ?_)
  rw [← e7] at h
  have z7 := pz e7 z6
  clear t39 t42
  clear e7 z6
  exact wpListIn_nil (h _ _ (rfl) rfl)
def cov8t_o0 : Oper := { dst := some 36, op := Op.move (Operand.tmp 13), type := 3, pos := "tell.go:37", after := #[], guard := none }
def cov8t_o1 : Oper := { dst := some 37, op := Op.load 3 (Operand.tmp 5), type := 3, pos := "tell.go:37", after := #[], guard := none }
def cov8t_o2 : Oper := { dst := some 38, op := Op.binOp BinOp.leq 3 (Operand.tmp 36) (Operand.tmp 37) 3, type := 4, pos := "tell.go:37", after := #[{ on := 0, ground := Ground.data }, { on := 1, ground := Ground.data }], guard := none }
def cov8t_o3 : Oper := { dst := some 39, op := Op.move (Operand.tmp 38), type := 4, pos := "tell.go:37", after := #[{ on := 2, ground := Ground.data }], guard := none }
def cov8t_o4 : Oper := { dst := some 40, op := Op.load 3 (Operand.tmp 5), type := 3, pos := "tell.go:37", after := #[{ on := 3, ground := Ground.guard }], guard := some (3, true) }
def cov8t_o5 : Oper := { dst := some 41, op := Op.move (Operand.tmp 14), type := 3, pos := "tell.go:37", after := #[{ on := 3, ground := Ground.guard }], guard := some (3, true) }
def cov8t_o6 : Oper := { dst := some 42, op := Op.binOp BinOp.lss 3 (Operand.tmp 40) (Operand.tmp 41) 3, type := 4, pos := "tell.go:37", after := #[{ on := 4, ground := Ground.data }, { on := 5, ground := Ground.data }, { on := 3, ground := Ground.guard }], guard := some (3, true) }
def cov8t_o7 : Oper := { dst := some 43, op := Op.pick (Operand.tmp 39) (Operand.tmp 42) (Operand.const (Value.bool false)), type := 4, pos := "tell.go:37", after := #[{ on := 3, ground := Ground.data }, { on := 6, ground := Ground.data }], guard := none }
def cov8t_ops : Array Oper := #[cov8t_o0, cov8t_o1, cov8t_o2, cov8t_o3, cov8t_o4, cov8t_o5, cov8t_o6, cov8t_o7]
set_option maxRecDepth 100000 in
set_option maxHeartbeats 4000000 in
theorem cov8t {l n b5 : Nat} {f u r : Int} {z : Bool} (a : Act) (w : World) (Q : Exit → Act → World → Prop) (hsz : a.tmps.size = 53)
    (t5 : a.tmps.getD 5 undef = .pointer (some ⟨b5, 0, none⟩))
    (t13 : a.tmps.getD 13 undef = .int .i64 f)
    (t14 : a.tmps.getD 14 undef = .int .i64 u)
    (hf : decide (f ≤ r) = true) (hu : decide (r < u) = z) (L5 : (Instr.loadAt 3 (.pointer (some ⟨b5, 0, none⟩))).run Tryd.prog w = .ok (.int .i64 r) w)
    (h : ∀ (a' : Act) (w' : World), w' = w → a' = ((((((((a).put (some 36) (.int .i64 f)).put (some 37) (.int .i64 r)).put (some 38) (.bool true)).put (some 39) (.bool true)).put (some 40) (.int .i64 r)).put (some 41) (.int .i64 u)).put (some 42) (.bool z)).put (some 43) (.bool z) → Q .normal a' w') :
    (Code.region 8 cov8t_ops false).wpIn (Fence.wide.inRound l) n Tryd.prog Q a w := by
  refine wpIn_region_list ?_
  change wpListIn _ _ _ _ _ [cov8t_o0, cov8t_o1, cov8t_o2, cov8t_o3, cov8t_o4, cov8t_o5, cov8t_o6, cov8t_o7] _ _
  refine qvI (v := .int .i64 f) (by rfl) (exec_move rfl t13) (fun a0 e0 => ?_)
  rw [← e0] at h
  have z0 := pz e0 hsz
  replace t5 := pk e0 t5
  replace t14 := pk e0 t14
  clear t13
  have t36 := pq e0 hsz
  clear e0 hsz
  refine qvI (v := .int .i64 r) (by rfl) (exec_load rfl t5 L5) (fun a1 e1 => ?_)
  rw [← e1] at h
  have z1 := pz e1 z0
  replace t5 := pk e1 t5
  replace t14 := pk e1 t14
  replace t36 := pk e1 t36
  have t37 := pq e1 z0
  clear e1 z0
  refine qvI (v := .bool true) (by rfl) (ex_leq rfl t36 t37 hf) (fun a2 e2 => ?_)
  rw [← e2] at h
  have z2 := pz e2 z1
  replace t5 := pk e2 t5
  replace t14 := pk e2 t14
  clear t36 t37
  have t38 := pq e2 z1
  clear e2 z1
  refine qvI (v := .bool true) (by rfl) (exec_move rfl t38) (fun a3 e3 => ?_)
  rw [← e3] at h
  have z3 := pz e3 z2
  replace t5 := pk e3 t5
  replace t14 := pk e3 t14
  clear t38
  have t39 := pq e3 z2
  clear e3 z2
  refine qvI (v := .int .i64 r) (by simp [Region.wanted, yielded, cov8t_ops, cov8t_o4, cov8t_o3, tget z3 (by decide) t39]) (exec_load rfl t5 L5) (fun a4 e4 => ?_)
  rw [← e4] at h
  have z4 := pz e4 z3
  replace t14 := pk e4 t14
  replace t39 := pk e4 t39
  clear t5
  have t40 := pq e4 z3
  clear e4 z3
  refine qvI (v := .int .i64 u) (by simp [Region.wanted, yielded, cov8t_ops, cov8t_o5, cov8t_o3, tget z4 (by decide) t39]) (exec_move rfl t14) (fun a5 e5 => ?_)
  rw [← e5] at h
  have z5 := pz e5 z4
  replace t39 := pk e5 t39
  replace t40 := pk e5 t40
  clear t14
  have t41 := pq e5 z4
  clear e5 z4
  refine qvI (v := .bool z) (by simp [Region.wanted, yielded, cov8t_ops, cov8t_o6, cov8t_o3, tget z5 (by decide) t39]) (ex_lss rfl t40 t41 hu) (fun a6 e6 => ?_)
  rw [← e6] at h
  have z6 := pz e6 z5
  replace t39 := pk e6 t39
  clear t40 t41
  have t42 := pq e6 z5
  clear e6 z5
  refine qvI (v := .bool z) (by rfl) (by unfold cov8t_o7; go_simp) (fun a7 e7 => ?_)
  rw [← e7] at h
  have z7 := pz e7 z6
  clear t39 t42
  clear e7 z6
  exact wpListIn_nil (h _ _ (rfl) rfl)
def cov9_o0 : Oper := { dst := some 44, op := Op.load 90 (Operand.tmp 8), type := 90, pos := "tell.go:38", after := #[], guard := none }
def cov9_o1 : Oper := { dst := some 45, op := Op.fieldAddr 59 (Operand.tmp 10) 1, type := 0, pos := "tell.go:38", after := #[], guard := none }
def cov9_o2 : Oper := { dst := some 46, op := Op.load 9 (Operand.tmp 45), type := 9, pos := "tell.go:38", after := #[{ on := 1, ground := Ground.data }], guard := none }
def cov9_o3 : Oper := { dst := some 47, op := Op.build 60 #[], type := 60, pos := "tell.go:38", after := #[], guard := none }
def cov9_o4 : Oper := { dst := none, op := Op.mapUpdate 90 (Operand.tmp 44) (Operand.tmp 46) (Operand.tmp 47), type := 0, pos := "tell.go:38", after := #[{ on := 0, ground := Ground.data }, { on := 2, ground := Ground.data }, { on := 3, ground := Ground.data }, { on := 0, ground := Ground.phase }, { on := 1, ground := Ground.phase }, { on := 2, ground := Ground.phase }, { on := 3, ground := Ground.phase }], guard := none }
def cov9_ops : Array Oper := #[cov9_o0, cov9_o1, cov9_o2, cov9_o3, cov9_o4]
set_option maxRecDepth 100000 in
set_option maxHeartbeats 4000000 in
theorem cov9 {l n eb b8 fm : Nat} {nm : ByteArray} {w1 : World} (a : Act) (w : World) (Q : Exit → Act → World → Prop) (hsz : a.tmps.size = 53)
    (t8 : a.tmps.getD 8 undef = .pointer (some ⟨b8, 0, none⟩))
    (t10 : a.tmps.getD 10 undef = .pointer (some ⟨eb, 0, none⟩))
    (L0 : (Instr.loadAt 90 (.pointer (some ⟨b8, 0, none⟩))).run Tryd.prog w = .ok (.map (some fm)) w) (L1 : (Instr.loadAt 9 (.pointer (some ⟨eb, 0 + 33, none⟩))).run Tryd.prog w = .ok (.string nm) w) (HU : (Instr.build 60 #[]).run Tryd.prog w = .ok (.agg #[]) w) (EM : (Instr.mapUpdate 90 (.map (some fm)) (.string nm) (.agg #[])).run Tryd.prog w = .ok () w1)
    (h : ∀ (a' : Act) (w' : World), w' = w1 → a' = ((((a).put (some 44) (.map (some fm))).put (some 45) (.pointer (some ⟨eb, 0 + 33, none⟩))).put (some 46) (.string nm)).put (some 47) (.agg #[]) → Q .normal a' w') :
    (Code.region 9 cov9_ops false).wpIn (Fence.wide.inRound l) n Tryd.prog Q a w := by
  refine wpIn_region_list ?_
  change wpListIn _ _ _ _ _ [cov9_o0, cov9_o1, cov9_o2, cov9_o3, cov9_o4] _ _
  refine qvI (v := .map (some fm)) (by rfl) (exec_load rfl t8 L0) (fun a0 e0 => ?_)
  rw [← e0] at h
  have z0 := pz e0 hsz
  replace t10 := pk e0 t10
  clear t8
  have t44 := pq e0 hsz
  clear e0 hsz
  refine qvI (v := .pointer (some ⟨eb, 0 + 33, none⟩)) (by rfl) (exec_fieldAt rfl t10 (fg_59_1 _ _ _)) (fun a1 e1 => ?_)
  rw [← e1] at h
  have z1 := pz e1 z0
  replace t44 := pk e1 t44
  clear t10
  have t45 := pq e1 z0
  clear e1 z0
  refine qvI (v := .string nm) (by rfl) (exec_load rfl t45 L1) (fun a2 e2 => ?_)
  rw [← e2] at h
  have z2 := pz e2 z1
  replace t44 := pk e2 t44
  clear t45
  have t46 := pq e2 z1
  clear e2 z1
  refine qvI (v := .agg #[]) (by rfl) (exec_build0 rfl HU) (fun a3 e3 => ?_)
  rw [← e3] at h
  have z3 := pz e3 z2
  replace t44 := pk e3 t44
  replace t46 := pk e3 t46
  have t47 := pq e3 z2
  clear e3 z2
  refine qsI (by rfl) (exec_mapUpdate rfl t44 t46 t47 EM) ?_
  exact wpListIn_nil (h _ _ (rfl) rfl)
def cov10_o0 : Oper := { dst := some 48, op := Op.load 54 (Operand.tmp 7), type := 54, pos := "tell.go:39", after := #[], guard := none }
def cov10_o1 : Oper := { dst := some 49, op := Op.load 59 (Operand.tmp 10), type := 59, pos := "tell.go:39", after := #[], guard := none }
def cov10_o2 : Oper := { dst := some 50, op := Op.buildSlice 54 1 #[(0, Operand.tmp 49)], type := 54, pos := "tell.go:39", after := #[{ on := 1, ground := Ground.data }], guard := none }
def cov10_o3 : Oper := { dst := some 51, op := Op.call { callee := Callee.builtin Builtin.append, args := #[Operand.tmp 48, Operand.tmp 50], argTypes := #[54, 54] }, type := 54, pos := "tell.go:39", after := #[{ on := 0, ground := Ground.data }, { on := 2, ground := Ground.data }], guard := none }
def cov10_o4 : Oper := { dst := none, op := Op.store 54 (Operand.tmp 7) (Operand.tmp 51), type := 0, pos := "tell.go:39", after := #[{ on := 3, ground := Ground.data }, { on := 3, ground := Ground.chain }, { on := 0, ground := Ground.phase }, { on := 1, ground := Ground.phase }, { on := 2, ground := Ground.phase }, { on := 3, ground := Ground.phase }], guard := none }
def cov10_ops : Array Oper := #[cov10_o0, cov10_o1, cov10_o2, cov10_o3, cov10_o4]
set_option maxRecDepth 100000 in
set_option maxHeartbeats 4000000 in
theorem cov10 {l n eb b7 : Nat} {x : MkV} {u sv u2 : Value} {w1 w2 w3 : World} (a : Act) (w : World) (Q : Exit → Act → World → Prop) (hsz : a.tmps.size = 53)
    (t7 : a.tmps.getD 7 undef = .pointer (some ⟨b7, 0, none⟩))
    (t10 : a.tmps.getD 10 undef = .pointer (some ⟨eb, 0, none⟩))
    (L0 : (Instr.loadAt 54 (.pointer (some ⟨b7, 0, none⟩))).run Tryd.prog w = .ok u w) (L1 : (Instr.loadAt 59 (.pointer (some ⟨eb, 0, none⟩))).run Tryd.prog w = .ok x.a w) (EB : (Instr.buildSlice 54 1 #[(0, x.a)]).run Tryd.prog w = .ok sv w1) (EA : (Builtin.append_ #[54, 54] 54 #[u, sv]).run Tryd.prog w1 = .ok u2 w2) (ES : (Instr.storeAt 54 (.pointer (some ⟨b7, 0, none⟩)) u2).run Tryd.prog w2 = .ok () w3)
    (h : ∀ (a' : Act) (w' : World), w' = w3 → a' = ((((a).put (some 48) (u)).put (some 49) (x.a)).put (some 50) (sv)).put (some 51) (u2) → Q .normal a' w') :
    (Code.region 10 cov10_ops false).wpIn (Fence.wide.inRound l) n Tryd.prog Q a w := by
  refine wpIn_region_list ?_
  change wpListIn _ _ _ _ _ [cov10_o0, cov10_o1, cov10_o2, cov10_o3, cov10_o4] _ _
  refine qvI (v := u) (by rfl) (exec_load rfl t7 L0) (fun a0 e0 => ?_)
  rw [← e0] at h
  have z0 := pz e0 hsz
  replace t7 := pk e0 t7
  replace t10 := pk e0 t10
  have t48 := pq e0 hsz
  clear e0 hsz
  refine qvI (v := x.a) (by rfl) (exec_load rfl t10 L1) (fun a1 e1 => ?_)
  rw [← e1] at h
  have z1 := pz e1 z0
  replace t7 := pk e1 t7
  replace t48 := pk e1 t48
  clear t10
  have t49 := pq e1 z0
  clear e1 z0
  refine qkI (v := sv) (by rfl) (exec_buildSlice rfl t49 EB) (fun a2 e2 => ?_)
  rw [← e2] at h
  have z2 := pz e2 z1
  replace t7 := pk e2 t7
  replace t48 := pk e2 t48
  clear t49
  have t50 := pq e2 z1
  clear e2 z1
  refine qkI (v := u2) (by rfl) (exec_append rfl t48 t50 EA) (fun a3 e3 => ?_)
  rw [← e3] at h
  have z3 := pz e3 z2
  replace t7 := pk e3 t7
  clear t48 t50
  have t51 := pq e3 z2
  clear e3 z2
  refine qsI (by rfl) (exec_store rfl t7 t51 ES) ?_
  exact wpListIn_nil (h _ _ (rfl) rfl)
def cov11_o0 : Oper := { dst := some 52, op := Op.load 54 (Operand.tmp 7), type := 54, pos := "tell.go:42", after := #[], guard := none }
def cov11_o1 : Oper := { dst := some 6, op := Op.assign (Operand.tmp 52), type := 54, pos := "tell.go:42", after := #[{ on := 0, ground := Ground.data }, { on := 0, ground := Ground.phase }], guard := none }
def cov11_ops : Array Oper := #[cov11_o0, cov11_o1]
set_option maxRecDepth 100000 in
set_option maxHeartbeats 4000000 in
theorem cov11 {b7 : Nat} {u : Value} (a : Act) (w : World) (Q : Exit → Act → World → Prop) (zz : a.tmps.size = 53)
    (t7 : a.tmps.getD 7 undef = .pointer (some ⟨b7, 0, none⟩))
    (L0 : (Instr.loadAt 54 (.pointer (some ⟨b7, 0, none⟩))).run Tryd.prog w = .ok u w)
    (h : ∀ (a' : Act) (w' : World), w' = w → a' = ((a).put (some 52) (u)).put (some 6) (u) → Q .normal a' w') :
    (Code.region 11 cov11_ops false).wp Tryd.prog Q a w := by
  refine z0 rfl ?_
  refine zv rfl (exec_load rfl (zi t7 rfl) L0) ?_
  refine zv rfl (exec_assign rfl (zg zz rfl)) ?_
  exact ze rfl (h _ _ (rfl) rfl)
end Go.Proofs.YtifendlpeebofaaDoor

namespace Go.Proofs.YtifendlpeebofaaDoor
open Go.RowKit Go.Shelf Sq
set_option linter.unusedVariables false
set_option linter.unusedSimpArgs false

/-- Some blocks stay. -/
def Kl (l : List Nat) (W W' : World) : Prop := ∀ j ∈ l, W'.heap[j]? = W.heap[j]?
theorem Kl.trans {l : List Nat} {A B C : World} (h : Kl l A B) (k : Kl l B C) : Kl l A C := fun j hj => (k j hj).trans (h j hj)
theorem Kl.put {l : List Nat} {w : World} (hl : ∀ j ∈ l, j < w.heap.size) (W : World) (b : Nat) (o o' : Obj) (hb : w.heap.size ≤ b) (h : W.heap[b]? = some o) (h1 : o.isCells = false) (h2 : o.isWalk = false) : Kl l W (W.putObj b o') := fun j hj => by
  have := hl j hj
  exact World.putObj_heap_other (by omega)
/-- A list's elements with their numbers, the last one first. -/
def bkZ {κ : Type} (L : List κ) : List (κ × Nat) := L.zipIdx.reverse
theorem bkZ_len {κ : Type} (L : List κ) : (bkZ L).length = L.length := by simp [bkZ]
theorem bkZ_get {κ : Type} {L : List κ} {j : Nat} {x : κ} (hx : L[j]? = some x) : (bkZ L)[L.length - 1 - j]? = some (x, j) := by
  have hj := (List.getElem?_eq_some_iff.1 hx).1
  unfold bkZ
  rw [List.getElem?_reverse (by simp; omega), List.length_zipIdx, List.getElem?_zipIdx, show L.length - 1 - (L.length - 1 - j) = j by omega, hx]
  simp
theorem bkZ_step {κ : Type} {L : List κ} {j : Nat} {x : κ} (hx : L[j]? = some x) : (bkZ L).take (L.length - j) = (bkZ L).take (L.length - (j + 1)) ++ [(x, j)] := by
  have hj := (List.getElem?_eq_some_iff.1 hx).1
  have := bkZ_get hx
  rw [show L.length - j = (L.length - 1 - j) + 1 by omega, show L.length - (j + 1) = L.length - 1 - j by omega, List.take_add_one, this]
  rfl
/-- A mark that is right. -/
abbrev OkM := {x : MkV // x.ok ∧ (0 ≤ x.sd ∧ x.sd ≤ 3)}
theorem lift_ok {κ : Type} {P : κ → Prop} : ∀ (L : List κ), (∀ x ∈ L, P x) → ∃ LK : List {x // P x}, LK.map (·.1) = L
  | [], _ => ⟨[], rfl⟩
  | x :: L, h => by
    obtain ⟨LK, e⟩ := lift_ok L (fun y hy => h y (by simp [hy]))
    exact ⟨⟨x, h x (by simp)⟩ :: LK, by simp [e]⟩
def adB (a : Option Addr) : List Nat := match a with | some ad => [ad.block] | none => []
set_option maxRecDepth 100000 in
theorem backward_any (w : World) (la : Option Addr) (n c : Nat) : Calls Tryd.prog 35 #[.slice la n c] w fun e w' => e = .returned (.func (.func 53) #[] #[.pointer (some ⟨w.heap.size, 0, none⟩)]) ∧ w'.heap.size = w.heap.size + 1 ∧ w'.heap[w.heap.size]? = some (.cells #[.slice la n c] 54 (0, 0)) ∧ Below w.heap.size w w' := by
  go_enter Tryd.func35, Tryd.ntmps35
  go_wp2
  go_ret
  exact ⟨rfl, by simp, heap_alloc_new _ _, (Below.refl _ _).alloc (Nat.le_refl _) _⟩
set_option maxRecDepth 100000 in
set_option maxHeartbeats 4000000 in
theorem bwd_stops (n0 bs : Nat) (L : List OkM) (hn : L.length ≤ 900000000000) {la : Option Addr} {c : Nat} (w : World) (hc : w.cell? ⟨bs, 0, none⟩ = some (.slice la L.length c)) (hat : RM.At w la (L.map (·.1))) :
    SeqStopsK Fence.wide n0 Tryd.prog 53 #[.pointer (some ⟨bs, 0, none⟩)] (fun x : OkM × Nat => #[.int .i64 (x.2 : Int), x.1.1.a]) (Kl (bs :: adB la)) (fun xs => xs = bkZ L) (fun _ => True) L.length w := by
  intro l J Jx W hW hJ hJx hY h0
  have l1 := block_lt_of_cell hc
  have hla : ∀ j ∈ adB la, L ≠ [] → j < w.heap.size := fun j hj hne => by
    rcases hat with e | ⟨b, off, e, hb, _⟩
    · exact absurd (List.map_eq_nil_iff.1 e) hne
    · rw [e] at hj
      simp [adB] at hj
      omega
  have HC : Hid (∀ W', Kl (bs :: adB la) W W' → W'.cell? ⟨bs, 0, none⟩ = some (.slice la L.length c)) := fun W' hk => (World.cell?_of_block (a := ⟨bs, 0, none⟩) (hk bs (by simp))).trans ((hW.cell (p := ⟨bs, 0, none⟩) l1).trans hc)
  have HX : Hid (∀ (W' : World) (j : Nat) (x : OkM), Kl (bs :: adB la) W W' → L[j]? = some x → ∃ g o, la = some ⟨g, o, none⟩ ∧ (Instr.loadAt 59 (.pointer (some ⟨g, o + 105 * j, none⟩))).run Tryd.prog W' = .ok x.1.a W') := fun W' j x hk hx => by
    rcases hat with e | ⟨b, off, e, hb, hr⟩
    · rw [List.map_eq_nil_iff.1 e] at hx; cases hx
    · refine ⟨b, off, e, RowT.ld RM_is x.2.1 (rangeAt_keep (rangeAt_keep (hr j x.1 (by rw [List.getElem?_map, hx]; rfl)) (hW.block _ hb)) (hk b (by rw [e]; simp [adB])))⟩
  have HY := hidMk hY
  have H0 := hidMk h0
  obtain ⟨n, hnn⟩ : ∃ n, L.length = n := ⟨_, rfl⟩
  have HN := hidMk hnn
  rw [hnn] at hn HC
  clear hY h0 hc hat hnn hla
  refine callsIn_of_wp Tryd.func53 rfl trivial ?_ rfl
  simp only [Tryd.ntmps53, List.size_toArray, List.length_cons, List.length_nil, Nat.reduceAdd, Nat.reduceSub, Array.replicate_succ, Array.replicate_zero, List.push_toArray, List.append_toArray, List.nil_append, List.cons_append]
  refine wpIn_wide.2 ?_
  have hlb0 : (Instr.loadAt 54 (.pointer (some ⟨bs, 0, none⟩))).run Tryd.prog W = .ok (.slice la n c) W := by
    have hc := HC.out W (fun _ _ => rfl)
    go_simp
  go_upto_region 0 with fail
  refine bwd0 (bs := bs) (n := n) (c := c) (la := la) _ W _ rfl rfl (by omega) (fun W' e => by rw [e]; exact hlb0) ?_
  intro a' w1 hw ha
  obtain rfl : W = w1 := hw.symm
  subst ha
  simp only [Act.put, List.setIfInBounds_toArray, List.set_cons_zero, List.set_cons_succ]
  clear hlb0
  go_wp2
  go_loopw [3] (fun v3 wr => ∃ k : Nat, v3 = .int .i64 ((k : Int) - 1) ∧ k ≤ n ∧ Hid (J ((bkZ L).take (L.length - k)) wr ∧ Kl (bs :: adB la) W wr)) (fun v3 _ => (match v3 with | .int _ i => (i + 1).toNat | _ => 0))
  case atStart => exact ⟨n, rfl, Nat.le_refl _, by rw [HN.out, Nat.sub_self]; exact H0.out, fun _ _ => rfl⟩
  case round =>
    obtain ⟨k, rfl, hk, HI⟩ := hrel
    cases k with
    | zero =>
      go_upto_region 1 with fail
      refine bwd1 (z := ((0 : Nat) : Int) - 1) (r := false) _ wr _ rfl rfl (by decide) ?_
      intro a' w1 hw ha
      obtain rfl : wr = w1 := hw.symm
      subst ha
      simp only [Act.put, List.setIfInBounds_toArray, List.set_cons_zero, List.set_cons_succ]
      go_wp2
      go_end0
      refine ⟨⟨_, rfl⟩, .inl ?_⟩
      have := HI.out.1
      rw [Nat.sub_zero, ← bkZ_len, List.take_length] at this
      exact this
    | succ j =>
      obtain ⟨x, hx⟩ : ∃ x, L[j]? = some x := ⟨_, List.getElem?_eq_getElem (by rw [HN.out]; omega)⟩
      have hz : ((j + 1 : Nat) : Int) - 1 = (j : Int) := by omega
      rw [hz]
      go_upto_region 1 with fail
      refine bwd1 (z := (j : Int)) (r := true) _ wr _ rfl rfl (decide_eq_true (by omega)) ?_
      intro a' w1 hw ha
      obtain rfl : wr = w1 := hw.symm
      subst ha
      simp only [Act.put, List.setIfInBounds_toArray, List.set_cons_zero, List.set_cons_succ]
      obtain ⟨g, o, rfl, hld⟩ := HX.out wr j x HI.out.2 hx
      have hlb : (Instr.loadAt 54 (.pointer (some ⟨bs, 0, none⟩))).run Tryd.prog wr = .ok (.slice (some ⟨g, o, none⟩) n c) wr := by
        have hc := HC.out wr HI.out.2
        go_simp
      have h63 : n ≤ 9223372036854775807 := by omega
      have hst := bkZ_step hx
      have CY := HY.out ((bkZ L).take (L.length - (j + 1))) (x, j) wr HI.out.1 (by rw [List.length_take, bkZ_len, HN.out]; omega)
      rw [← hst] at CY
      have HK := hidMk HI.out.2
      clear HI hst hz
      go_upto_region 3 with fail
      refine (wpIn_wide (n := n0)).1 ?_
      refine bwd3 (bs := bs) (g := g) (o := o) (n := n) (c := c) (i := j) (l := l) (x := x.1) (fun b W' => (b = true ∧ J ((bkZ L).take (L.length - j)) W' ∧ Kl (bs :: adB (some ⟨g, o, none⟩)) wr W') ∨ (b = false ∧ Jx ((bkZ L).take (L.length - j)) W')) _ wr _ rfl rfl rfl rfl hk h63 hlb hld (CY.mono ?_) ?_
      · rintro e W' (⟨rfl, q1, q2⟩ | ⟨rfl, q1⟩)
        · exact ⟨true, rfl, .inl ⟨rfl, q1, q2⟩⟩
        · exact ⟨false, rfl, .inr ⟨rfl, q1⟩⟩
      intro b a' w2 hP ha
      subst ha
      simp only [Act.put, List.setIfInBounds_toArray, List.set_cons_zero, List.set_cons_succ]
      clear hlb hld CY
      rcases hP with ⟨rfl, q1, q2⟩ | ⟨rfl, q1⟩
      · have Q1 := hidMk q1
        have Q2 := hidMk (HK.out.trans q2)
        clear q1 q2 HK
        go_upto_region 2 with fail
        refine bwd2 (z := (j : Int)) _ w2 _ rfl rfl (by omega) ?_
        intro a' w3 hw ha
        obtain rfl : w2 = w3 := hw.symm
        subst ha
        simp only [Act.put, List.setIfInBounds_toArray, List.set_cons_zero, List.set_cons_succ]
        go_wp2
        refine ⟨⟨j, rfl, by omega, Q1.out, Q2.out⟩, ?_⟩
        show ((j : Int) - 1 + 1).toNat < ((j : Int) + 1).toNat
        omega
      · have Q1 := hidMk q1
        clear q1 HK
        go_wp2
        refine bodyPost_ret (results_none rfl _ _ _) rfl ?_
        exact ⟨⟨_, rfl⟩, .inr ⟨_, Q1.out⟩⟩
end Go.Proofs.YtifendlpeebofaaDoor

namespace Go.Proofs.YtifendlpeebofaaDoor
open Go.RowKit Go.Shelf Sq
set_option linter.unusedVariables false
set_option linter.unusedSimpArgs false

theorem ba_inj {a b : ByteArray} (h : a.toList = b.toList) : a = b := by
  rw [ByteArray.toList_eq, ByteArray.toList_eq] at h
  cases a; cases b
  congr 1
  exact Array.toList_inj.1 h
def tx (s : ByteArray) : Value := .string s
theorem txKey : M.KeyOk Tryd.prog 9 tx (fun s => s.size ≤ maxLen) := {
  chk := fun b k w hk => MapKept.run_checkKey (d := .string) (k := .string k) Tryd.underlying9 trivial b 9999
  eq := fun a b w ha hb => by
    have : (Op.equal 9 (.string a) (.string b)).run Tryd.prog w = .ok (a.toList == b.toList) w := by
      unfold Op.equal Op.maxDepth
      exact run_equalIn_string w 9999 9 _ _ Tryd.underlying9
    have e : decide (a = b) = (a.toList == b.toList) := by
      rw [Bool.eq_iff_iff]
      simp only [decide_eq_true_eq, beq_iff_eq]
      constructor
      · rintro rfl; rfl
      · exact ba_inj
    rw [e]
    exact this
  und := ⟨_, Tryd.underlying9, .inr fun a b => by
    have e : (a == b) = decide (a = b) := by rw [Bool.eq_iff_iff, MapKept.bytes_beq, decide_eq_true_eq]
    rw [← e]
    rfl⟩
  bits := fun k => by
    simp only [tx, Instr.sameBits]
    exact (MapKept.bytes_beq k k).2 rfl }
def txOk (s : ByteArray) : Prop := s.size ≤ maxLen
/-- Of each name the last mark that covers a rank. -/
def covStep (E : List Elt) (r : Int) (acc : List MkV) (x : MkV) : List MkV := if (acc.any fun y => decide (y.nm = x.nm)) = true then acc else if (reachP E x).1 ≤ r ∧ r < (reachP E x).2 then acc ++ [x] else acc
def covP (E : List Elt) (r : Int) (pre : List (OkM × Nat)) : List MkV := (pre.map (·.1.1)).foldl (covStep E r) []
def covL (E : List Elt) (L : List MkV) (r : Int) : List MkV := L.reverse.foldl (covStep E r) []
theorem covP_all (E : List Elt) (L : List OkM) (r : Int) : covP E r (bkZ L) = covL E (L.map (·.1)) r := by
  unfold covP covL bkZ
  have : L.zipIdx.map (fun p => p.1.1) = L.map (·.1) := by
    rw [← List.zipIdx_map_fst 0 L, List.map_map]
    simp [Function.comp]
  rw [List.map_reverse, this]
theorem covP_snoc (E : List Elt) (r : Int) (pre : List (OkM × Nat)) (x : OkM × Nat) : covP E r (pre ++ [x]) = covStep E r (covP E r pre) x.1.1 := by
  unfold covP
  rw [List.map_append, List.foldl_append]
  rfl
theorem covStep_mem {E : List Elt} {r : Int} {acc : List MkV} {x y : MkV} (h : y ∈ covStep E r acc x) : y ∈ acc ∨ y = x := by
  unfold covStep at h
  split at h
  · exact .inl h
  · split at h
    · rcases List.mem_append.1 h with h | h
      · exact .inl h
      · exact .inr (List.mem_singleton.1 h)
    · exact .inl h
theorem covP_mem {E : List Elt} {r : Int} : ∀ {l : List MkV} {acc : List MkV} {y : MkV}, y ∈ l.foldl (covStep E r) acc → y ∈ acc ∨ y ∈ l
  | [], acc, y, h => .inl h
  | x :: l, acc, y, h => by
    rcases covP_mem (l := l) h with h | h
    · rcases covStep_mem h with h | rfl
      · exact .inl h
      · exact .inr (by simp)
    · exact .inr (by simp [h])
theorem covStep_len {E : List Elt} {r : Int} {acc : List MkV} {x : MkV} : (covStep E r acc x).length ≤ acc.length + 1 := by
  unfold covStep
  split
  · omega
  · split <;> simp
theorem covP_len {E : List Elt} {r : Int} : ∀ (l : List MkV) (acc : List MkV), (l.foldl (covStep E r) acc).length ≤ acc.length + l.length
  | [], acc => by simp
  | x :: l, acc => by
    have := covP_len (E := E) (r := r) l (covStep E r acc x)
    have := covStep_len (E := E) (r := r) (acc := acc) (x := x)
    simp only [List.foldl_cons, List.length_cons]
    omega
def nmE (L : List MkV) : List (ByteArray × Value) := L.map fun x => (x.nm, unV)
def hasN (L : List MkV) (s : ByteArray) : Bool := L.any fun y => decide (y.nm = s)
theorem nmE_look (L : List MkV) (k : ByteArray) : M.look (nmE L) k = if hasN L k = true then some unV else none := by
  induction L with
  | nil => simp [nmE, M.look_nil, hasN]
  | cons x L ih =>
    show M.look ((x.nm, unV) :: nmE L) k = _
    rw [M.look_cons, ih]
    by_cases e : k = x.nm
    · rw [if_pos e, if_pos (by simp [hasN, e])]
    · rw [if_neg e]
      have : hasN (x :: L) k = hasN L k := by simp [hasN, show ¬ x.nm = k from fun q => e q.symm]
      rw [this]
theorem addN_nil {L : List MkV} {k : ByteArray} (h : hasN L k = false) : M.put (nmE L) k unV = nmE L ++ [(k, unV)] := by
  have hn : M.look (nmE L) k = none := by rw [nmE_look, h]; rfl
  unfold M.look at hn
  unfold M.put
  cases e : M.fnd (nmE L) k 0 with
  | none => rfl
  | some q => rw [e] at hn; cases hn
/-- What covering has, between two rounds. -/
structure LC (w wl : World) (b4 b5 b7 b8 fm : Nat) (sp : Value) (r : Int) (acc : List MkV) (W : World) : Prop where
  v : ∃ v, W.heap[b7]? = some (.cells #[v] 54 (0, 0)) ∧ RM.Lo W w.heap.size v acc
  m : W.heap[b8]? = some (.cells #[.map (some fm)] 90 (0, 0))
  f : M.MapAt W fm tx txOk (nmE acc)
  s : W.heap[b4]? = some (.cells #[sp] 25 (0, 0))
  r : W.heap[b5]? = some (.cells #[.int .i64 r] 3 (0, 0))
  bel : Below w.heap.size w W
  sz : wl.heap.size ≤ W.heap.size
section
variable {w wl W W' : World} {b4 b5 b7 b8 fm : Nat} {sp : Value} {r : Int} {acc : List MkV}
theorem LC.keep (h : LC w wl b4 b5 b7 b8 fm sp r acc W) (b : Below w.heap.size W W') (hk : ∀ (j : Nat) (c : Array Value) (t : TypeId) (z : Nat × Nat), W.heap[j]? = some (.cells c t z) → W'.heap[j]? = W.heap[j]?) (hf : W'.heap[fm]? = W.heap[fm]?) : LC w wl b4 b5 b7 b8 fm sp r acc W' := by
  obtain ⟨v, v1, v2⟩ := h.v
  exact ⟨⟨v, (hk _ _ _ _ v1).trans v1, v2.keep (fun k hk2 => by obtain ⟨_, c, hc⟩ := v2.cells hk2; exact hk _ _ _ _ hc)⟩, (hk _ _ _ _ h.m).trans h.m, h.f.below hf, (hk _ _ _ _ h.s).trans h.s, (hk _ _ _ _ h.r).trans h.r, h.bel.trans b, Nat.le_trans h.sz b.size⟩
theorem LC.below (h : LC w wl b4 b5 b7 b8 fm sp r acc W) (b : Below W.heap.size W W') : LC w wl b4 b5 b7 b8 fm sp r acc W' :=
  h.keep (b.mono h.bel.size) (fun j c t z hj => b.block j (Array.getElem?_eq_some_iff.1 hj).1) (b.block _ h.f.lt)
theorem LC.own {α : Type} (w wl : World) (b4 b5 b7 b8 fm : Nat) (sp : Value) (r : Int) (f : List α → List MkV) (hw : w.heap.size ≤ wl.heap.size) (hfm : fm < wl.heap.size) : OwnFrom wl.heap.size (fun pre W => LC w wl b4 b5 b7 b8 fm sp r (f pre) W) := by
  intro pre W W' row hs hg hr
  have h := hs
  refine h.keep ⟨hg.os, hg.tape, hg.output, hg.size, fun k hk => hg.block k (Nat.lt_of_lt_of_le hk h.bel.size) (fun e => by have := (hr k e.symm).1; omega)⟩ (fun j c t z hj => hg.block j (Array.getElem?_eq_some_iff.1 hj).1 (fun e => ?_)) (hg.block _ h.f.lt (fun e => by have := (hr fm e.symm).1; omega))
  obtain ⟨_, o, ho, hc⟩ := hr j e.symm
  rw [hj] at ho; cases ho; cases hc
theorem LC.lookn (h : LC w wl b4 b5 b7 b8 fm sp r acc W) {k : ByteArray} (hk : k.size ≤ maxLen) : (Instr.lookup 90 (.map (some fm)) (.string k) true).run Tryd.prog W = .ok (.tuple #[.agg #[], .bool (hasN acc k)]) W := by
  have := M.run_look txKey Tryd.underlying90 h.f k hk (zeroUn W) true
  rw [show (Value.string k) = tx k from rfl, this, M.has_look, nmE_look]
  cases hasN acc k <;> rfl
theorem mv_load {b : Nat} {v : Value} (h : W.heap[b]? = some (.cells #[v] 54 (0, 0))) (hv : ∃ a n c, v = .slice a n c) : (Instr.loadAt 54 (.pointer (some ⟨b, 0, none⟩))).run Tryd.prog W = .ok v W := by
  obtain ⟨a, n, c, rfl⟩ := hv
  have hc : W.cell? ⟨b, 0, none⟩ = some (.slice a n c) := (cell_of_row W b 0 _ _ _ h).trans rfl
  go_simp
theorem mv_store {b : Nat} {v : Value} (h : W.heap[b]? = some (.cells #[v] 54 (0, 0))) (hv : ∃ a n c, v = .slice a n c) (a : Option Addr) (n c : Nat) : (Instr.storeAt 54 (.pointer (some ⟨b, 0, none⟩)) (.slice a n c)).run Tryd.prog W = .ok () (W.setCell ⟨b, 0, none⟩ (.slice a n c)) ∧ (W.setCell ⟨b, 0, none⟩ (.slice a n c)).heap[b]? = some (.cells #[.slice a n c] 54 (0, 0)) := by
  obtain ⟨a0, n0, c0, rfl⟩ := hv
  have hc : W.cell? ⟨b, 0, none⟩ = some (.slice a0 n0 c0) := (cell_of_row W b 0 _ _ _ h).trans rfl
  have hf := frozen_of_row W b 0 _ _ h
  exact ⟨by go_simp, Go.heap_setCell_same _ _ 0 _ _ _ h⟩
/-- A round: a mark more. -/
theorem LC.more (h : LC w wl b4 b5 b7 b8 fm sp r acc W) {x : MkV} (hx : x.ok) (okA : ∀ y ∈ acc, y.ok) (hn : acc.length + 1 ≤ 900000000000) (hnew : hasN acc x.nm = false) (hw : w.heap.size ≤ wl.heap.size) (hfm : w.heap.size ≤ fm ∧ fm < wl.heap.size) (h7 : w.heap.size ≤ b7) :
    ∃ wa v sv wb v2 wc wd, (Instr.mapUpdate 90 (.map (some fm)) (.string x.nm) (.agg #[])).run Tryd.prog W = .ok () wa ∧ (∀ (j : Nat) (c : Array Value) (t : TypeId) (z : Nat × Nat), W.heap[j]? = some (.cells c t z) → wa.heap[j]? = W.heap[j]?) ∧ (Instr.loadAt 54 (.pointer (some ⟨b7, 0, none⟩))).run Tryd.prog wa = .ok v wa ∧
      (Instr.buildSlice 54 1 #[(0, x.a)]).run Tryd.prog wa = .ok sv wb ∧ (Builtin.append_ #[54, 54] 54 #[v, sv]).run Tryd.prog wb = .ok v2 wc ∧ (Instr.storeAt 54 (.pointer (some ⟨b7, 0, none⟩)) v2).run Tryd.prog wc = .ok () wd ∧
      LC w wl b4 b5 b7 b8 fm sp r (acc ++ [x]) wd ∧ KeepsFrom wl.heap.size W wd ∧ Below w.heap.size W wd ∧ (∀ (j : Nat) (c : Array Value) (t : TypeId) (z : Nat × Nat), W.heap[j]? = some (.cells c t z) → t ≠ 59 → j ≠ b7 → wd.heap[j]? = W.heap[j]?) := by
  obtain ⟨v, v1, v2⟩ := h.v
  obtain ⟨ob, ep, mp⟩ := M.run_put (P := Tryd.prog) (w := W) txKey Tryd.underlying90 h.f x.nm hx.nm (.agg #[])
  have ca : ∀ (j : Nat) (c : Array Value) (t : TypeId) (z : Nat × Nat), W.heap[j]? = some (.cells c t z) → (M.setM W fm ob).heap[j]? = W.heap[j]? := fun j c t z hj => M.setM_other ob (fun e => by
    obtain ⟨⟨es, cc, hm, _⟩, _⟩ := h.f
    rw [e, hm] at hj
    cases hj)
  have za : (M.setM W fm ob).heap.size = W.heap.size := M.setM_size _ _ _
  have la : RM.Lo (M.setM W fm ob) w.heap.size v acc := v2.keep (fun k hk => by obtain ⟨_, c, hc⟩ := v2.cells hk; exact ca _ _ _ _ hc)
  obtain ⟨wa, hwa⟩ : ∃ wa, M.setM W fm ob = wa := ⟨_, rfl⟩
  rw [hwa] at ca za la mp ep
  have b0 := h.bel.size
  obtain ⟨sv, wb, u, wc, e1, e2, lo, bl1, z1, g, q, _⟩ := RowT.lo_push RM_is wa w.heap.size v acc okA x la hx (by unfold maxLen; omega) (by show _ * 184 ≤ _; omega) (by omega)
  have va : wa.heap[b7]? = some (.cells #[v] 54 (0, 0)) := (ca _ _ _ _ v1).trans v1
  have okx : ∀ y ∈ acc ++ [x], y.ok := fun y hy => by
    rcases List.mem_append.1 hy with hy | hy
    · exact okA y hy
    · rw [List.mem_singleton.1 hy]; exact hx
  obtain ⟨sa, sc, ev, _⟩ := la.open RM_is okA
  obtain ⟨ua, uc, eu, _⟩ := lo.open RM_is okx
  have kb : ∀ (j : Nat) (c : Array Value) (t : TypeId) (z : Nat × Nat), wb.heap[j]? = some (.cells c t z) → t ≠ 59 → wc.heap[j]? = some (.cells c t z) := fun j c t z hj ht => (g.block j (Array.getElem?_eq_some_iff.1 hj).1 (fun e => by
    obtain ⟨_, c2, hc2⟩ := (la.below bl1).cells e.symm
    exact ht (two_typesM hj hc2))).trans hj
  have vb : wb.heap[b7]? = some (.cells #[v] 54 (0, 0)) := (bl1.block _ (Array.getElem?_eq_some_iff.1 va).1).trans va
  have vc := kb _ _ _ _ vb (by decide)
  obtain ⟨es, vd⟩ := mv_store vc ⟨sa, _, sc, ev⟩ ua (acc ++ [x]).length uc
  obtain ⟨wd, hwd⟩ : ∃ wd, wc.setCell ⟨b7, 0, none⟩ (.slice ua (acc ++ [x]).length uc) = wd := ⟨_, rfl⟩
  have od : ∀ j, j ≠ b7 → wd.heap[j]? = wc.heap[j]? := fun j hj => by rw [← hwd]; exact Below.heap_setCell _ _ _ _ hj
  rw [hwd] at es vd
  have zd : wd.heap.size = wc.heap.size := by rw [← hwd]; simp [World.setCell]
  have kd : ∀ (j : Nat) (c : Array Value) (t : TypeId) (z : Nat × Nat), W.heap[j]? = some (.cells c t z) → t ≠ 59 → j ≠ b7 → wd.heap[j]? = W.heap[j]? := fun j c t z hj ht h7 => by
    have a1 := (ca j c t z hj).trans hj
    have a2 := (bl1.block j (Array.getElem?_eq_some_iff.1 a1).1).trans a1
    exact ((od j h7).trans (kb j c t z a2 ht)).trans hj.symm
  have fd : wd.heap[fm]? = wa.heap[fm]? := by
    have hlt := mp.lt
    obtain ⟨⟨es2, cc, hm, _⟩, _⟩ := mp
    have a2 := (bl1.block fm (Array.getElem?_eq_some_iff.1 hm).1).trans hm
    have a3 : wc.heap[fm]? = wb.heap[fm]? := g.block fm (Array.getElem?_eq_some_iff.1 a2).1 (fun e => by
      obtain ⟨_, c2, hc2⟩ := (la.below bl1).cells e.symm
      rw [a2] at hc2
      cases hc2)
    have n7 : fm ≠ b7 := fun e => by
      rw [e] at hm
      rw [va] at hm
      cases hm
    exact ((od fm n7).trans a3).trans (a2.trans hm.symm)
  have n2 : u.ownBlock ≠ some b7 := fun e => by
    obtain ⟨_, c, hc⟩ := lo.cells e
    have := two_typesM hc vc
    revert this; decide
  have bd : Below w.heap.size W wd := by
    refine ⟨?_, ?_, ?_, by have := bl1.size; have := g.size; omega, fun k hk => ?_⟩
    · rw [← hwd]; exact g.os.trans (bl1.os.trans (by rw [← hwa]; rfl))
    · rw [← hwd]; exact g.tape.trans (bl1.tape.trans (by rw [← hwa]; rfl))
    · rw [← hwd]; exact g.output.trans (bl1.output.trans (by rw [← hwa]; rfl))
    · rw [od k (by omega), g.block k (by have := bl1.size; omega) (fun e => by have := ((la.below bl1).cells e.symm).1; omega), bl1.block k (by omega), ← hwa, M.setM_other ob (by omega)]
  refine ⟨wa, v, sv, wb, u, wc, wd, ep, ca, mv_load va ⟨sa, _, sc, ev⟩, e1, e2, by rw [eu]; exact es, ⟨⟨u, by rw [eu]; exact vd, lo.keep (fun j hj => od j (fun e => n2 (by rw [← e]; exact hj)))⟩, (kd _ _ _ _ h.m (by decide) (fun e => ?_)).trans h.m, ?_, (kd _ _ _ _ h.s (by decide) (fun e => ?_)).trans h.s, (kd _ _ _ _ h.r (by decide) (fun e => ?_)).trans h.r, h.bel.trans bd, Nat.le_trans h.sz bd.size⟩, ⟨bd.size, fun k o hB hk ho => ?_⟩, bd, kd⟩
  · have := h.m
    rw [e] at this
    have := two_typesM this v1
    revert this; decide
  · have e5 : nmE (acc ++ [x]) = M.put (nmE acc) x.nm (.agg #[]) := by
      rw [show M.put (nmE acc) x.nm (.agg #[]) = M.put (nmE acc) x.nm unV from rfl, addN_nil hnew]
      simp [nmE]
    rw [e5]
    exact mp.below fd
  · have := h.s
    rw [e] at this
    have := two_typesM this v1
    revert this; decide
  · have := h.r
    rw [e] at this
    have := two_typesM this v1
    revert this; decide
  · have hkl := (Array.getElem?_eq_some_iff.1 hk).1
    have a1 : wa.heap[k]? = some o := by rw [← hwa, M.setM_other ob (by omega)]; exact hk
    have a2 := (bl1.block k (Array.getElem?_eq_some_iff.1 a1).1).trans a1
    have a3 : wc.heap[k]? = some o := (g.block k (Array.getElem?_eq_some_iff.1 a2).1 (fun e => by
      obtain ⟨_, c2, hc2⟩ := (la.below bl1).cells e.symm
      rw [a2] at hc2
      cases hc2
      cases ho)).trans a2
    rw [od k (fun e => by
      rw [e, vc] at a3
      cases a3
      cases ho)]
    exact a3
end
end Go.Proofs.YtifendlpeebofaaDoor

namespace Go.Proofs.YtifendlpeebofaaDoor
open Go.RowKit Go.Shelf Sq
set_option linter.unusedVariables false
set_option linter.unusedSimpArgs false
attribute [local go_sem] Oper.semAt_some

theorem zput {a : Act} {j : Nat} {v : Value} : (a.put (some j) v).tmps.size = a.tmps.size := by simp [Act.put]
theorem gput {a : Act} {i j : Nat} {v : Value} : (a.put (some j) v).tmps.getD i undef = if i = j then (if j < a.tmps.size then v else undef) else a.tmps.getD i undef := by
  simp only [Act.put, Array.getD_eq_getD_getElem?, Array.getElem?_setIfInBounds]
  by_cases e : j = i
  · subst e
    by_cases q : j < a.tmps.size <;> simp [q]
  · rw [if_neg e, if_neg (fun q : i = j => e q.symm)]
theorem run_boxM {P : Program} (t : TypeId) (v : Value) (w : World) : (Instr.box t v).run P w = .ok (.pointer (some ⟨w.heap.size, 0, none⟩)) (w.alloc (.cells v.cells t)) := by
  simp only [Instr.box, newVar, newRow, newObj, Sem.run_bind, Sem.run_pure, Result.andThen_ok]
  rfl
/-- The boxes that covering begins with. -/
theorem cov_start (w : World) (sb : Nat) (r : Int) : ∃ w1 w2 w3 w4 w5 w6, (Instr.box 25 (.pointer (some ⟨sb, 0, none⟩))).run Tryd.prog w = .ok (.pointer (some ⟨w.heap.size, 0, none⟩)) w1 ∧ (Instr.box 3 (.int .i64 r)).run Tryd.prog w1 = .ok (.pointer (some ⟨w.heap.size + 1, 0, none⟩)) w2 ∧ (Instr.alloc 54 true (.tuple #[])).run Tryd.prog w2 = .ok (.pointer (some ⟨w.heap.size + 2, 0, none⟩)) w3 ∧ (Instr.makeMap 90 none).run Tryd.prog w3 = .ok (.map (some (w.heap.size + 3))) w4 ∧
    (Instr.alloc 90 true (.tuple #[])).run Tryd.prog w4 = .ok (.pointer (some ⟨w.heap.size + 4, 0, none⟩)) w5 ∧ (Instr.storeAt 90 (.pointer (some ⟨w.heap.size + 4, 0, none⟩)) (.map (some (w.heap.size + 3)))).run Tryd.prog w5 = .ok () w6 ∧
    LC w w6 w.heap.size (w.heap.size + 1) (w.heap.size + 2) (w.heap.size + 4) (w.heap.size + 3) (.pointer (some ⟨sb, 0, none⟩)) r [] w6 ∧ w6.heap.size = w.heap.size + 5 := by
  have al : ∀ (W : World) (o : Obj), (W.alloc o).heap.size = W.heap.size + 1 := fun W o => by simp
  have bl : ∀ (W : World) (o : Obj), Below W.heap.size W (W.alloc o) := fun W o => (Below.refl _ _).alloc (Nat.le_refl _) _
  obtain ⟨w1, h1⟩ : ∃ W, w.alloc (.cells #[.pointer (some ⟨sb, 0, none⟩)] 25) = W := ⟨_, rfl⟩
  obtain ⟨w2, h2⟩ : ∃ W, w1.alloc (.cells #[.int .i64 r] 3) = W := ⟨_, rfl⟩
  obtain ⟨w3, h3⟩ : ∃ W, w2.alloc (.cells #[.slice none 0 0] 54) = W := ⟨_, rfl⟩
  obtain ⟨w4, h4⟩ : ∃ W, w3.alloc (.map #[] 0) = W := ⟨_, rfl⟩
  obtain ⟨w5, h5⟩ : ∃ W, w4.alloc (.cells #[.map none] 90) = W := ⟨_, rfl⟩
  have z1 : w1.heap.size = w.heap.size + 1 := by rw [← h1, al]
  have z2 : w2.heap.size = w.heap.size + 2 := by rw [← h2, al, z1]
  have z3 : w3.heap.size = w.heap.size + 3 := by rw [← h3, al, z2]
  have z4 : w4.heap.size = w.heap.size + 4 := by rw [← h4, al, z3]
  have z5 : w5.heap.size = w.heap.size + 5 := by rw [← h5, al, z4]
  have b1 : Below w.heap.size w w1 := by rw [← h1]; exact bl _ _
  have b2 : Below w1.heap.size w1 w2 := by rw [← h2]; exact bl _ _
  have b3 : Below w2.heap.size w2 w3 := by rw [← h3]; exact bl _ _
  have b4 : Below w3.heap.size w3 w4 := by rw [← h4]; exact bl _ _
  have b5 : Below w4.heap.size w4 w5 := by rw [← h5]; exact bl _ _
  have i1 : w1.heap[w.heap.size]? = some (.cells #[.pointer (some ⟨sb, 0, none⟩)] 25 (0, 0)) := by rw [← h1]; exact heap_alloc_new _ _
  have i2 : w2.heap[w.heap.size + 1]? = some (.cells #[.int .i64 r] 3 (0, 0)) := by rw [← h2, ← z1]; exact heap_alloc_new _ _
  have i3 : w3.heap[w.heap.size + 2]? = some (.cells #[.slice none 0 0] 54 (0, 0)) := by rw [← h3, ← z2]; exact heap_alloc_new _ _
  have i4 : M.MapAt w4 (w.heap.size + 3) tx txOk (nmE []) := by rw [← h4, ← z3]; exact M.MapAt.new w3 tx txOk
  have i5 : w5.heap[w.heap.size + 4]? = some (.cells #[.map none] 90 (0, 0)) := by rw [← h5, ← z4]; exact heap_alloc_new _ _
  have hc : w5.cell? ⟨w.heap.size + 4, 0, none⟩ = some (.map none) := (cell_of_row w5 (w.heap.size + 4) 0 _ _ _ i5).trans rfl
  have hf := frozen_of_row w5 (w.heap.size + 4) 0 _ _ i5
  have i6 := Go.heap_setCell_same w5 (w.heap.size + 4) 0 _ _ (Value.map (some (w.heap.size + 3))) i5
  have k6 : ∀ j, j ≠ w.heap.size + 4 → (w5.setCell ⟨w.heap.size + 4, 0, none⟩ (.map (some (w.heap.size + 3)))).heap[j]? = w5.heap[j]? := fun j hj => Below.heap_setCell _ _ _ _ hj
  have z6 : (w5.setCell ⟨w.heap.size + 4, 0, none⟩ (.map (some (w.heap.size + 3)))).heap.size = w.heap.size + 5 := by simp [World.setCell]; exact z5
  have c1 := (b2.block _ (by omega)).trans i1
  have c1 := (b3.block _ (by omega)).trans c1
  have c1 := (b4.block _ (by omega)).trans c1
  have c1 := (b5.block _ (by omega)).trans c1
  have c2 := (b3.block _ (by omega)).trans i2
  have c2 := (b4.block _ (by omega)).trans c2
  have c2 := (b5.block _ (by omega)).trans c2
  have c3 := (b4.block _ (by omega)).trans i3
  have c3 := (b5.block _ (by omega)).trans c3
  have c4 := i4.below (b5.block _ (by omega))
  have bw : Below w.heap.size w w5 := (((b1.trans (b2.mono (by omega))).trans (b3.mono (by omega))).trans (b4.mono (by omega))).trans (b5.mono (by omega))
  refine ⟨w1, w2, w3, w4, w5, _, ?_, ?_, ?_, ?_, ?_, ?_, ⟨⟨.slice none 0 0, (k6 _ (by omega)).trans c3, RowT.lo_nil RM _ _⟩, i6, c4.below (k6 _ (by omega)), (k6 _ (by omega)).trans c1, (k6 _ (by omega)).trans c2, bw.setCell (p := ⟨w.heap.size + 4, 0, none⟩) (by show w.heap.size ≤ w.heap.size + 4; omega) _, Nat.le_refl _⟩, z6⟩
  · rw [run_boxM, ← h1]; rfl
  · rw [run_boxM, ← h2, z1]; rfl
  · rw [← h3, ← z2]; kernel_rfl
  · rw [← h4, ← z3]; simp [Instr.makeMap, run_underlying Tryd.underlying90]
  · rw [← h5, ← z4]; kernel_rfl
  · clear h1 h2 h3 h4 h5 b1 b2 b3 b4 b5 i1 i2 i3 i4 c1 c2 c3 c4 bw z6 k6 i6
    go_simp
/-- What the loop's variables hold in a round. -/
def AxM (b4 b5 b7 b8 : Nat) (x : OkM × Nat) (a : Act) (W : World) : Prop := ∃ eb, a.tmps.size = 53 ∧ a.tmps.getD 4 undef = .pointer (some ⟨b4, 0, none⟩) ∧ a.tmps.getD 5 undef = .pointer (some ⟨b5, 0, none⟩) ∧ a.tmps.getD 7 undef = .pointer (some ⟨b7, 0, none⟩) ∧ a.tmps.getD 8 undef = .pointer (some ⟨b8, 0, none⟩) ∧ a.tmps.getD 10 undef = .pointer (some ⟨eb, 0, none⟩) ∧ RM.Bx W eb x.1.1
theorem AxM.own (b4 b5 b7 b8 B : Nat) (x : OkM × Nat) (a : Act) : OwnFrom B (fun (_ : Unit) W => AxM b4 b5 b7 b8 x a W) := by
  intro _ W W' row hs hg hr
  obtain ⟨eb, h0, h1, h2, h3, h4, h5, h6⟩ := hs
  refine ⟨eb, h0, h1, h2, h3, h4, h5, (hg.block eb (Array.getElem?_eq_some_iff.1 h6).1 (fun e => ?_)).trans h6⟩
  obtain ⟨_, o, ho, hc⟩ := hr eb e.symm
  rw [show W.heap[eb]? = _ from h6] at ho; cases ho; cases hc
theorem keeps_below {B : Nat} {W W' : World} (b : Below W.heap.size W W') : KeepsFrom B W W' := ⟨b.size, fun k o _ hk _ => (b.block k (Array.getElem?_eq_some_iff.1 hk).1).trans hk⟩
end Go.Proofs.YtifendlpeebofaaDoor

namespace Go.Proofs.YtifendlpeebofaaDoor
open Go.RowKit Go.Shelf Sq
set_option linter.unusedVariables false
set_option linter.unusedSimpArgs false
attribute [local go_sem] Oper.semAt_some

section
variable {w wl W W' : World} {b4 b5 b7 b8 fm : Nat} {sb : Nat} {r : Int} {acc : List MkV}
theorem LC.ldf (h : LC w wl b4 b5 b7 b8 fm (.pointer (some ⟨sb, 0, none⟩)) r acc W) : (Instr.loadAt 90 (.pointer (some ⟨b8, 0, none⟩))).run Tryd.prog W = .ok (.map (some fm)) W := by
  have hc : W.cell? ⟨b8, 0, none⟩ = some (.map (some fm)) := (cell_of_row W b8 0 _ _ _ h.m).trans rfl
  go_simp
theorem LC.lds (h : LC w wl b4 b5 b7 b8 fm (.pointer (some ⟨sb, 0, none⟩)) r acc W) : (Instr.loadAt 25 (.pointer (some ⟨b4, 0, none⟩))).run Tryd.prog W = .ok (.pointer (some ⟨sb, 0, none⟩)) W := by
  have hc : W.cell? ⟨b4, 0, none⟩ = some (.pointer (some ⟨sb, 0, none⟩)) := (cell_of_row W b4 0 _ _ _ h.s).trans rfl
  go_simp
theorem LC.ldr (h : LC w wl b4 b5 b7 b8 fm (.pointer (some ⟨sb, 0, none⟩)) r acc W) : (Instr.loadAt 3 (.pointer (some ⟨b5, 0, none⟩))).run Tryd.prog W = .ok (.int .i64 r) W := by
  have hc : W.cell? ⟨b5, 0, none⟩ = some (.int .i64 r) := (cell_of_row W b5 0 _ _ _ h.r).trans rfl
  go_simp
end
/-- Beside it the box in which Backward's iterator keeps its list. -/
def LCs (w wl : World) (b4 b5 b7 b8 fm : Nat) (sp : Value) (r : Int) (bs : Nat) (acc : List MkV) (W : World) : Prop := LC w wl b4 b5 b7 b8 fm sp r acc W ∧ ∃ c, W.heap[bs]? = some (.cells c 54 (0, 0))
theorem LCs.own {α : Type} (w wl : World) (b4 b5 b7 b8 fm : Nat) (sp : Value) (r : Int) (bs : Nat) (f : List α → List MkV) (hw : w.heap.size ≤ wl.heap.size) (hfm : fm < wl.heap.size) : OwnFrom wl.heap.size (fun pre W => LCs w wl b4 b5 b7 b8 fm sp r bs (f pre) W) := by
  intro pre W W' row hs hg hr
  obtain ⟨h1, c, h2⟩ := hs
  refine ⟨LC.own w wl b4 b5 b7 b8 fm sp r f hw hfm pre W W' row h1 hg hr, c, (hg.block bs (Array.getElem?_eq_some_iff.1 h2).1 (fun e => ?_)).trans h2⟩
  obtain ⟨_, o, ho, hc⟩ := hr bs e.symm
  rw [h2] at ho; cases ho; cases hc
set_option maxRecDepth 100000 in
set_option maxHeartbeats 8000000 in
theorem covering_any {w : World} {s : Sx} {E : List Elt} {base : Nat} {m : Mx} (h : SeqAt w s E) (hm : MkAt w base m) (r : Int) :
    Calls Tryd.prog 20 #[.pointer (some ⟨m.mb, 0, none⟩), .pointer (some ⟨s.sb, 0, none⟩), .int .i64 r] w fun e w' => ∃ v, e = .returned v ∧ RM.Lo w' w.heap.size v (covL E m.L r) ∧ Below w.heap.size w w' := by
  obtain ⟨LK, hLK⟩ := lift_ok (P := fun x : MkV => x.ok ∧ (0 ≤ x.sd ∧ x.sd ≤ 3)) m.L hm.ok
  obtain ⟨la, lc, elv, hat⟩ := hm.lvS
  have hla : ∀ j ∈ adB la, j < w.heap.size := by
    rcases hm.lo with ⟨e, _⟩ | ⟨g, cap, cur, e, _, hg, _⟩
    · rw [elv] at e
      injection e with e1
      rw [e1]
      simp [adB]
    · rw [elv] at e
      injection e with e1
      rw [e1]
      intro j hj
      simp [adB] at hj
      rw [hj]
      exact (Array.getElem?_eq_some_iff.1 hg).1
  have hlen : m.L.length = LK.length := by rw [← hLK, List.length_map]
  have hn : LK.length ≤ 900000000000 := by rw [← hlen]; exact hm.n
  rw [← hLK] at hat
  rw [hlen] at elv
  obtain ⟨w1, w2, w3, w4, w5, w6, e1, e2, e3, e4, e5, e6, L6, z6⟩ := cov_start w s.sb r
  have HE := hidMk (And.intro e1 (And.intro e2 (And.intro e3 (And.intro e4 (And.intro e5 e6)))))
  have HH := hidMk (fun (W : World) (b : Below w.heap.size w W) => h.below b)
  have HM := hidMk (fun (W : World) (b : Below w.heap.size w W) => hm.below b)
  have HL6 := hidMk L6
  have HZ6 := hidMk z6
  have HLA := hidMk hla
  have HN := hidMk hn
  clear e1 e2 e3 e4 e5 e6 z6 hla
  refine (callsIn_wide (n := 4)).1 ?_
  refine callsIn_of_wp_marks Tryd.func20 rfl trivial ?_ rfl
  simp only [Tryd.ntmps20, List.size_toArray, List.length_cons, List.length_nil, Nat.reduceAdd, Nat.reduceSub, Array.replicate_succ, Array.replicate_zero, List.push_toArray, List.append_toArray, List.nil_append, List.cons_append]
  refine wpIn_wide.2 ?_
  go_upto_region 0 with fail
  refine cov0 (sp := .pointer (some ⟨s.sb, 0, none⟩)) (r := r) (b4 := w.heap.size) (b5 := w.heap.size + 1) (w1 := w1) (w2 := w2) _ w _ rfl rfl rfl HE.out.1 HE.out.2.1 ?_
  intro a' wx hw ha
  obtain rfl : w2 = wx := hw.symm
  subst ha
  simp only [Act.put, List.setIfInBounds_toArray, List.set_cons_zero, List.set_cons_succ]
  go_upto_region 1 with fail
  refine cov1 (b7 := w.heap.size + 2) (w1 := w3) _ w2 _ rfl HE.out.2.2.1 ?_
  intro a' wx hw ha
  obtain rfl : w3 = wx := hw.symm
  subst ha
  simp only [Act.put, List.setIfInBounds_toArray, List.set_cons_zero, List.set_cons_succ]
  go_upto_region 2 with fail
  refine cov2 (b8 := w.heap.size + 4) (fm := w.heap.size + 3) (w1 := w4) (w2 := w5) (w3 := w6) _ w3 _ rfl HE.out.2.2.2.1 HE.out.2.2.2.2.1 HE.out.2.2.2.2.2 ?_
  intro a' wx hw ha
  obtain rfl : w6 = wx := hw.symm
  subst ha
  simp only [Act.put, List.setIfInBounds_toArray, List.set_cons_zero, List.set_cons_succ]
  clear HE
  go_upto_region 3 with fail
  refine cov3 (mb := m.mb) (lv := m.lv) (fun v W => v = .func (.func 53) #[] #[.pointer (some ⟨w6.heap.size, 0, none⟩)] ∧ W.heap.size = w6.heap.size + 1 ∧ W.heap[w6.heap.size]? = some (.cells #[.slice la LK.length lc] 54 (0, 0)) ∧ Below w6.heap.size w6 W) _ w6 _ rfl rfl (fun W e => by rw [e]; exact (HM.out w6 L6.bel).ldl) ?_ ?_
  · rw [elv]
    refine (backward_any w6 la LK.length lc).mono ?_
    rintro e W ⟨rfl, q⟩
    exact ⟨_, rfl, rfl, q⟩
  rintro v a' w7 ⟨rfl, z7, c7, b7⟩ ha
  subst ha
  simp only [Act.put, List.setIfInBounds_toArray, List.set_cons_zero, List.set_cons_succ]
  have b07 : Below w.heap.size w w7 := L6.bel.trans (b7.mono L6.bel.size)
  have L7 : LC w w7 w.heap.size (w.heap.size + 1) (w.heap.size + 2) (w.heap.size + 4) (w.heap.size + 3) (.pointer (some ⟨s.sb, 0, none⟩)) r [] w7 := by
    have q := L6.below b7
    exact ⟨q.v, q.m, q.f, q.s, q.r, q.bel, Nat.le_refl _⟩
  have hat7 : RM.At w7 la (LK.map (·.1)) := hat.below b07
  have ST := hidMk (bwd_stops (4 - 1) w6.heap.size LK hn w7 ((cell_of_row _ _ 0 _ _ _ c7).trans rfl) hat7)
  have LK0 := hidMk hLK
  have HB7 := hidMk b07
  have Z7 := hidMk z7
  have HL7 := hidMk (show LCs w w7 w.heap.size (w.heap.size + 1) (w.heap.size + 2) (w.heap.size + 4) (w.heap.size + 3) (.pointer (some ⟨s.sb, 0, none⟩)) r w6.heap.size [] w7 from ⟨L7, _, c7⟩)
  clear c7 hat7 hat elv HL6 b7 z7 L7 L6 hlen hLK hn b07
  go_wp2
  refine (wpIn_wide (n := 4)).1 ?_
  refine wpIn_rangeFunc_ownH (F := Fence.wide) rfl (by omega) (gf := 53) (lb := #[.pointer (some ⟨w6.heap.size, 0, none⟩)]) rfl trivial (enters_of Tryd.func53 (by kernel_rfl) rfl)
    ST.out (fun h k => h.trans k) ?kb (Below.refl _ _) (fun _ => rfl)
    (fun pre W => LCs w w7 w.heap.size (w.heap.size + 1) (w.heap.size + 2) (w.heap.size + 4) (w.heap.size + 3) (.pointer (some ⟨s.sb, 0, none⟩)) r w6.heap.size (covP E r pre) W)
    (fun _ _ _ => False)
    (LCs.own w w7 w.heap.size (w.heap.size + 1) (w.heap.size + 2) (w.heap.size + 4) (w.heap.size + 3) (.pointer (some ⟨s.sb, 0, none⟩)) r w6.heap.size (covP E r) HB7.out.size (by have := HZ6.out; have := Z7.out; omega))
    (fun _ _ _ _ _ hs _ _ => hs)
    HL7.out (AxM w.heap.size (w.heap.size + 1) (w.heap.size + 2) (w.heap.size + 4)) (AxM.own w.heap.size (w.heap.size + 1) (w.heap.size + 2) (w.heap.size + 4) w7.heap.size) ?assign ?body ?done ?stop
  case kb =>
    refine Kl.put (fun j hj => ?_)
    have := Z7.out
    rcases List.mem_cons.1 hj with rfl | hj
    · omega
    · have := HLA.out j hj
      have := HB7.out.size
      omega
  case assign =>
    intro l pre x W K hI0 hK
    obtain ⟨hI, cbs, hbs⟩ := hI0
    have hz : (#[21, 22].zip #[.int .i64 (x.2 : Int), x.1.1.a] : Array (Tmp × Value)) = #[(21, .int .i64 (x.2 : Int)), (22, x.1.1.a)] := by simp
    rw [hz]
    simp only [List.foldl_toArray', List.foldl_cons, List.foldl_nil, List.setIfInBounds_toArray, List.set_cons_succ, List.set_cons_zero]
    refine cov4 (v := x.1.1.a) (eb := W.heap.size) _ W _ rfl rfl (RowT.bx_zero RM_is W) (RowT.bx_new RM_is W x.1.2.1) ?_
    intro a' W' hw ha
    obtain ⟨hbx, hbl⟩ := RowT.bx_is RM W x.1.1
    rw [← hw] at hbx hbl
    refine hK _ _ (keeps_below hbl) (fun j hj => hbl.block j ?_) ⟨hI.below hbl, cbs, (hbl.block _ (Array.getElem?_eq_some_iff.1 hbs).1).trans hbs⟩ ⟨W.heap.size, ?_, ?_, ?_, ?_, ?_, ?_, hbx⟩
    · have := hI.sz
      have := Z7.out
      rcases List.mem_cons.1 hj with rfl | hj
      · omega
      · have := HLA.out j hj
        have := HB7.out.size
        omega
    · subst ha; rfl
    · subst ha; rfl
    · subst ha; rfl
    · subst ha; rfl
    · subst ha; rfl
    · subst ha; rfl
  case body =>
    rintro l pre x a' W hl hr' ⟨hI, cbs, hbs⟩ ⟨eb, hz, t4, t5, t7, t8, t10, hE⟩ hpl
    have kls : ∀ {W' : World}, Below W.heap.size W W' → Kl (w6.heap.size :: adB la) W W' := fun b j hj => b.block j (by
      have := hI.sz
      have := Z7.out
      rcases List.mem_cons.1 hj with rfl | hj
      · omega
      · have := HLA.out j hj
        have := HB7.out.size
        omega)
    have okA : ∀ y ∈ covP E r pre, y.ok := fun y hy => by
      rcases covP_mem hy with hy | hy
      · cases hy
      · obtain ⟨q, _, rfl⟩ := List.mem_map.1 hy
        exact q.1.2.1
    have lnA : (covP E r pre).length ≤ pre.length := by
      have := covP_len (E := E) (r := r) (pre.map (·.1.1)) []
      simpa [covP] using this
    have hst := covP_snoc E r pre x
    obtain ⟨y1, y2, f1, c1, f2, c2⟩ := un_new W
    obtain ⟨q1, hq1⟩ : ∃ q, hasN (covP E r pre) x.1.1.nm = q := ⟨_, rfl⟩
    refine wpIn_block ?_
    refine wpIn_seq ?_
    refine wpIn_seq ?_
    refine cov5 (eb := eb) (b8 := w.heap.size + 4) (fm := w.heap.size + 3) (ub := W.heap.size) (nm := x.1.1.nm) (r := q1) (w1 := y1) (w2 := y2) _ W _ hz t8 t10 hI.ldf (mk_nm x.1.2.1 hE.rng) (by rw [← hq1]; exact hI.lookn x.1.2.1.nm) f1 f2 ?_
    intro a2 W2 hw ha
    obtain rfl : y2 = W2 := hw.symm
    have z2 : a2.tmps.size = 53 := by rw [ha]; simp only [zput]; exact hz
    have s12 : a2.tmps.getD 12 undef = .bool q1 := by rw [ha]; simp only [gput, zput, hz, ↓reduceIte, Nat.reduceLT, Nat.reduceEqDiff, reduceCtorEq]
    have s4 : a2.tmps.getD 4 undef = .pointer (some ⟨w.heap.size, 0, none⟩) := by rw [ha]; simp only [gput]; exact t4
    have s5 : a2.tmps.getD 5 undef = .pointer (some ⟨w.heap.size + 1, 0, none⟩) := by rw [ha]; simp only [gput]; exact t5
    have s7 : a2.tmps.getD 7 undef = .pointer (some ⟨w.heap.size + 2, 0, none⟩) := by rw [ha]; simp only [gput]; exact t7
    have s8 : a2.tmps.getD 8 undef = .pointer (some ⟨w.heap.size + 4, 0, none⟩) := by rw [ha]; simp only [gput]; exact t8
    have s10 : a2.tmps.getD 10 undef = .pointer (some ⟨eb, 0, none⟩) := by rw [ha]; simp only [gput]; exact t10
    clear ha t4 t5 t7 t8 t10 hz
    refine wpIn_seq ?_
    refine cov6 (r := q1) _ y2 _ z2 s12 ?_
    intro a3 W3 hw ha
    obtain rfl : y2 = W3 := hw.symm
    have z3 : a3.tmps.size = 53 := by rw [ha]; simp only [zput]; exact z2
    have u30 : a3.tmps.getD 30 undef = .bool q1 := by rw [ha]; simp only [gput, zput, z2, ↓reduceIte, Nat.reduceLT, Nat.reduceEqDiff, reduceCtorEq]
    have u4 : a3.tmps.getD 4 undef = .pointer (some ⟨w.heap.size, 0, none⟩) := by rw [ha]; simp only [gput]; exact s4
    have u5 : a3.tmps.getD 5 undef = .pointer (some ⟨w.heap.size + 1, 0, none⟩) := by rw [ha]; simp only [gput]; exact s5
    have u7 : a3.tmps.getD 7 undef = .pointer (some ⟨w.heap.size + 2, 0, none⟩) := by rw [ha]; simp only [gput]; exact s7
    have u8 : a3.tmps.getD 8 undef = .pointer (some ⟨w.heap.size + 4, 0, none⟩) := by rw [ha]; simp only [gput]; exact s8
    have u10 : a3.tmps.getD 10 undef = .pointer (some ⟨eb, 0, none⟩) := by rw [ha]; simp only [gput]; exact s10
    clear ha s4 s5 s7 s8 s10 s12 z2
    refine wpIn_cond (t := q1) u30 ?_
    cases q1 with
    | true =>
      refine wpIn_exit ?_
      have e : covP E r (pre ++ [x]) = covP E r pre := by rw [hst]; unfold covStep; rw [if_pos (show (covP E r pre).any _ = true from hq1)]
      show KeepsFrom _ _ _ ∧ Kl _ _ _ ∧ LCs _ _ _ _ _ _ _ _ _ _ _ _
      rw [e]
      exact ⟨keeps_below c2, kls c2, hI.below c2, cbs, (c2.block _ (Array.getElem?_eq_some_iff.1 hbs).1).trans hbs⟩
    | false =>
      refine wpIn_skip ?_
      have I2 := hI.below c2
      have E2 := hE.below c2
      refine wpIn_seq ?_
      refine cov7 (eb := eb) (b4 := w.heap.size) (sp := .pointer (some ⟨s.sb, 0, none⟩)) (f := (reachP E x.1.1).1) (u := (reachP E x.1.1).2) (fun W' => Below y2.heap.size y2 W') _ y2 _ z3 u4 u10 (by omega) I2.lds (reach_any (HH.out _ I2.bel) x.1.2.1 x.1.2.2 E2) ?_
      intro a4 W4 bw ha
      have z4 : a4.tmps.size = 53 := by rw [ha]; simp only [zput]; exact z3
      have v13 : a4.tmps.getD 13 undef = .int .i64 (reachP E x.1.1).1 := by rw [ha]; simp only [gput, zput, z3, ↓reduceIte, Nat.reduceLT, Nat.reduceEqDiff, reduceCtorEq]
      have v14 : a4.tmps.getD 14 undef = .int .i64 (reachP E x.1.1).2 := by rw [ha]; simp only [gput, zput, z3, ↓reduceIte, Nat.reduceLT, Nat.reduceEqDiff, reduceCtorEq]
      have v5 : a4.tmps.getD 5 undef = .pointer (some ⟨w.heap.size + 1, 0, none⟩) := by rw [ha]; simp only [gput]; exact u5
      have v7 : a4.tmps.getD 7 undef = .pointer (some ⟨w.heap.size + 2, 0, none⟩) := by rw [ha]; simp only [gput]; exact u7
      have v8 : a4.tmps.getD 8 undef = .pointer (some ⟨w.heap.size + 4, 0, none⟩) := by rw [ha]; simp only [gput]; exact u8
      have v10 : a4.tmps.getD 10 undef = .pointer (some ⟨eb, 0, none⟩) := by rw [ha]; simp only [gput]; exact u10
      clear ha u4 u5 u7 u8 u10 u30 z3
      have b4 : Below W.heap.size W W4 := c2.trans (bw.mono c2.size)
      have I4 := hI.below b4
      have E4 := hE.below b4
      have bs4 := (b4.block _ (Array.getElem?_eq_some_iff.1 hbs).1).trans hbs
      refine wpIn_seq ?_
      by_cases hf : (reachP E x.1.1).1 ≤ r
      · obtain ⟨zz, hzz⟩ : ∃ z, decide (r < (reachP E x.1.1).2) = z := ⟨_, rfl⟩
        refine cov8t (b5 := w.heap.size + 1) (f := (reachP E x.1.1).1) (u := (reachP E x.1.1).2) (r := r) (z := zz) _ W4 _ z4 v5 v13 v14 (decide_eq_true hf) hzz I4.ldr ?_
        intro a5 W5 hw ha
        obtain rfl : W4 = W5 := hw.symm
        have z5 : a5.tmps.size = 53 := by rw [ha]; simp only [zput]; exact z4
        have x43 : a5.tmps.getD 43 undef = .bool zz := by rw [ha]; simp only [gput, zput, z4, ↓reduceIte, Nat.reduceLT, Nat.reduceEqDiff, reduceCtorEq]
        have x7 : a5.tmps.getD 7 undef = .pointer (some ⟨w.heap.size + 2, 0, none⟩) := by rw [ha]; simp only [gput]; exact v7
        have x8 : a5.tmps.getD 8 undef = .pointer (some ⟨w.heap.size + 4, 0, none⟩) := by rw [ha]; simp only [gput]; exact v8
        have x10 : a5.tmps.getD 10 undef = .pointer (some ⟨eb, 0, none⟩) := by rw [ha]; simp only [gput]; exact v10
        clear ha v5 v7 v8 v10 v13 v14 z4
        refine wpIn_cond (t := zz) x43 ?_
        cases zz with
        | false =>
          refine wpIn_skip ?_
          have e : covP E r (pre ++ [x]) = covP E r pre := by
            rw [hst]; unfold covStep
            rw [if_neg (by rw [show (covP E r pre).any _ = false from hq1]; decide), if_neg (fun q => by rw [decide_eq_true q.2] at hzz; cases hzz)]
          show KeepsFrom _ _ _ ∧ Kl _ _ _ ∧ LCs _ _ _ _ _ _ _ _ _ _ _ _
          rw [e]
          exact ⟨keeps_below b4, kls b4, I4, cbs, bs4⟩
        | true =>
          have e : covP E r (pre ++ [x]) = covP E r pre ++ [x.1.1] := by
            rw [hst]; unfold covStep
            rw [if_neg (by rw [show (covP E r pre).any _ = false from hq1]; decide), if_pos ⟨hf, of_decide_eq_true hzz⟩]
          obtain ⟨wa, v, sv, wb, v2, wc, wd, g1, ka, g2, g3, g4, g5, I5, kf, bd, kd⟩ := I4.more x.1.2.1 okA (by have := HN.out; omega) hq1 HB7.out.size ⟨by omega, by have := HZ6.out; have := Z7.out; omega⟩ (by omega)
          have Ea : RM.Bx wa eb x.1.1 := (ka _ _ _ _ E4).trans E4
          refine wpIn_seq ?_
          refine cov9 (eb := eb) (b8 := w.heap.size + 4) (fm := w.heap.size + 3) (nm := x.1.1.nm) (w1 := wa) _ W4 _ z5 x8 x10 I4.ldf (mk_nm x.1.2.1 E4.rng) (build_un W4) g1 ?_
          intro a6 W6 hw ha
          obtain rfl : wa = W6 := hw.symm
          have z6 : a6.tmps.size = 53 := by rw [ha]; simp only [zput]; exact z5
          have y7 : a6.tmps.getD 7 undef = .pointer (some ⟨w.heap.size + 2, 0, none⟩) := by rw [ha]; simp only [gput]; exact x7
          have y10 : a6.tmps.getD 10 undef = .pointer (some ⟨eb, 0, none⟩) := by rw [ha]; simp only [gput]; exact x10
          clear ha x7 x8 x10 x43 z5
          refine cov10 (eb := eb) (b7 := w.heap.size + 2) (x := x.1.1) (u := v) (sv := sv) (u2 := v2) (w1 := wb) (w2 := wc) (w3 := wd) _ wa _ z6 y7 y10 g2 (RowT.ld RM_is x.1.2.1 Ea.rng) g3 g4 g5 ?_
          intro a7 W7 hw ha
          obtain rfl : wd = W7 := hw.symm
          show KeepsFrom _ _ _ ∧ Kl _ _ _ ∧ LCs _ _ _ _ _ _ _ _ _ _ _ _
          rw [e]
          have bs5 := kd _ _ _ _ bs4 (by decide) (by have := HZ6.out; omega)
          refine ⟨(keeps_below b4).trans kf, (kls b4).trans (fun j hj => ?_), I5, cbs, bs5.trans bs4⟩
          rcases List.mem_cons.1 hj with rfl | hj
          · exact bs5
          · exact bd.block j (HLA.out j hj)
      · refine cov8f (b5 := w.heap.size + 1) (f := (reachP E x.1.1).1) (r := r) _ W4 _ z4 v5 v13 (decide_eq_false hf) I4.ldr ?_
        intro a5 W5 hw ha
        obtain rfl : W4 = W5 := hw.symm
        have x43 : a5.tmps.getD 43 undef = .bool false := by rw [ha]; simp only [gput, zput, z4, ↓reduceIte, Nat.reduceLT, Nat.reduceEqDiff, reduceCtorEq]
        clear ha v5 v7 v8 v10 v13 v14
        refine wpIn_cond (t := false) x43 ?_
        refine wpIn_skip ?_
        have e : covP E r (pre ++ [x]) = covP E r pre := by
          rw [hst]; unfold covStep
          rw [if_neg (by rw [show (covP E r pre).any _ = false from hq1]; decide), if_neg (fun q => hf q.1)]
        show KeepsFrom _ _ _ ∧ Kl _ _ _ ∧ LCs _ _ _ _ _ _ _ _ _ _ _ _
        rw [e]
        exact ⟨keeps_below b4, kls b4, I4, cbs, bs4⟩
  case done =>
    rintro D ys W hD rfl ⟨hI, _⟩ hK
    obtain ⟨v, v1, v2⟩ := hI.v
    rw [covP_all, LK0.out] at v2
    have okc : ∀ y ∈ covL E m.L r, y.ok := fun y hy => by
      rcases covP_mem hy with hy | hy
      · cases hy
      · exact (hm.ok y (List.mem_reverse.1 hy)).1
    obtain ⟨a0, c0, e0, _⟩ := v2.open RM_is okc
    have LV := hidMk (mv_load v1 ⟨a0, _, c0, e0⟩)
    have kb : ∀ k, k ≠ D → (W.putObj D (.deferred none)).heap[k]? = W.heap[k]? := fun k hk => World.putObj_heap_other hk
    have bD : Below w.heap.size W (W.putObj D (.deferred none)) := (Below.refl _ W).grown (grownBy_putObj' W D (.deferred none)) hI.bel.size (fun k e => by cases e; have := HB7.out.size; omega)
    have RES := hidMk (show RM.Lo (W.putObj D (.deferred none)) w.heap.size v (covL E m.L r) from v2.keep (fun k hk => kb k (fun e => by
      obtain ⟨_, cc, e2⟩ := v2.cells hk
      rw [e, hK] at e2
      cases e2)))
    have RB := hidMk (hI.bel.trans bD)
    clear v1 v2 hI e0
    gi_wp2
    go_upto_region 11 with fail
    refine cov11 (u := v) (b7 := w.heap.size + 2) _ W _ rfl rfl LV.out ?_
    intro a' w3 hw ha
    subst ha
    obtain rfl : W = w3 := hw.symm
    simp only [Act.put, List.setIfInBounds_toArray, List.set_cons_zero, List.set_cons_succ]
    go_wp2
    refine ⟨by simp, .inl ⟨_, _, rfl, run_takeDeferred hK, ?_⟩⟩
    exact ⟨_, results_tmp (t := 6) rfl _ _ _, v, rfl, RES.out, RB.out⟩
  case stop =>
    exact fun D c pre W _ _ h _ => h.elim
end Go.Proofs.YtifendlpeebofaaDoor

namespace Go.Proofs.YtifendlpeebofaaDoor
open Go.RowKit
set_option linter.unusedVariables false
set_option linter.unusedSimpArgs false

/-- How two numbers stand: -1, 0, 1. -/
def cI (a b : Int) : Int := if a < b then -1 else if b < a then 1 else 0
/-- How two texts stand. -/
def cS (a b : ByteArray) : Int := if Op.bytesLess a.toList b.toList = true then -1 else if (a.toList == b.toList) = true then 0 else 1
/-! ### texts by their bytes -/
theorem bl_irrefl : ∀ l : List UInt8, Op.bytesLess l l = false
  | [] => rfl
  | a :: x => by
    unfold Op.bytesLess
    simp [bl_irrefl x]
theorem bl_cons (a b : UInt8) (x y : List UInt8) : Op.bytesLess (a :: x) (b :: y) = true ↔ a.toNat < b.toNat ∨ (a = b ∧ Op.bytesLess x y = true) := by
  rw [Op.bytesLess]
  simp [UInt8.lt_iff_toNat_lt]
theorem bl_asymm : ∀ {a b : List UInt8}, Op.bytesLess a b = true → Op.bytesLess b a = false
  | [], [], h => by simp [Op.bytesLess] at h
  | [], _ :: _, _ => rfl
  | _ :: _, [], h => by simp [Op.bytesLess] at h
  | a :: x, b :: y, h => by
    cases hq : Op.bytesLess (b :: y) (a :: x) with
    | false => rfl
    | true =>
      rw [bl_cons] at h hq
      rcases h with h | ⟨rfl, h⟩
      · rcases hq with q | ⟨rfl, q⟩ <;> omega
      · rcases hq with q | ⟨_, q⟩
        · omega
        · rw [bl_asymm h] at q; cases q
theorem bl_total : ∀ {a b : List UInt8}, Op.bytesLess a b = false → Op.bytesLess b a = false → a = b
  | [], [], _, _ => rfl
  | [], _ :: _, h, _ => by simp [Op.bytesLess] at h
  | _ :: _, [], _, h => by simp [Op.bytesLess] at h
  | a :: x, b :: y, h1, h2 => by
    have e1 : ¬ (a.toNat < b.toNat ∨ (a = b ∧ Op.bytesLess x y = true)) := by rw [← bl_cons, h1]; simp
    have e2 : ¬ (b.toNat < a.toNat ∨ (b = a ∧ Op.bytesLess y x = true)) := by rw [← bl_cons, h2]; simp
    have e : a = b := UInt8.toNat_inj.1 (by omega)
    subst e
    have h3 : Op.bytesLess x y = false := by cases hq : Op.bytesLess x y with | false => rfl | true => exact absurd (.inr ⟨rfl, hq⟩) e1
    have h4 : Op.bytesLess y x = false := by cases hq : Op.bytesLess y x with | false => rfl | true => exact absurd (.inr ⟨rfl, hq⟩) e2
    rw [bl_total h3 h4]
theorem bl_trans : ∀ {a b c : List UInt8}, Op.bytesLess a b = true → Op.bytesLess b c = true → Op.bytesLess a c = true
  | _, [], _, h, _ => by cases ‹List UInt8› <;> simp [Op.bytesLess] at h
  | _, _ :: _, [], _, h => by simp [Op.bytesLess] at h
  | [], _ :: _, _ :: _, _, _ => rfl
  | a :: x, b :: y, c :: z, h1, h2 => by
    rw [bl_cons] at h1 h2 ⊢
    rcases h1 with h1 | ⟨rfl, h1⟩
    · rcases h2 with h2 | ⟨rfl, h2⟩ <;> exact .inl (by omega)
    · rcases h2 with h2 | ⟨rfl, h2⟩
      · exact .inl h2
      · exact .inr ⟨rfl, bl_trans h1 h2⟩

/-! ### orders, one behind the other -/
structure TO {α : Type} (c : α → α → Int) : Prop where
  anti : ∀ a b, c b a = - c a b
  le : ∀ a b d, c a b ≤ 0 → c b d ≤ 0 → c a d ≤ 0
  lt : ∀ a b d, c a b ≤ 0 → c b d ≤ 0 → (c a b < 0 ∨ c b d < 0) → c a d < 0
theorem TO.zero {α : Type} {c : α → α → Int} (h : TO c) {a b d : α} (h1 : c a b = 0) (h2 : c b d = 0) : c a d = 0 := by
  have e1 := h.le a b d (by omega) (by omega)
  have e2 := h.le d b a (by rw [h.anti]; omega) (by rw [h.anti]; omega)
  rw [h.anti] at e2
  omega
def or2 (a b : Int) : Int := if a = 0 then b else a
theorem TO.lex {α β : Type} {c : α → α → Int} {d : β → β → Int} (hc : TO c) (hd : TO d) : TO (fun (p q : α × β) => or2 (c p.1 q.1) (d p.2 q.2)) := by
  refine ⟨fun a b => ?_, fun a b e h1 h2 => ?_, fun a b e h1 h2 h3 => ?_⟩
  · simp only [or2]
    have := hc.anti a.1 b.1
    have := hd.anti a.2 b.2
    split <;> split <;> omega
  · simp only [or2] at *
    have := hc.le a.1 b.1 e.1
    have := hc.lt a.1 b.1 e.1
    have := @TO.zero _ _ hc a.1 b.1 e.1
    have := hd.le a.2 b.2 e.2
    split at h1 <;> split at h2 <;> split <;> omega
  · simp only [or2] at *
    have := hc.le a.1 b.1 e.1
    have := hc.lt a.1 b.1 e.1
    have := @TO.zero _ _ hc a.1 b.1 e.1
    have := hd.le a.2 b.2 e.2
    have := hd.lt a.2 b.2 e.2
    split at h1 <;> split at h2 <;> split <;> split at h3 <;> (try split at h3) <;> omega
theorem to_cI : TO cI := by
  refine ⟨fun a b => ?_, fun a b d => ?_, fun a b d => ?_⟩ <;> simp only [cI] <;> repeat' split
  all_goals omega
theorem cS_val (a b : ByteArray) : (Op.bytesLess a.toList b.toList = true ∧ cS a b = -1) ∨ (a.toList = b.toList ∧ cS a b = 0) ∨ (Op.bytesLess b.toList a.toList = true ∧ cS a b = 1) := by
  unfold cS
  cases h1 : Op.bytesLess a.toList b.toList with
  | true => exact .inl ⟨rfl, by simp⟩
  | false =>
    cases h2 : Op.bytesLess b.toList a.toList with
    | true =>
      have hne : ¬ a.toList = b.toList := fun e => by rw [e, bl_irrefl] at h2; cases h2
      exact .inr (.inr ⟨rfl, by simp [hne]⟩)
    | false =>
      have e := bl_total h1 h2
      exact .inr (.inl ⟨e, by simp [e]⟩)
theorem to_cS : TO cS := by
  refine ⟨fun a b => ?_, fun a b d h1 h2 => ?_, fun a b d h1 h2 h3 => ?_⟩
  · rcases cS_val a b with ⟨p, e⟩ | ⟨p, e⟩ | ⟨p, e⟩ <;> rcases cS_val b a with ⟨q, g⟩ | ⟨q, g⟩ | ⟨q, g⟩
    all_goals first
      | (rw [e, g]; done)
      | (rw [e, g]; rfl)
      | (exfalso; rw [bl_asymm p] at q; cases q; done)
      | (exfalso; rw [q, bl_irrefl] at p; cases p; done)
      | (exfalso; rw [p, bl_irrefl] at q; cases q; done)
  · rcases cS_val a b with ⟨p, e⟩ | ⟨p, e⟩ | ⟨p, e⟩ <;> rcases cS_val b d with ⟨q, g⟩ | ⟨q, g⟩ | ⟨q, g⟩ <;> rcases cS_val a d with ⟨r, i⟩ | ⟨r, i⟩ | ⟨r, i⟩ <;> (try omega)
    · have := bl_trans p q; rw [bl_asymm this] at r; cases r
    · rw [q] at p; rw [bl_asymm p] at r; cases r
    · rw [← p] at q; rw [bl_asymm q] at r; cases r
    · rw [p, q, bl_irrefl] at r; cases r
  · rcases cS_val a b with ⟨p, e⟩ | ⟨p, e⟩ | ⟨p, e⟩ <;> rcases cS_val b d with ⟨q, g⟩ | ⟨q, g⟩ | ⟨q, g⟩ <;> rcases cS_val a d with ⟨r, i⟩ | ⟨r, i⟩ | ⟨r, i⟩ <;> (try omega)
    · have := bl_trans p q; rw [r, bl_irrefl] at this; cases this
    · have := bl_trans p q; rw [bl_asymm this] at r; cases r
    · rw [q, ← r, bl_irrefl] at p; cases p
    · rw [q] at p; rw [bl_asymm p] at r; cases r
    · rw [← p, r, bl_irrefl] at q; cases q
    · rw [← p] at q; rw [bl_asymm q] at r; cases r
theorem cmpB : ∀ (x y : List UInt8), Lib.compareBytes x y = if Op.bytesLess x y = true then -1 else if (x == y) = true then 0 else 1
  | [], [] => by simp [Lib.compareBytes, Op.bytesLess]
  | [], _ :: _ => by simp [Lib.compareBytes, Op.bytesLess]
  | _ :: _, [] => by simp [Lib.compareBytes, Op.bytesLess]
  | a :: x, b :: y => by
    unfold Lib.compareBytes
    rw [cmpB x y]
    by_cases h1 : a < b
    · have : Op.bytesLess (a :: x) (b :: y) = true := (bl_cons a b x y).2 (.inl (UInt8.lt_iff_toNat_lt.1 h1))
      rw [if_pos h1, if_pos this]
    · rw [if_neg h1]
      have h1' : ¬ a.toNat < b.toNat := fun h => h1 (UInt8.lt_iff_toNat_lt.2 h)
      by_cases h2 : b < a
      · have h2' : b.toNat < a.toNat := UInt8.lt_iff_toNat_lt.1 h2
        have n1 : ¬ Op.bytesLess (a :: x) (b :: y) = true := by
          rw [bl_cons]
          rintro (h | ⟨rfl, _⟩) <;> omega
        have n2 : ¬ ((a :: x) == (b :: y)) = true := by
          intro h
          have : a = b := by simpa using (List.cons.inj (by simpa using h : a :: x = b :: y)).1
          subst this
          omega
        rw [if_pos h2, if_neg n1, if_neg n2]
      · have e : a = b := UInt8.toNat_inj.1 (by have : ¬ b.toNat < a.toNat := fun h => h2 (UInt8.lt_iff_toNat_lt.2 h); omega)
        subst e
        rw [if_neg h2]
        have q1 : (Op.bytesLess (a :: x) (a :: y) = true) ↔ (Op.bytesLess x y = true) := by rw [bl_cons]; simp
        have q2 : (((a :: x) == (a :: y)) = true) ↔ ((x == y) = true) := by simp
        simp only [q1, q2]
theorem cmpS (a b : ByteArray) : Lib.compareBytes a.data.toList b.data.toList = cS a b := by
  rw [cmpB]
  unfold cS
  simp only [ByteArray.toList_eq]
set_option maxRecDepth 100000 in
set_option maxHeartbeats 400000 in
theorem nanN (k : Int) (w : World) : Calls Tryd.prog 58 #[.int .i64 k] w fun e w' => e = .returned (.bool false) ∧ w' = w := by
  go_enter Tryd.func58, Tryd.ntmps58
  go_wp2
  go_ret
  exact ⟨by simp, rfl⟩
set_option maxRecDepth 100000 in
set_option maxHeartbeats 1000000 in
theorem cmpN (a b : Int) (w : World) : Calls Tryd.prog 40 #[.int .i64 a, .int .i64 b] w fun e w' => e = .returned (.int .i64 (cI a b)) ∧ w' = w := by
  have H : Hid (∀ k wx, Calls Tryd.prog 58 #[.int .i64 k] wx fun e w' => e = .returned (.bool false) ∧ w' = wx) := fun k wx => nanN k wx
  unfold cI
  by_cases h1 : a < b
  · rw [if_pos h1]
    go_enter Tryd.func40, Tryd.ntmps40
    go_wp2_with (first | (go_at_call 58; refine (H.out _ _).mono ?_; rintro e _ ⟨rfl, rfl⟩) | fail)
    go_ret
    exact ⟨rfl, rfl⟩
  · rw [if_neg h1]
    by_cases h2 : b < a
    · rw [if_pos h2]
      go_enter Tryd.func40, Tryd.ntmps40
      go_wp2_with (first | (go_at_call 58; refine (H.out _ _).mono ?_; rintro e _ ⟨rfl, rfl⟩) | fail)
      go_ret
      exact ⟨rfl, rfl⟩
    · rw [if_neg h2]
      go_enter Tryd.func40, Tryd.ntmps40
      go_wp2_with (first | (go_at_call 58; refine (H.out _ _).mono ?_; rintro e _ ⟨rfl, rfl⟩) | fail)
      go_ret
      exact ⟨rfl, rfl⟩
theorem ext_cs (a b : ByteArray) (w : World) : (callFunc 82 #[.string a, .string b]).run Tryd.prog w = .ok (.value (.int .i64 (cS a b))) w := by
  rw [run_callFunc_extern Tryd.func82 (by kernel_rfl) (by kernel_rfl) (by kernel_rfl) (e := Extern.BytealgCompare.compare) (by kernel_rfl)]
  rw [Lib.run_compareString, cmpS]
  rfl
set_option maxRecDepth 100000 in
set_option maxHeartbeats 1000000 in
theorem cmpB_any (a b : ByteArray) (w : World) : Calls Tryd.prog 59 #[.string a, .string b] w fun e w' => e = .returned (.int .i64 (cS a b)) ∧ w' = w := by
  have hx := ext_cs a b w
  go_enter Tryd.func59, Tryd.ntmps59
  go_wp2
  go_ret
  exact ⟨rfl, rfl⟩
set_option maxRecDepth 100000 in
set_option maxHeartbeats 1000000 in
theorem cmpS_any (a b : ByteArray) (w : World) : Calls Tryd.prog 41 #[.string a, .string b] w fun e w' => e = .returned (.int .i64 (cS a b)) ∧ w' = w := by
  have H := hidMk (cmpB_any a b w)
  go_enter Tryd.func41, Tryd.ntmps41
  go_wp2_with fail
  refine H.out.mono ?_
  rintro e w1 ⟨rfl, hw⟩
  subst hw
  go_wp2
  go_ret
  exact ⟨rfl, rfl⟩
/-- The first of three numbers that is not 0. -/
def or3 (a b c : Int) : Int := if a = 0 then (if b = 0 then c else b) else a
def sel3 (a b c : Int) (k : Nat) : Int := if k = 0 then a else if k = 1 then b else c
set_option maxRecDepth 100000 in
set_option maxHeartbeats 1000000 in
theorem or_any (g : Nat) (a b c : Int) (w : World) (t : TypeId) (fr : Nat × Nat) (hg : w.heap[g]? = some (.cells #[.int .i64 a, .int .i64 b, .int .i64 c] t fr)) :
    Calls Tryd.prog 39 #[.slice (some ⟨g, 0, none⟩) 3 3] w fun e w' => e = .returned (.int .i64 (or3 a b c)) ∧ w' = w := by
  have HC : Hid (∀ k, k < 3 → w.cell? ⟨g, k, none⟩ = some (.int .i64 (sel3 a b c k))) := fun k hk => by
    rw [cell_of_row w g k _ _ _ hg]
    rcases (show k = 0 ∨ k = 1 ∨ k = 2 by omega) with rfl | rfl | rfl <;> rfl
  have HO : Hid (∀ k, k < 3 → (∀ j, j < k → sel3 a b c j = 0) → sel3 a b c k ≠ 0 → or3 a b c = sel3 a b c k) := fun k hk h1 h2 => by
    rcases (show k = 0 ∨ k = 1 ∨ k = 2 by omega) with rfl | rfl | rfl
    · simp only [sel3, if_true] at h2 ⊢; unfold or3; rw [if_neg h2]
    · have := h1 0 (by omega)
      simp [sel3] at h2 this
      simp [or3, sel3, this, h2]
    · have := h1 0 (by omega)
      have := h1 1 (by omega)
      simp_all [or3, sel3]
  have HZ : Hid ((∀ j, j < 3 → sel3 a b c j = 0) → or3 a b c = 0) := fun h => by
    have := h 0 (by omega)
    have := h 1 (by omega)
    have := h 2 (by omega)
    simp_all [or3, sel3]
  generalize or3 a b c = O at *
  clear hg
  go_enter Tryd.func39, Tryd.ntmps39
  go_wp2
  go_loopw [8] (fun i wr => ∃ k : Nat, k ≤ 3 ∧ i = .int .i64 k ∧ wr = w ∧ Hid (∀ j, j < k → sel3 a b c j = 0)) (fun i _ => 3 - (intOf i).toNat)
  case atStart => exact ⟨0, by omega, rfl, rfl, fun j hj => by omega⟩
  case round =>
    obtain ⟨k, hk, rfl, rfl, hj⟩ := hrel
    by_cases h1 : k < 3
    · have h1' : (k : Int) < 3 := by omega
      have cx := HC.out k h1
      by_cases h0 : sel3 a b c k = 0
      · have HN : Hid (∀ j, j < k + 1 → sel3 a b c j = 0) := fun j hj2 => by
          rcases Nat.lt_or_ge j k with h | h
          · exact hj.out j h
          · have : j = k := by omega
            subst this; exact h0
        generalize sel3 a b c k = X at cx h0
        subst h0
        go_wp2
        go_roundw
        case rel => exact ⟨k + 1, by omega, by go_num, by trivial, HN⟩
        case measure => simp [intOf]; omega
      · have eO : Hid (O = sel3 a b c k) := HO.out k h1 hj.out h0
        generalize sel3 a b c k = X at *
        go_wp2
        go_ret
        exact ⟨by rw [eO.out]; rfl, rfl⟩
    · have h1' : ¬ (k : Int) < 3 := by omega
      obtain rfl : k = 3 := by omega
      have eO : Hid (O = 0) := HZ.out hj.out
      clear HO HZ hj HC
      go_wp2
      go_ret
      exact ⟨by rw [eO.out]; rfl, rfl⟩
end Go.Proofs.YtifendlpeebofaaDoor

namespace Go.Proofs.YtifendlpeebofaaDoor
open Go.RowKit
set_option linter.unusedVariables false
set_option linter.unusedSimpArgs false

theorem fg_65_0 (b o : Nat) (w : World) : (Instr.fieldAt 65 (.pointer (some ⟨b, o, none⟩)) 0).run Tryd.prog w = .ok (.pointer (some ⟨b, o + 0, none⟩)) w := by go_simp
theorem fg_65_1 (b o : Nat) (w : World) : (Instr.fieldAt 65 (.pointer (some ⟨b, o, none⟩)) 1).run Tryd.prog w = .ok (.pointer (some ⟨b, o + 1, none⟩)) w := by go_simp
theorem fg_65_2 (b o : Nat) (w : World) : (Instr.fieldAt 65 (.pointer (some ⟨b, o, none⟩)) 2).run Tryd.prog w = .ok (.pointer (some ⟨b, o + 2, none⟩)) w := by go_simp
theorem exec_buildSlice3 {P : Program} {w w2 : World} {a : Act} {o : Oper} {t n : Nat} {x y z : Operand} {xv yv zv v : Value} (ho : o.op = .buildSlice t n #[(0, x), (1, y), (2, z)]) (hx : a.eval x = xv) (hy : a.eval y = yv) (hz : a.eval z = zv) (hl : (Instr.buildSlice t n #[(0, xv), (1, yv), (2, zv)]).run P w = .ok v w2) : (execOp a.eval o).run P w = .ok (.value v) w2 := by
  unfold execOp; simp only [ho, List.map_toArray, List.map_cons, List.map_nil, hx, hy, hz, Sem.run_bind, hl, Result.andThen_ok, Sem.run_pure]
theorem exec_build4 {P : Program} {w : World} {a : Act} {o : Oper} {t : TypeId} {x0 x1 x2 x3 : Operand} {v0 v1 v2 v3 v : Value} (ho : o.op = .build t #[(0, x0), (1, x1), (2, x2), (3, x3)]) (h0 : a.eval x0 = v0) (h1 : a.eval x1 = v1) (h2 : a.eval x2 = v2) (h3 : a.eval x3 = v3) (hl : (Instr.build t #[(0, v0), (1, v1), (2, v2), (3, v3)]).run P w = .ok v w) : (execOp a.eval o).run P w = .ok (.value v) w := by
  unfold execOp; simp only [ho, List.map_toArray, List.map_cons, List.map_nil, h0, h1, h2, h3, Sem.run_bind, hl, Result.andThen_ok, Sem.run_pure]
theorem ex_pnil {w : World} {a : Act} {o : Oper} {x y : Operand} {b : Nat} (ho : o.op = .binOp .eql 26 x y 26) (hx : a.eval x = .pointer (some ⟨b, 0, none⟩)) (hy : a.eval y = .pointer none) : (execOp a.eval o).run Tryd.prog w = .ok (.value (.bool false)) w := by
  refine exec_binOp ho hx hy ?_ ?_
  · first | kernel_rfl | go_simp
  · go_simp
theorem ex_neqK {a : Act} {w : World} {o : Oper} {x y : Operand} {p q : Int} {r : Bool} (ho : o.op = .binOp .neq 35 x y 35) (hx : a.eval x = .int .u8 p) (hy : a.eval y = .int .u8 q) (h : decide (p ≠ q) = r) : (execOp a.eval o).run Tryd.prog w = .ok (.value (.bool r)) w := by
  unfold execOp
  simp only [ho, hx, hy]
  subst h
  by_cases e : p = q <;> go_simp
def srt1_o0 : Oper := { dst := some 5, op := Op.fieldAddr 65 (Operand.tmp 2) 0, type := 0, pos := "tell.go:81", after := #[], guard := none }
def srt1_o1 : Oper := { dst := some 6, op := Op.load 3 (Operand.tmp 5), type := 3, pos := "tell.go:81", after := #[{ on := 0, ground := Ground.data }], guard := none }
def srt1_o2 : Oper := { dst := some 7, op := Op.fieldAddr 65 (Operand.tmp 3) 0, type := 0, pos := "tell.go:81", after := #[], guard := none }
def srt1_o3 : Oper := { dst := some 8, op := Op.load 3 (Operand.tmp 7), type := 3, pos := "tell.go:81", after := #[{ on := 2, ground := Ground.data }], guard := none }
def srt1_o4 : Oper := { dst := some 9, op := Op.call { callee := Callee.value (Operand.func 40), args := #[Operand.tmp 6, Operand.tmp 8], argTypes := #[3, 3] }, type := 3, pos := "tell.go:81", after := #[{ on := 1, ground := Ground.data }, { on := 3, ground := Ground.data }], guard := none }
def srt1_o5 : Oper := { dst := some 10, op := Op.fieldAddr 65 (Operand.tmp 2) 1, type := 0, pos := "tell.go:81", after := #[], guard := none }
def srt1_o6 : Oper := { dst := some 11, op := Op.load 3 (Operand.tmp 10), type := 3, pos := "tell.go:81", after := #[{ on := 5, ground := Ground.data }], guard := none }
def srt1_o7 : Oper := { dst := some 12, op := Op.fieldAddr 65 (Operand.tmp 3) 1, type := 0, pos := "tell.go:81", after := #[], guard := none }
def srt1_o8 : Oper := { dst := some 13, op := Op.load 3 (Operand.tmp 12), type := 3, pos := "tell.go:81", after := #[{ on := 7, ground := Ground.data }], guard := none }
def srt1_o9 : Oper := { dst := some 14, op := Op.call { callee := Callee.value (Operand.func 40), args := #[Operand.tmp 11, Operand.tmp 13], argTypes := #[3, 3] }, type := 3, pos := "tell.go:81", after := #[{ on := 6, ground := Ground.data }, { on := 8, ground := Ground.data }, { on := 4, ground := Ground.chain }], guard := none }
def srt1_o10 : Oper := { dst := some 15, op := Op.fieldAddr 65 (Operand.tmp 2) 2, type := 0, pos := "tell.go:81", after := #[], guard := none }
def srt1_o11 : Oper := { dst := some 16, op := Op.load 9 (Operand.tmp 15), type := 9, pos := "tell.go:81", after := #[{ on := 10, ground := Ground.data }], guard := none }
def srt1_o12 : Oper := { dst := some 17, op := Op.fieldAddr 65 (Operand.tmp 3) 2, type := 0, pos := "tell.go:81", after := #[], guard := none }
def srt1_o13 : Oper := { dst := some 18, op := Op.load 9 (Operand.tmp 17), type := 9, pos := "tell.go:81", after := #[{ on := 12, ground := Ground.data }], guard := none }
def srt1_o14 : Oper := { dst := some 19, op := Op.call { callee := Callee.value (Operand.func 41), args := #[Operand.tmp 16, Operand.tmp 18], argTypes := #[9, 9] }, type := 3, pos := "tell.go:81", after := #[{ on := 11, ground := Ground.data }, { on := 13, ground := Ground.data }, { on := 9, ground := Ground.chain }], guard := none }
def srt1_o15 : Oper := { dst := some 20, op := Op.buildSlice 118 3 #[(0, Operand.tmp 9), (1, Operand.tmp 14), (2, Operand.tmp 19)], type := 118, pos := "tell.go:81", after := #[{ on := 4, ground := Ground.data }, { on := 9, ground := Ground.data }, { on := 14, ground := Ground.data }], guard := none }
def srt1_o16 : Oper := { dst := some 21, op := Op.call { callee := Callee.value (Operand.func 39), args := #[Operand.tmp 20], argTypes := #[118] }, type := 3, pos := "tell.go:81", after := #[{ on := 15, ground := Ground.data }, { on := 14, ground := Ground.chain }], guard := none }
def srt1_o17 : Oper := { dst := some 4, op := Op.assign (Operand.tmp 21), type := 3, pos := "tell.go:81", after := #[{ on := 16, ground := Ground.data }, { on := 16, ground := Ground.chain }, { on := 0, ground := Ground.phase }, { on := 1, ground := Ground.phase }, { on := 2, ground := Ground.phase }, { on := 3, ground := Ground.phase }, { on := 4, ground := Ground.phase }, { on := 5, ground := Ground.phase }, { on := 6, ground := Ground.phase }, { on := 7, ground := Ground.phase }, { on := 8, ground := Ground.phase }, { on := 9, ground := Ground.phase }, { on := 10, ground := Ground.phase }, { on := 11, ground := Ground.phase }, { on := 12, ground := Ground.phase }, { on := 13, ground := Ground.phase }, { on := 14, ground := Ground.phase }, { on := 15, ground := Ground.phase }, { on := 16, ground := Ground.phase }], guard := none }
def srt1_ops : Array Oper := #[srt1_o0, srt1_o1, srt1_o2, srt1_o3, srt1_o4, srt1_o5, srt1_o6, srt1_o7, srt1_o8, srt1_o9, srt1_o10, srt1_o11, srt1_o12, srt1_o13, srt1_o14, srt1_o15, srt1_o16, srt1_o17]
set_option maxRecDepth 100000 in
set_option maxHeartbeats 4000000 in
theorem srt1 {pb qb : Nat} {p q : SpV} {x1 x2 x3 z : Int} {sv : Value} (S : World → Prop) (a : Act) (w : World) (Q : Exit → Act → World → Prop) (zz : a.tmps.size = 22)
    (t2 : a.tmps.getD 2 undef = .pointer (some ⟨pb, 0, none⟩))
    (t3 : a.tmps.getD 3 undef = .pointer (some ⟨qb, 0, none⟩))
    (h0 : S w.drew) (Lpb0 : ∀ W, S W → (Instr.loadAt 3 (.pointer (some ⟨pb, 0 + 0, none⟩))).run Tryd.prog W = .ok (.int .i64 p.fr) W) (Lpb1 : ∀ W, S W → (Instr.loadAt 3 (.pointer (some ⟨pb, 0 + 1, none⟩))).run Tryd.prog W = .ok (.int .i64 p.to) W) (Lpb2 : ∀ W, S W → (Instr.loadAt 9 (.pointer (some ⟨pb, 0 + 2, none⟩))).run Tryd.prog W = .ok (.string p.nm) W) (Lqb0 : ∀ W, S W → (Instr.loadAt 3 (.pointer (some ⟨qb, 0 + 0, none⟩))).run Tryd.prog W = .ok (.int .i64 q.fr) W) (Lqb1 : ∀ W, S W → (Instr.loadAt 3 (.pointer (some ⟨qb, 0 + 1, none⟩))).run Tryd.prog W = .ok (.int .i64 q.to) W) (Lqb2 : ∀ W, S W → (Instr.loadAt 9 (.pointer (some ⟨qb, 0 + 2, none⟩))).run Tryd.prog W = .ok (.string q.nm) W) (CA : Calls Tryd.prog 40 #[.int .i64 p.fr, .int .i64 q.fr] w.drew fun e w1 => e = .returned (.int .i64 x1) ∧ S w1 ∧ Calls Tryd.prog 40 #[.int .i64 p.to, .int .i64 q.to] w1 fun e w2 => e = .returned (.int .i64 x2) ∧ S w2 ∧ Calls Tryd.prog 41 #[.string p.nm, .string q.nm] w2 fun e w3 => e = .returned (.int .i64 x3) ∧ S w3 ∧ ∃ w4, (Instr.buildSlice 118 3 #[(0, .int .i64 x1), (1, .int .i64 x2), (2, .int .i64 x3)]).run Tryd.prog w3 = .ok sv w4 ∧ S w4 ∧ Calls Tryd.prog 39 #[sv] w4 fun e w5 => e = .returned (.int .i64 z) ∧ S w5)
    (h : ∀ (a' : Act) (w' : World), S w' → a' = ((((((((((((((((((a).put (some 5) (.pointer (some ⟨pb, 0 + 0, none⟩))).put (some 6) (.int .i64 p.fr)).put (some 7) (.pointer (some ⟨qb, 0 + 0, none⟩))).put (some 8) (.int .i64 q.fr)).put (some 10) (.pointer (some ⟨pb, 0 + 1, none⟩))).put (some 11) (.int .i64 p.to)).put (some 12) (.pointer (some ⟨qb, 0 + 1, none⟩))).put (some 13) (.int .i64 q.to)).put (some 15) (.pointer (some ⟨pb, 0 + 2, none⟩))).put (some 16) (.string p.nm)).put (some 17) (.pointer (some ⟨qb, 0 + 2, none⟩))).put (some 18) (.string q.nm)).put (some 9) (.int .i64 x1)).put (some 14) (.int .i64 x2)).put (some 19) (.int .i64 x3)).put (some 20) (sv)).put (some 21) (.int .i64 z)).put (some 4) (.int .i64 z) → Q .normal a' w') :
    (Code.region 1 srt1_ops true).wp Tryd.prog Q a w := by
  refine y0 (fun w' => S w') (h0) (fun hHeld => ?_)
  refine yv 0 rfl rfl (fun w1 hw => exec_fieldAt rfl (zi t2 rfl) (fg_65_0 _ _ _)) hHeld ?_
  refine yv 1 rfl rfl (fun w1 hw => exec_load rfl (zg zz rfl) (Lpb0 _ hw)) hHeld ?_
  refine yv 2 rfl rfl (fun w1 hw => exec_fieldAt rfl (zi t3 rfl) (fg_65_0 _ _ _)) hHeld ?_
  refine yv 3 rfl rfl (fun w1 hw => exec_load rfl (zg zz rfl) (Lqb0 _ hw)) hHeld ?_
  refine yv 5 rfl rfl (fun w1 hw => exec_fieldAt rfl (zi t2 rfl) (fg_65_1 _ _ _)) hHeld ?_
  refine yv 6 rfl rfl (fun w1 hw => exec_load rfl (zg zz rfl) (Lpb1 _ hw)) hHeld ?_
  refine yv 7 rfl rfl (fun w1 hw => exec_fieldAt rfl (zi t3 rfl) (fg_65_1 _ _ _)) hHeld ?_
  refine yv 8 rfl rfl (fun w1 hw => exec_load rfl (zg zz rfl) (Lqb1 _ hw)) hHeld ?_
  refine yv 10 rfl rfl (fun w1 hw => exec_fieldAt rfl (zi t2 rfl) (fg_65_2 _ _ _)) hHeld ?_
  refine yv 11 rfl rfl (fun w1 hw => exec_load rfl (zg zz rfl) (Lpb2 _ hw)) hHeld ?_
  refine yv 12 rfl rfl (fun w1 hw => exec_fieldAt rfl (zi t3 rfl) (fg_65_2 _ _ _)) hHeld ?_
  refine yv 13 rfl rfl (fun w1 hw => exec_load rfl (zg zz rfl) (Lqb2 _ hw)) hHeld ?_
  refine yc 4 rfl rfl (exec_c2 rfl (zg zz rfl) (zg zz rfl)) (CA) (fun e x4 hx => ?_)
  obtain ⟨rfl, S0, CB⟩ := hx
  refine ⟨_, rfl, S0, fun hHeld => ?_⟩
  refine yc 9 rfl rfl (exec_c2 rfl (zg zz rfl) (zg zz rfl)) (CB) (fun e x9 hx => ?_)
  obtain ⟨rfl, S1, CC⟩ := hx
  refine ⟨_, rfl, S1, fun hHeld => ?_⟩
  refine yc 14 rfl rfl (exec_c2 rfl (zg zz rfl) (zg zz rfl)) (CC) (fun e x14 hx => ?_)
  obtain ⟨rfl, S2, w4, EB, S3, CD⟩ := hx
  refine ⟨_, rfl, S2, fun hHeld => ?_⟩
  refine yr (v := sv) 15 rfl rfl (exec_buildSlice3 rfl (zg zz rfl) (zg zz rfl) (zg zz rfl) EB) (S3) (fun hHeld => ?_)
  refine yc 16 rfl rfl (exec_c1 rfl (zg zz rfl)) (CD) (fun e x16 hx => ?_)
  obtain ⟨rfl, S4⟩ := hx
  refine ⟨_, rfl, S4, fun hHeld => ?_⟩
  refine yv 17 rfl rfl (fun w1 hw => exec_assign rfl (zg zz rfl)) hHeld ?_
  exact ye rfl (h _ _ (S4) rfl)
def ovr1_o0 : Oper := { dst := some 13, op := Op.move (Operand.tmp 0), type := 26, pos := "tell.go:14", after := #[], guard := none }
def ovr1_o1 : Oper := { dst := some 14, op := Op.binOp BinOp.eql 26 (Operand.tmp 13) (Operand.const (Value.pointer none)) 26, type := 4, pos := "tell.go:14", after := #[{ on := 0, ground := Ground.data }], guard := none }
def ovr1_o2 : Oper := { dst := some 15, op := Op.move (Operand.tmp 14), type := 4, pos := "tell.go:14", after := #[{ on := 1, ground := Ground.data }], guard := none }
def ovr1_o3 : Oper := { dst := some 16, op := Op.move (Operand.tmp 1), type := 25, pos := "tell.go:14", after := #[{ on := 2, ground := Ground.guard }], guard := some (2, false) }
def ovr1_o4 : Oper := { dst := some 17, op := Op.load 34 (Operand.tmp 5), type := 34, pos := "tell.go:14", after := #[{ on := 2, ground := Ground.guard }], guard := some (2, false) }
def ovr1_o5 : Oper := { dst := some 18, op := Op.call { callee := Callee.value (Operand.func 17), args := #[Operand.tmp 16, Operand.tmp 17], argTypes := #[25, 34] }, type := 4, pos := "tell.go:14", after := #[{ on := 3, ground := Ground.data }, { on := 4, ground := Ground.data }, { on := 2, ground := Ground.chain }, { on := 2, ground := Ground.guard }], guard := some (2, false) }
def ovr1_o6 : Oper := { dst := some 19, op := Op.unOp UnOp.not 4 (Operand.tmp 18), type := 4, pos := "tell.go:14", after := #[{ on := 5, ground := Ground.data }, { on := 2, ground := Ground.guard }], guard := some (2, false) }
def ovr1_o7 : Oper := { dst := some 20, op := Op.pick (Operand.tmp 15) (Operand.const (Value.bool true)) (Operand.tmp 19), type := 4, pos := "tell.go:14", after := #[{ on := 2, ground := Ground.data }, { on := 6, ground := Ground.data }], guard := none }
def ovr1_ops : Array Oper := #[ovr1_o0, ovr1_o1, ovr1_o2, ovr1_o3, ovr1_o4, ovr1_o5, ovr1_o6, ovr1_o7]
set_option maxRecDepth 100000 in
set_option maxHeartbeats 4000000 in
theorem ovr1 {mb sb ib : Nat} {k : IdK} {q : Bool} (Fin : World → Prop) (a : Act) (w : World) (Q : Exit → Act → World → Prop) (zz : a.tmps.size = 58)
    (t0 : a.tmps.getD 0 undef = .pointer (some ⟨mb, 0, none⟩))
    (t1 : a.tmps.getD 1 undef = .pointer (some ⟨sb, 0, none⟩))
    (t5 : a.tmps.getD 5 undef = .pointer (some ⟨ib, 0, none⟩))
    (LI : ∀ W, W = w → (Instr.loadAt 34 (.pointer (some ⟨ib, 0, none⟩))).run Tryd.prog W = .ok (k.v) W) (CH : Calls Tryd.prog 17 #[.pointer (some ⟨sb, 0, none⟩), k.v] w fun e w' => e = .returned (.bool q) ∧ Fin w')
    (h : ∀ (a' : Act) (w' : World), Fin w' → a' = ((((((((a).put (some 13) (.pointer (some ⟨mb, 0, none⟩))).put (some 14) (.bool false)).put (some 15) (.bool false)).put (some 16) (.pointer (some ⟨sb, 0, none⟩))).put (some 17) (k.v)).put (some 18) (.bool q)).put (some 19) (.bool (!q))).put (some 20) (.bool (!q)) → Q .normal a' w') :
    (Code.region 1 ovr1_ops false).wp Tryd.prog Q a w := by
  refine z0 rfl ?_
  refine zv rfl (exec_move rfl (zi t0 rfl)) ?_
  refine zv (v := .bool false) rfl (ex_pnil rfl (zg zz rfl) rfl) ?_
  refine zv rfl (exec_move rfl (zg zz rfl)) ?_
  refine zv (zw zz rfl rfl rfl (zg zz rfl)) (exec_move rfl (zi t1 rfl)) ?_
  refine zv (zw zz rfl rfl rfl (zg zz rfl)) (exec_load rfl (zi t5 rfl) (LI _ rfl)) ?_
  refine zc (zw zz rfl rfl rfl (zg zz rfl)) (exec_c2 rfl (zg zz rfl) (zg zz rfl)) (CH) (fun e x5 hx => ?_)
  obtain ⟨rfl, HF⟩ := hx
  refine ⟨_, rfl, ?_⟩
  refine zv (zw zz rfl rfl rfl (zg zz rfl)) (exec_not rfl (zg zz rfl)) ?_
  refine zv rfl (exec_pickF rfl (zg zz rfl) (zg zz rfl)) ?_
  exact ze rfl (h _ _ (HF) rfl)
def ovr3_o0 : Oper := { dst := some 21, op := Op.move (Operand.tmp 1), type := 25, pos := "tell.go:17", after := #[], guard := none }
def ovr3_o1 : Oper := { dst := some 22, op := Op.load 34 (Operand.tmp 5), type := 34, pos := "tell.go:17", after := #[], guard := none }
def ovr3_o2 : Oper := { dst := some 23, op := Op.call { callee := Callee.value (Operand.func 18), args := #[Operand.tmp 21, Operand.tmp 22], argTypes := #[25, 34] }, type := 3, pos := "tell.go:17", after := #[{ on := 0, ground := Ground.data }, { on := 1, ground := Ground.data }], guard := none }
def ovr3_o3 : Oper := { dst := some 7, op := Op.assign (Operand.tmp 23), type := 3, pos := "tell.go:17", after := #[{ on := 2, ground := Ground.data }, { on := 2, ground := Ground.chain }, { on := 0, ground := Ground.phase }, { on := 1, ground := Ground.phase }, { on := 2, ground := Ground.phase }], guard := none }
def ovr3_ops : Array Oper := #[ovr3_o0, ovr3_o1, ovr3_o2, ovr3_o3]
set_option maxRecDepth 100000 in
set_option maxHeartbeats 4000000 in
theorem ovr3 {sb ib : Nat} {k : IdK} {rk : Int} (Fin : World → Prop) (a : Act) (w : World) (Q : Exit → Act → World → Prop) (zz : a.tmps.size = 58)
    (t1 : a.tmps.getD 1 undef = .pointer (some ⟨sb, 0, none⟩))
    (t5 : a.tmps.getD 5 undef = .pointer (some ⟨ib, 0, none⟩))
    (LI : ∀ W, W = w → (Instr.loadAt 34 (.pointer (some ⟨ib, 0, none⟩))).run Tryd.prog W = .ok (k.v) W) (CR : Calls Tryd.prog 18 #[.pointer (some ⟨sb, 0, none⟩), k.v] w fun e w' => e = .returned (.int .i64 rk) ∧ Fin w')
    (h : ∀ (a' : Act) (w' : World), Fin w' → a' = ((((a).put (some 21) (.pointer (some ⟨sb, 0, none⟩))).put (some 22) (k.v)).put (some 23) (.int .i64 rk)).put (some 7) (.int .i64 rk) → Q .normal a' w') :
    (Code.region 3 ovr3_ops false).wp Tryd.prog Q a w := by
  refine z0 rfl ?_
  refine zv rfl (exec_move rfl (zi t1 rfl)) ?_
  refine zv rfl (exec_load rfl (zi t5 rfl) (LI _ rfl)) ?_
  refine zc rfl (exec_c2 rfl (zg zz rfl) (zg zz rfl)) (CR) (fun e x2 hx => ?_)
  obtain ⟨rfl, HF⟩ := hx
  refine ⟨_, rfl, ?_⟩
  refine zv rfl (exec_assign rfl (zg zz rfl)) ?_
  exact ze rfl (h _ _ (HF) rfl)
def ovr4_o0 : Oper := { dst := some 24, op := Op.move (Operand.tmp 1), type := 25, pos := "tell.go:18", after := #[], guard := none }
def ovr4_o1 : Oper := { dst := some 25, op := Op.move (Operand.tmp 7), type := 3, pos := "tell.go:18", after := #[], guard := none }
def ovr4_o2 : Oper := { dst := some 26, op := Op.call { callee := Callee.value (Operand.func 19), args := #[Operand.tmp 24, Operand.tmp 25], argTypes := #[25, 3] }, type := 3, pos := "tell.go:18", after := #[{ on := 0, ground := Ground.data }, { on := 1, ground := Ground.data }], guard := none }
def ovr4_o3 : Oper := { dst := some 27, op := Op.move (Operand.tmp 1), type := 25, pos := "tell.go:18", after := #[], guard := none }
def ovr4_o4 : Oper := { dst := some 28, op := Op.move (Operand.tmp 7), type := 3, pos := "tell.go:18", after := #[], guard := none }
def ovr4_o5 : Oper := { dst := some 29, op := Op.binOp BinOp.add 3 (Operand.tmp 28) (Operand.const (Value.int IntKind.i64 1)) 3, type := 3, pos := "tell.go:18", after := #[{ on := 4, ground := Ground.data }], guard := none }
def ovr4_o6 : Oper := { dst := some 30, op := Op.call { callee := Callee.value (Operand.func 19), args := #[Operand.tmp 27, Operand.tmp 29], argTypes := #[25, 3] }, type := 3, pos := "tell.go:18", after := #[{ on := 3, ground := Ground.data }, { on := 5, ground := Ground.data }, { on := 2, ground := Ground.chain }], guard := none }
def ovr4_o7 : Oper := { dst := some 8, op := Op.assign (Operand.tmp 26), type := 3, pos := "tell.go:18", after := #[{ on := 2, ground := Ground.data }, { on := 6, ground := Ground.chain }, { on := 0, ground := Ground.phase }, { on := 1, ground := Ground.phase }, { on := 2, ground := Ground.phase }, { on := 3, ground := Ground.textOnly Departure.lateStores }, { on := 4, ground := Ground.textOnly Departure.lateStores }, { on := 5, ground := Ground.textOnly Departure.lateStores }, { on := 6, ground := Ground.textOnly Departure.lateStoresUnsure }], guard := none }
def ovr4_o8 : Oper := { dst := some 9, op := Op.assign (Operand.tmp 30), type := 3, pos := "tell.go:18", after := #[{ on := 6, ground := Ground.data }, { on := 7, ground := Ground.chain }, { on := 0, ground := Ground.phase }, { on := 1, ground := Ground.phase }, { on := 2, ground := Ground.phase }, { on := 3, ground := Ground.phase }, { on := 4, ground := Ground.phase }, { on := 5, ground := Ground.phase }, { on := 6, ground := Ground.phase }, { on := 7, ground := Ground.phase }], guard := none }
def ovr4_ops : Array Oper := #[ovr4_o0, ovr4_o1, ovr4_o2, ovr4_o3, ovr4_o4, ovr4_o5, ovr4_o6, ovr4_o7, ovr4_o8]
set_option maxRecDepth 100000 in
set_option maxHeartbeats 4000000 in
theorem ovr4 {sb : Nat} {rk f t : Int} (Fin : World → Prop) (a : Act) (w : World) (Q : Exit → Act → World → Prop) (zz : a.tmps.size = 58)
    (t1 : a.tmps.getD 1 undef = .pointer (some ⟨sb, 0, none⟩))
    (t7 : a.tmps.getD 7 undef = .int .i64 rk)
    (hb : -9223372036854775808 ≤ rk + 1 ∧ rk + 1 ≤ 9223372036854775807) (CI : Calls Tryd.prog 19 #[.pointer (some ⟨sb, 0, none⟩), .int .i64 rk] w fun e w1 => e = .returned (.int .i64 f) ∧ Calls Tryd.prog 19 #[.pointer (some ⟨sb, 0, none⟩), .int .i64 (rk + 1)] w1 fun e w' => e = .returned (.int .i64 t) ∧ Fin w')
    (h : ∀ (a' : Act) (w' : World), Fin w' → a' = (((((((((a).put (some 24) (.pointer (some ⟨sb, 0, none⟩))).put (some 25) (.int .i64 rk)).put (some 26) (.int .i64 f)).put (some 27) (.pointer (some ⟨sb, 0, none⟩))).put (some 28) (.int .i64 rk)).put (some 29) (.int .i64 (rk + 1))).put (some 30) (.int .i64 t)).put (some 8) (.int .i64 f)).put (some 9) (.int .i64 t) → Q .normal a' w') :
    (Code.region 4 ovr4_ops false).wp Tryd.prog Q a w := by
  refine z0 rfl ?_
  refine zv rfl (exec_move rfl (zi t1 rfl)) ?_
  refine zv rfl (exec_move rfl (zi t7 rfl)) ?_
  refine zc rfl (exec_c2 rfl (zg zz rfl) (zg zz rfl)) (CI) (fun e x2 hx => ?_)
  obtain ⟨rfl, CJ⟩ := hx
  refine ⟨_, rfl, ?_⟩
  refine zv rfl (exec_move rfl (zi t1 rfl)) ?_
  refine zv rfl (exec_move rfl (zi t7 rfl)) ?_
  refine zv (v := .int .i64 (rk + 1)) rfl (ex_add rfl (zg zz rfl) rfl hb) ?_
  refine zc rfl (exec_c2 rfl (zg zz rfl) (zg zz rfl)) (CJ) (fun e x6 hx => ?_)
  obtain ⟨rfl, HF⟩ := hx
  refine ⟨_, rfl, ?_⟩
  refine zv rfl (exec_assign rfl (zg zz rfl)) ?_
  refine zv rfl (exec_assign rfl (zg zz rfl)) ?_
  exact ze rfl (h _ _ (HF) rfl)
def ovr6_o0 : Oper := { dst := some 31, op := Op.move (Operand.tmp 0), type := 26, pos := "tell.go:20", after := #[], guard := none }
def ovr6_o1 : Oper := { dst := some 32, op := Op.move (Operand.tmp 1), type := 25, pos := "tell.go:20", after := #[], guard := none }
def ovr6_o2 : Oper := { dst := some 33, op := Op.move (Operand.tmp 7), type := 3, pos := "tell.go:20", after := #[], guard := none }
def ovr6_o3 : Oper := { dst := some 34, op := Op.call { callee := Callee.value (Operand.func 20), args := #[Operand.tmp 31, Operand.tmp 32, Operand.tmp 33], argTypes := #[26, 25, 3] }, type := 54, pos := "tell.go:20", after := #[{ on := 0, ground := Ground.data }, { on := 1, ground := Ground.data }, { on := 2, ground := Ground.data }], guard := none }
def ovr6_o4 : Oper := { dst := some 35, op := Op.call { callee := Callee.builtin Builtin.len, args := #[Operand.tmp 34], argTypes := #[54] }, type := 3, pos := "tell.go:20", after := #[{ on := 3, ground := Ground.data }], guard := none }
def ovr6_o5 : Oper := { dst := some 36, op := Op.move (Operand.const (Value.int IntKind.i64 0)), type := 3, pos := "tell.go:20", after := #[], guard := none }
def ovr6_ops : Array Oper := #[ovr6_o0, ovr6_o1, ovr6_o2, ovr6_o3, ovr6_o4, ovr6_o5]
set_option maxRecDepth 100000 in
set_option maxHeartbeats 4000000 in
theorem ovr6 {mb sb : Nat} {rk : Int} (Fin : Option Addr → Nat → Nat → World → Prop) (a : Act) (w : World) (Q : Exit → Act → World → Prop) (zz : a.tmps.size = 58)
    (t0 : a.tmps.getD 0 undef = .pointer (some ⟨mb, 0, none⟩))
    (t1 : a.tmps.getD 1 undef = .pointer (some ⟨sb, 0, none⟩))
    (t7 : a.tmps.getD 7 undef = .int .i64 rk)
    (CC : Calls Tryd.prog 20 #[.pointer (some ⟨mb, 0, none⟩), .pointer (some ⟨sb, 0, none⟩), .int .i64 rk] w fun e w' => ∃ la n c, e = .returned (.slice la n c) ∧ Fin la n c w')
    (h : ∀ (la : Option Addr) (n c : Nat) (a' : Act) (w' : World), Fin la n c w' → a' = ((((((a).put (some 31) (.pointer (some ⟨mb, 0, none⟩))).put (some 32) (.pointer (some ⟨sb, 0, none⟩))).put (some 33) (.int .i64 rk)).put (some 34) (.slice la n c)).put (some 35) (.int .i64 (n : Int))).put (some 36) (.int .i64 0) → Q .normal a' w') :
    (Code.region 6 ovr6_ops false).wp Tryd.prog Q a w := by
  refine z0 rfl ?_
  refine zv rfl (exec_move rfl (zi t0 rfl)) ?_
  refine zv rfl (exec_move rfl (zi t1 rfl)) ?_
  refine zv rfl (exec_move rfl (zi t7 rfl)) ?_
  refine zc rfl (exec_c3 rfl (zg zz rfl) (zg zz rfl) (zg zz rfl)) (CC) (fun e x3 hx => ?_)
  obtain ⟨la, n, c, rfl, HF⟩ := hx
  replace h := h la n c
  refine ⟨_, rfl, ?_⟩
  refine zv rfl (exec_len rfl (zg zz rfl) (len_mk _ _ _ _)) ?_
  refine zv rfl (exec_move rfl rfl) ?_
  exact ze rfl (h _ _ (HF) rfl)
def ovr8_o0 : Oper := { dst := some 38, op := Op.indexAddr 54 (Operand.tmp 34) (Operand.tmp 36), type := 0, pos := "tell.go:20", after := #[], guard := none }
def ovr8_o1 : Oper := { dst := some 39, op := Op.load 59 (Operand.tmp 38), type := 59, pos := "tell.go:20", after := #[{ on := 0, ground := Ground.data }], guard := none }
def ovr8_o2 : Oper := { dst := some 12, op := Op.alloc 59, type := 0, pos := "tell.go:20", after := #[], guard := none }
def ovr8_o3 : Oper := { dst := none, op := Op.store 59 (Operand.tmp 12) (Operand.tmp 39), type := 0, pos := "tell.go:20", after := #[{ on := 2, ground := Ground.data }, { on := 1, ground := Ground.data }, { on := 0, ground := Ground.phase }, { on := 1, ground := Ground.phase }, { on := 2, ground := Ground.phase }], guard := none }
def ovr8_ops : Array Oper := #[ovr8_o0, ovr8_o1, ovr8_o2, ovr8_o3]
set_option maxRecDepth 100000 in
set_option maxHeartbeats 4000000 in
theorem ovr8 {g o n c i eb : Nat} {x : MkV} {w1 w2 : World} (a : Act) (w : World) (Q : Exit → Act → World → Prop) (zz : a.tmps.size = 58)
    (t34 : a.tmps.getD 34 undef = .slice (some ⟨g, o, none⟩) n c)
    (t36 : a.tmps.getD 36 undef = .int .i64 (i : Int))
    (hi : i < n) (hm : n ≤ 9223372036854775807) (LX : (Instr.loadAt 59 (.pointer (some ⟨g, o + 105 * i, none⟩))).run Tryd.prog w = .ok x.a w) (EA : (Instr.alloc 59 true (.tuple #[])).run Tryd.prog w = .ok (.pointer (some ⟨eb, 0, none⟩)) w1) (ES : (Instr.storeAt 59 (.pointer (some ⟨eb, 0, none⟩)) x.a).run Tryd.prog w1 = .ok () w2)
    (h : ∀ (a' : Act) (w' : World), w' = w2 → a' = (((a).put (some 38) (.pointer (some ⟨g, o + 105 * i, none⟩))).put (some 39) (x.a)).put (some 12) (.pointer (some ⟨eb, 0, none⟩)) → Q .normal a' w') :
    (Code.region 8 ovr8_ops false).wp Tryd.prog Q a w := by
  refine z0 rfl ?_
  refine zv rfl (exec_indexAt rfl (zi t34 rfl) (zi t36 rfl) (ix_mk hi hm _)) ?_
  refine zv rfl (exec_load rfl (zg zz rfl) LX) ?_
  refine zv (v := .pointer (some ⟨eb, 0, none⟩)) rfl (exec_alloc rfl EA) ?_
  refine zs rfl (exec_store rfl (zg zz rfl) (zg zz rfl) ES) ?_
  exact ze rfl (h _ _ (rfl) rfl)
def ovr9_o0 : Oper := { dst := some 40, op := Op.fieldAddr 59 (Operand.tmp 12) 2, type := 0, pos := "tell.go:21", after := #[], guard := none }
def ovr9_o1 : Oper := { dst := some 41, op := Op.fieldAddr 38 (Operand.tmp 40) 0, type := 0, pos := "tell.go:21", after := #[{ on := 0, ground := Ground.data }], guard := none }
def ovr9_o2 : Oper := { dst := some 42, op := Op.load 35 (Operand.tmp 41), type := 35, pos := "tell.go:21", after := #[{ on := 1, ground := Ground.data }], guard := none }
def ovr9_o3 : Oper := { dst := some 43, op := Op.binOp BinOp.neq 35 (Operand.tmp 42) (Operand.const (Value.int IntKind.u8 0)) 35, type := 4, pos := "tell.go:21", after := #[{ on := 2, ground := Ground.data }], guard := none }
def ovr9_ops : Array Oper := #[ovr9_o0, ovr9_o1, ovr9_o2, ovr9_o3]
set_option maxRecDepth 100000 in
set_option maxHeartbeats 4000000 in
theorem ovr9 {eb : Nat} {x : MkV} {z : Bool} (a : Act) (w : World) (Q : Exit → Act → World → Prop) (zz : a.tmps.size = 58)
    (t12 : a.tmps.getD 12 undef = .pointer (some ⟨eb, 0, none⟩))
    (hz : decide (x.v.k ≠ 0) = z) (LK : (Instr.loadAt 35 (.pointer (some ⟨eb, 0 + 34 + 0, none⟩))).run Tryd.prog w = .ok (.int .u8 x.v.k) w)
    (h : ∀ (a' : Act) (w' : World), w' = w → a' = ((((a).put (some 40) (.pointer (some ⟨eb, 0 + 34, none⟩))).put (some 41) (.pointer (some ⟨eb, 0 + 34 + 0, none⟩))).put (some 42) (.int .u8 x.v.k)).put (some 43) (.bool z) → Q .normal a' w') :
    (Code.region 9 ovr9_ops false).wp Tryd.prog Q a w := by
  refine z0 rfl ?_
  refine zv rfl (exec_fieldAt rfl (zi t12 rfl) (fg_59_2 _ _ _)) ?_
  refine zv rfl (exec_fieldAt rfl (zg zz rfl) (fg_38_0 _ _ _)) ?_
  refine zv rfl (exec_load rfl (zg zz rfl) LK) ?_
  refine zv (v := .bool z) rfl (ex_neqK rfl (zg zz rfl) rfl hz) ?_
  exact ze rfl (h _ _ (rfl) rfl)
def ovr10_o0 : Oper := { dst := some 44, op := Op.move (Operand.tmp 10), type := 39, pos := "tell.go:22", after := #[], guard := none }
def ovr10_o1 : Oper := { dst := some 45, op := Op.move (Operand.tmp 8), type := 3, pos := "tell.go:22", after := #[], guard := none }
def ovr10_o2 : Oper := { dst := some 46, op := Op.move (Operand.tmp 9), type := 3, pos := "tell.go:22", after := #[], guard := none }
def ovr10_o3 : Oper := { dst := some 47, op := Op.fieldAddr 59 (Operand.tmp 12) 1, type := 0, pos := "tell.go:22", after := #[], guard := none }
def ovr10_o4 : Oper := { dst := some 48, op := Op.load 9 (Operand.tmp 47), type := 9, pos := "tell.go:22", after := #[{ on := 3, ground := Ground.data }], guard := none }
def ovr10_o5 : Oper := { dst := some 49, op := Op.fieldAddr 59 (Operand.tmp 12) 2, type := 0, pos := "tell.go:22", after := #[], guard := none }
def ovr10_o6 : Oper := { dst := some 50, op := Op.load 38 (Operand.tmp 49), type := 38, pos := "tell.go:22", after := #[{ on := 5, ground := Ground.data }], guard := none }
def ovr10_o7 : Oper := { dst := some 51, op := Op.build 65 #[(0, Operand.tmp 45), (1, Operand.tmp 46), (2, Operand.tmp 48), (3, Operand.tmp 50)], type := 65, pos := "tell.go:22", after := #[{ on := 1, ground := Ground.data }, { on := 2, ground := Ground.data }, { on := 4, ground := Ground.data }, { on := 6, ground := Ground.data }], guard := none }
def ovr10_o8 : Oper := { dst := some 52, op := Op.buildSlice 39 1 #[(0, Operand.tmp 51)], type := 39, pos := "tell.go:22", after := #[{ on := 7, ground := Ground.data }], guard := none }
def ovr10_o9 : Oper := { dst := some 53, op := Op.call { callee := Callee.builtin Builtin.append, args := #[Operand.tmp 44, Operand.tmp 52], argTypes := #[39, 39] }, type := 39, pos := "tell.go:22", after := #[{ on := 0, ground := Ground.data }, { on := 8, ground := Ground.data }], guard := none }
def ovr10_o10 : Oper := { dst := some 10, op := Op.assign (Operand.tmp 53), type := 39, pos := "tell.go:22", after := #[{ on := 9, ground := Ground.data }, { on := 9, ground := Ground.chain }, { on := 0, ground := Ground.phase }, { on := 1, ground := Ground.phase }, { on := 2, ground := Ground.phase }, { on := 3, ground := Ground.phase }, { on := 4, ground := Ground.phase }, { on := 5, ground := Ground.phase }, { on := 6, ground := Ground.phase }, { on := 7, ground := Ground.phase }, { on := 8, ground := Ground.phase }, { on := 9, ground := Ground.phase }], guard := none }
def ovr10_ops : Array Oper := #[ovr10_o0, ovr10_o1, ovr10_o2, ovr10_o3, ovr10_o4, ovr10_o5, ovr10_o6, ovr10_o7, ovr10_o8, ovr10_o9, ovr10_o10]
set_option maxRecDepth 100000 in
set_option maxHeartbeats 4000000 in
theorem ovr10 {eb : Nat} {f t : Int} {x : MkV} {u sv u2 : Value} {w1 w2 : World} (a : Act) (w : World) (Q : Exit → Act → World → Prop) (zz : a.tmps.size = 58)
    (t8 : a.tmps.getD 8 undef = .int .i64 f)
    (t9 : a.tmps.getD 9 undef = .int .i64 t)
    (t10 : a.tmps.getD 10 undef = u)
    (t12 : a.tmps.getD 12 undef = .pointer (some ⟨eb, 0, none⟩))
    (LN : (Instr.loadAt 9 (.pointer (some ⟨eb, 0 + 33, none⟩))).run Tryd.prog w = .ok (.string x.nm) w) (LV : (Instr.loadAt 38 (.pointer (some ⟨eb, 0 + 34, none⟩))).run Tryd.prog w = .ok x.v.v w) (EB : (Instr.buildSlice 39 1 #[(0, SpV.a ⟨f, t, x.nm, x.v⟩)]).run Tryd.prog w = .ok sv w1) (EA : (Builtin.append_ #[39, 39] 39 #[u, sv]).run Tryd.prog w1 = .ok u2 w2)
    (h : ∀ (a' : Act) (w' : World), w' = w2 → a' = (((((((((((a).put (some 44) (u)).put (some 45) (.int .i64 f)).put (some 46) (.int .i64 t)).put (some 47) (.pointer (some ⟨eb, 0 + 33, none⟩))).put (some 48) (.string x.nm)).put (some 49) (.pointer (some ⟨eb, 0 + 34, none⟩))).put (some 50) (x.v.v)).put (some 51) (SpV.a ⟨f, t, x.nm, x.v⟩)).put (some 52) (sv)).put (some 53) (u2)).put (some 10) (u2) → Q .normal a' w') :
    (Code.region 10 ovr10_ops false).wp Tryd.prog Q a w := by
  refine z0 rfl ?_
  refine zv rfl (exec_move rfl (zi t10 rfl)) ?_
  refine zv rfl (exec_move rfl (zi t8 rfl)) ?_
  refine zv rfl (exec_move rfl (zi t9 rfl)) ?_
  refine zv rfl (exec_fieldAt rfl (zi t12 rfl) (fg_59_1 _ _ _)) ?_
  refine zv rfl (exec_load rfl (zg zz rfl) LN) ?_
  refine zv rfl (exec_fieldAt rfl (zi t12 rfl) (fg_59_2 _ _ _)) ?_
  refine zv rfl (exec_load rfl (zg zz rfl) LV) ?_
  refine zv rfl (exec_build4 rfl (zg zz rfl) (zg zz rfl) (zg zz rfl) (zg zz rfl) (build_span _ _ _ _ _)) ?_
  refine zv (v := sv) rfl (exec_buildSlice rfl (zg zz rfl) EB) ?_
  refine zv (v := u2) rfl (exec_append rfl (zg zz rfl) (zg zz rfl) EA) ?_
  refine zv rfl (exec_assign rfl (zg zz rfl)) ?_
  exact ze rfl (h _ _ (rfl) rfl)
end Go.Proofs.YtifendlpeebofaaDoor

namespace Go.Proofs.YtifendlpeebofaaDoor
open Go.RowKit
set_option linter.unusedVariables false
set_option linter.unusedSimpArgs false

/-- How two runs stand. -/
def cSp (p q : SpV) : Int := or3 (cI p.fr q.fr) (cI p.to q.to) (cS p.nm q.nm)
theorem to_cSp : TO cSp := by
  have h := to_cI.lex (to_cI.lex to_cS)
  exact ⟨fun a b => h.anti (a.fr, a.to, a.nm) (b.fr, b.to, b.nm), fun a b d => h.le (a.fr, a.to, a.nm) (b.fr, b.to, b.nm) (d.fr, d.to, d.nm), fun a b d => h.lt (a.fr, a.to, a.nm) (b.fr, b.to, b.nm) (d.fr, d.to, d.nm)⟩
section
variable {W : World} {b : Nat} {x : SpV}
theorem sp_fr (h : RSp.Bx W b x) : (Instr.loadAt 3 (.pointer (some ⟨b, 0 + 0, none⟩))).run Tryd.prog W = .ok (.int .i64 x.fr) W := by
  have hc : W.cell? ⟨b, 0, none⟩ = some (.int .i64 x.fr) := (cell_of_row W b 0 _ _ _ h).trans rfl
  go_simp
theorem sp_to (h : RSp.Bx W b x) : (Instr.loadAt 3 (.pointer (some ⟨b, 0 + 1, none⟩))).run Tryd.prog W = .ok (.int .i64 x.to) W := by
  have hc : W.cell? ⟨b, 1, none⟩ = some (.int .i64 x.to) := (cell_of_row W b 1 _ _ _ h).trans rfl
  go_simp
theorem sp_nm (h : RSp.Bx W b x) : (Instr.loadAt 9 (.pointer (some ⟨b, 0 + 2, none⟩))).run Tryd.prog W = .ok (.string x.nm) W := by
  have hc : W.cell? ⟨b, 2, none⟩ = some (.string x.nm) := (cell_of_row W b 2 _ _ _ h).trans rfl
  go_simp
end
theorem run_bs3 (a b c : Int) (w : World) : (Instr.buildSlice 118 3 #[(0, .int .i64 a), (1, .int .i64 b), (2, .int .i64 c)]).run Tryd.prog w = .ok (.slice (some ⟨w.heap.size, 0, none⟩) 3 3) (w.alloc (.cells #[.int .i64 a, .int .i64 b, .int .i64 c] 3)) := by
  kernel_rfl
set_option maxRecDepth 100000 in
set_option maxHeartbeats 4000000 in
theorem cmpSp_any (p q : SpV) (w : World) : Calls Tryd.prog 38 #[p.a, q.a] w fun e w' => e = .returned (.int .i64 (cSp p q)) ∧ Below w.heap.size w w' ∧ w.drawn ≤ w'.drawn := by
  obtain ⟨W, hW⟩ : ∃ W, (w.alloc (.cells p.c.toArray 65)).alloc (.cells q.c.toArray 65) = W := ⟨_, rfl⟩
  have zW : W.heap.size = w.heap.size + 2 := by rw [← hW]; simp
  have S0 : Hid (RSp.Bx W w.heap.size p ∧ RSp.Bx W (w.heap.size + 1) q ∧ Below w.heap.size w W ∧ w.drawn ≤ W.drawn) := by
    refine ⟨?_, ?_, ?_, ?_⟩
    · rw [← hW]
      show _ = _
      rw [Below.heap_alloc _ _ _ (by simp)]; exact heap_alloc_new _ _
    · rw [← hW]
      have := heap_alloc_new (w.alloc (.cells p.c.toArray 65)) (.cells q.c.toArray 65)
      rw [show (w.alloc (.cells p.c.toArray 65)).heap.size = w.heap.size + 1 by simp] at this
      exact this
    · rw [← hW]; exact ((Below.refl _ _).alloc (Nat.le_refl _) _).alloc (by simp) _
    · rw [← hW]; exact Nat.le_refl _
  have HK : Hid (∀ {X : World} {v : Array Value} {t : TypeId}, (RSp.Bx X w.heap.size p ∧ RSp.Bx X (w.heap.size + 1) q ∧ Below w.heap.size w X ∧ w.drawn ≤ X.drawn) → (RSp.Bx (X.alloc (.cells v t)) w.heap.size p ∧ RSp.Bx (X.alloc (.cells v t)) (w.heap.size + 1) q ∧ Below w.heap.size w (X.alloc (.cells v t)) ∧ w.drawn ≤ (X.alloc (.cells v t)).drawn)) := fun {X v t} h => by
    have b : Below X.heap.size X (X.alloc (.cells v t)) := (Below.refl _ _).alloc (Nat.le_refl _) _
    exact ⟨h.1.below b, h.2.1.below b, h.2.2.1.trans (b.mono h.2.2.1.size), h.2.2.2⟩
  have HX := hidMk hW
  clear hW
  unfold SpV.a
  go_enter Tryd.func38, Tryd.ntmps38
  go_upto_region 1 with fail
  rw [HX.out]
  clear HX
  have D0 : Hid (RSp.Bx W.drew w.heap.size p ∧ RSp.Bx W.drew (w.heap.size + 1) q ∧ Below w.heap.size w W.drew ∧ w.drawn ≤ W.drew.drawn) := ⟨S0.out.1, S0.out.2.1, S0.out.2.2.1.drew, Nat.le_trans S0.out.2.2.2 (Nat.le_succ _)⟩
  refine srt1 (p := p) (q := q) (pb := w.heap.size) (qb := w.heap.size + 1) (x1 := cI p.fr q.fr) (x2 := cI p.to q.to) (x3 := cS p.nm q.nm) (z := cSp p q) (sv := .slice (some ⟨W.drew.heap.size, 0, none⟩) 3 3) (fun X => RSp.Bx X w.heap.size p ∧ RSp.Bx X (w.heap.size + 1) q ∧ Below w.heap.size w X ∧ w.drawn ≤ X.drawn) _ W _ rfl rfl rfl D0.out
    (fun X h => sp_fr h.1) (fun X h => sp_to h.1) (fun X h => sp_nm h.1) (fun X h => sp_fr h.2.1) (fun X h => sp_to h.2.1) (fun X h => sp_nm h.2.1) ((cmpN _ _ _).mono ?_) ?_
  · rintro e _ ⟨rfl, rfl⟩
    refine ⟨rfl, D0.out, (cmpN _ _ _).mono ?_⟩
    rintro e _ ⟨rfl, rfl⟩
    refine ⟨rfl, D0.out, (cmpS_any _ _ _).mono ?_⟩
    rintro e _ ⟨rfl, rfl⟩
    refine ⟨rfl, D0.out, _, run_bs3 _ _ _ _, HK.out D0.out, (or_any W.drew.heap.size _ _ _ _ 3 (0, 0) (heap_alloc_new _ _)).mono ?_⟩
    rintro e _ ⟨rfl, rfl⟩
    exact ⟨rfl, HK.out D0.out⟩
  intro a' w2 hf ha
  subst ha
  simp only [Act.put, List.setIfInBounds_toArray, List.set_cons_zero, List.set_cons_succ]
  have HF := hidMk hf
  clear hf D0 S0 HK zW
  go_wp2
  go_ret
  exact ⟨rfl, HF.out.2.2.1, HF.out.2.2.2⟩
def SdS (L : List SpV) : Prop := L.Pairwise fun x y => cSp x y ≤ 0
/-- What sorting a list in a block of one's own does. -/
def SrtS (W : World) (base : Nat) (v : Value) (L : List SpV) (e : Ending) (w' : World) : Prop := e = .returned (.tuple #[]) ∧ ∃ L', L'.Perm L ∧ SdS L' ∧ RSp.Lo w' base v L' ∧ Tch (fun j => v.ownBlock = some j) W w'
end Go.Proofs.YtifendlpeebofaaDoor

namespace Go.Proofs.YtifendlpeebofaaDoor
open Go.Shelf
def sortLays_ren : Go.Shelf.Ren := ⟨fun | 6 => 37 | 15 => 57 | 14 => 56 | 28 => 80 | 29 => 81 | 20 => 72 | 21 => 73 | 22 => 74 | 23 => 75 | 24 => 76 | 25 => 77 | 26 => 78 | 27 => 79 | 46 => 89 | 47 => 90 | 48 => 91 | 49 => 92 | 50 => 93 | 57 => 97 | n => n, fun | 22 => 39 | 24 => 65 | 25 => 100 | 3 => 3 | 39 => 117 | 0 => 0 | 53 => 135 | 55 => 107 | 4 => 4 | 46 => 129 | 45 => 128 | 50 => 113 | 5 => 5 | 9 => 9 | 66 => 139 | 70 => 143 | 76 => 148 | 77 => 94 | n => n, fun | n => n⟩
theorem sortLays : Go.Proofs.SlLaysF0.n6 Tryd.prog sortLays_ren := {
  mixed := by kernel_rfl
  f6 := ⟨Tryd.f37.name, by decide, Tryd.func37.trans (congrArg some (by kernel_rfl))⟩
  f14 := ⟨Tryd.f56.name, by decide, Tryd.func56.trans (congrArg some (by kernel_rfl))⟩
  f15 := Tryd.func57.trans (congrArg some (by kernel_rfl))
  f20 := ⟨Tryd.f72.name, by decide, Tryd.func72.trans (congrArg some (by kernel_rfl))⟩
  f21 := ⟨Tryd.f73.name, by decide, Tryd.func73.trans (congrArg some (by kernel_rfl))⟩
  f22 := ⟨Tryd.f74.name, by decide, Tryd.func74.trans (congrArg some (by kernel_rfl))⟩
  f23 := ⟨Tryd.f75.name, by decide, Tryd.func75.trans (congrArg some (by kernel_rfl))⟩
  f24 := ⟨Tryd.f76.name, by decide, Tryd.func76.trans (congrArg some (by kernel_rfl))⟩
  f25 := ⟨Tryd.f77.name, by decide, Tryd.func77.trans (congrArg some (by kernel_rfl))⟩
  f26 := ⟨Tryd.f78.name, by decide, Tryd.func78.trans (congrArg some (by kernel_rfl))⟩
  f27 := ⟨Tryd.f79.name, by decide, Tryd.func79.trans (congrArg some (by kernel_rfl))⟩
  f28 := Tryd.func80.trans (congrArg some (by kernel_rfl))
  f29 := Tryd.func81.trans (congrArg some (by kernel_rfl))
  f46 := ⟨Tryd.f89.name, by decide, Tryd.func89.trans (congrArg some (by kernel_rfl))⟩
  f47 := Tryd.func90.trans (congrArg some (by kernel_rfl))
  f48 := Tryd.func91.trans (congrArg some (by kernel_rfl))
  f49 := ⟨Tryd.f92.name, by decide, Tryd.func92.trans (congrArg some (by kernel_rfl))⟩
  f50 := ⟨Tryd.f93.name, by decide, Tryd.func93.trans (congrArg some (by kernel_rfl))⟩
  f57 := ⟨Tryd.f97.name, by decide, Tryd.func97.trans (congrArg some (by kernel_rfl))⟩
  t0 := Tryd.underlying0
  a0 := Tryd.isAgg0
  z0 := Tryd.sizeOf0
  v0 := Tryd.zeroValue0
  t3 := Tryd.underlying3
  a3 := Tryd.isAgg3
  z3 := Tryd.sizeOf3
  v3 := Tryd.zeroValue3
  t4 := Tryd.underlying4
  a4 := Tryd.isAgg4
  z4 := Tryd.sizeOf4
  v4 := Tryd.zeroValue4
  t5 := Tryd.underlying5
  a5 := Tryd.isAgg5
  z5 := Tryd.sizeOf5
  v5 := Tryd.zeroValue5
  t9 := Tryd.underlying9
  a9 := Tryd.isAgg9
  z9 := Tryd.sizeOf9
  v9 := Tryd.zeroValue9
  t22 := Tryd.underlying39
  a22 := Tryd.isAgg39
  z22 := Tryd.sizeOf39
  v22 := Tryd.zeroValue39
  t25 := Tryd.underlying100
  a25 := Tryd.isAgg100
  z25 := Tryd.sizeOf100
  v25 := Tryd.zeroValue100
  t39 := Tryd.underlying117
  a39 := Tryd.isAgg117
  z39 := Tryd.sizeOf117
  v39 := Tryd.zeroValue117
  t45 := Tryd.underlying128
  a45 := Tryd.isAgg128
  z45 := Tryd.sizeOf128
  v45 := Tryd.zeroValue128
  t46 := Tryd.underlying129
  a46 := Tryd.isAgg129
  z46 := Tryd.sizeOf129
  v46 := Tryd.zeroValue129
  t50 := Tryd.underlying113
  a50 := Tryd.isAgg113
  z50 := Tryd.sizeOf113
  v50 := Tryd.zeroValue113
  t53 := Tryd.underlying135
  a53 := Tryd.isAgg135
  z53 := Tryd.sizeOf135
  v53 := Tryd.zeroValue135
  t55 := Tryd.underlying107
  a55 := Tryd.isAgg107
  z55 := Tryd.sizeOf107
  v55 := Tryd.zeroValue107
  t66 := Tryd.underlying139
  a66 := Tryd.isAgg139
  z66 := Tryd.sizeOf139
  v66 := Tryd.zeroValue139
  t70 := Tryd.underlying143
  a70 := Tryd.isAgg143
  z70 := Tryd.sizeOf143
  v70 := Tryd.zeroValue143
  t76 := Tryd.underlying148
  a76 := Tryd.isAgg148
  z76 := Tryd.sizeOf148
  v76 := Tryd.zeroValue148
  t77 := Tryd.underlying94
  a77 := Tryd.isAgg94
  z77 := Tryd.sizeOf94
  v77 := Tryd.zeroValue94 }
end Go.Proofs.YtifendlpeebofaaDoor

namespace Go.Proofs.YtifendlpeebofaaDoor
open Go.RowKit Go.Shelf
set_option linter.unusedVariables false
set_option linter.unusedSimpArgs false

theorem TO.refl {α : Type} {c : α → α → Int} (h : TO c) (a : α) : c a a = 0 := by have := h.anti a a; omega
theorem TO.swo {α : Type} {c : α → α → Int} (h : TO c) : Go.Sort.SWO (ltOf c) := {
  irrefl := fun x => by unfold ltOf; rw [h.refl]; rfl
  trans := fun x y z h1 h2 => by
    unfold ltOf at *
    rw [decide_eq_true_eq] at *
    exact h.lt x y z (by omega) (by omega) (Or.inl h1)
  ntrans := fun x y z h1 h2 => by
    unfold ltOf at *
    rw [decide_eq_false_iff_not] at *
    have e1 := h.anti x y
    have e2 := h.anti y z
    have e3 := h.anti x z
    have := h.le z y x (by omega) (by omega)
    omega }
theorem grow_of {w w' : World} (h : Go.RowKit.Below w.heap.size w w') (hd : w.drawn ≤ w'.drawn) : ∃ q os, w' = Go.Sort.grow (w.drewN q) os := by
  refine ⟨w'.drawn - w.drawn, w'.heap.extract w.heap.size w'.heap.size, ?_⟩
  have e1 : w.heap ++ w'.heap.extract w.heap.size w'.heap.size = w'.heap := by
    apply Array.ext_getElem?
    intro i
    rw [Array.getElem?_append]
    split
    · next hi => exact (h.block i hi).symm
    · next hi =>
      rw [Array.getElem?_extract]
      split
      · rw [show w.heap.size + (i - w.heap.size) = i by omega]
      · next hj => rw [Array.getElem?_eq_none (by omega)]
  have e2 : w.drawn + (w'.drawn - w.drawn) = w'.drawn := by omega
  have h1 := h.os
  have h2 := h.tape
  have h3 := h.output
  cases w' with
  | mk hp tp dr oo ou =>
    simp only at *
    unfold Go.Sort.grow World.drewN
    simp only [e1, e2, h1, h2, h3]
theorem flatR_get {L : List SpV} (ok : ∀ x ∈ L, x.ok) {i : Nat} {h : SpV} (hi : L[i]? = some h) {j : Nat} {v : Value} (hj : h.c[j]? = some v) : (RSp.flat L)[7 * i + j]? = some v := RowT.flat_get RSp_is ok hi hj
theorem flatR_len {L : List SpV} (ok : ∀ x ∈ L, x.ok) : (RSp.flat L).length = 7 * L.length := RowT.flat_len RSp_is ok
section
variable [Inhabited SpV]
theorem cmpLaysS (blk off size : Nat) (w : World) : CmpLays Tryd.prog 38 #[] SpV.c 7 cSp blk off size w :=
  fun m os dk hdk x y => (cmpSp_any x y _).mono fun e w' ⟨he, hb, hd⟩ => ⟨he, grow_of hb hd⟩
theorem holdsR_own {w : World} {g : Nat} {cur : Array Value} {L : List SpV} (ok : ∀ x ∈ L, x.ok) (hg : w.heap[g]? = some (.cells cur 65 (0, 0))) (ht : cur.toList.take (L.length * 7) = RSp.flat L) : Go.Sort.HoldsK SpV.c 7 w g 0 L.toArray := fun j hj => by
  rw [Go.Sort.size_flatK] at hj
  simp only [List.size_toArray] at hj
  have hi : j / 7 < L.length := by omega
  have hx : L[j / 7]? = some L[j / 7] := List.getElem?_eq_getElem hi
  have hlen := SpV.len L[j / 7]
  have hc : (SpV.c L[j / 7])[j % 7]? = some ((SpV.c L[j / 7])[j % 7]'(by omega)) := List.getElem?_eq_getElem _
  have hf := flatR_get ok hx hc
  rw [show 7 * (j / 7) + j % 7 = j by omega, ← ht, List.getElem?_take, if_pos (by omega)] at hf
  rw [Go.Sort.get_flatK _ _ _ _ (by simpa using hj)]
  have e : L.toArray[j / 7]! = L[j / 7] := by simp [hi]
  rw [Nat.zero_add]
  refine ⟨?_, ?_⟩
  · rw [cell_of_row w g j cur 65 (0, 0) hg, e]
    rw [getElem!_pos (SpV.c L[j / 7]) (j % 7) (by omega)]
    simpa using hf
  · simp [World.frozen?, hg]
theorem own_holdsR {w : World} {g : Nat} {cur : Array Value} {L : List SpV} (ok : ∀ x ∈ L, x.ok) (hg : w.heap[g]? = some (.cells cur 65 (0, 0))) (hn : L.length * 7 ≤ cur.size) (h : Go.Sort.HoldsK SpV.c 7 w g 0 L.toArray) : cur.toList.take (L.length * 7) = RSp.flat L := by
  have hfl := flatR_len ok
  apply List.ext_getElem?
  intro p
  rw [List.getElem?_take]
  split
  · next hp =>
    have hi : p / 7 < L.length := by omega
    have hx : L[p / 7]? = some L[p / 7] := List.getElem?_eq_getElem hi
    have hlen := SpV.len L[p / 7]
    have hc : (SpV.c L[p / 7])[p % 7]? = some ((SpV.c L[p / 7])[p % 7]'(by omega)) := List.getElem?_eq_getElem _
    have hf := flatR_get ok hx hc
    rw [show 7 * (p / 7) + p % 7 = p by omega] at hf
    rw [hf]
    have h1 := (h p (by rw [Go.Sort.size_flatK]; simpa using hp)).1
    rw [Go.Sort.get_flatK _ _ _ _ (by simpa using hp), Nat.zero_add, cell_of_row w g p cur 65 (0, 0) hg] at h1
    have e : L.toArray[p / 7]! = L[p / 7] := by simp [hi]
    rw [e, getElem!_pos (SpV.c L[p / 7]) (p % 7) (by omega)] at h1
    simpa using h1
  · next hp => rw [List.getElem?_eq_none (by omega)]
theorem sortWS_block {w : World} {g n : Nat} {os : Array Obj} (d : Array SpV) {cur : Array Value} (hg : w.heap[g]? = some (.cells cur 65 (0, 0))) : ∃ cur', (sortWorldK SpV.c 7 w g 0 n d os).heap[g]? = some (.cells cur' 65 (0, 0)) ∧ cur'.size = cur.size := by
  have hlt := (Array.getElem?_eq_some_iff.1 hg).1
  have hv := (Array.getElem?_eq_some_iff.1 hg).2
  refine ⟨Go.Sort.putCells id 0 (Go.Sort.flatK SpV.c 7 d) cur, ?_, ?_⟩
  · simp only [sortWorldK, Go.Sort.grow, Go.Sort.putRowK, Go.Sort.putRow, Go.Sort.mapBlock, Go.Sort.ahead]
    rw [Array.getElem?_append_left (by simpa using hlt), Array.getElem?_modify, if_pos rfl, hg]
    rfl
  · simp [Go.Sort.putCells]
theorem sortWS_tch {w : World} {g n : Nat} {os : Array Obj} (d : Array SpV) (hg : g < w.heap.size) : Tch (fun j => some g = some j) w (sortWorldK SpV.c 7 w g 0 n d os) := by
  refine ⟨rfl, rfl, rfl, by simp [sortWorldK, Go.Sort.grow, Go.Sort.putRowK, Go.Sort.putRow, Go.Sort.mapBlock, Go.Sort.ahead], fun k hk hn => ?_⟩
  have hne : g ≠ k := fun e => hn (by rw [e])
  simp [sortWorldK, Go.Sort.grow, Go.Sort.putRowK, Go.Sort.putRow, Go.Sort.mapBlock, Go.Sort.ahead, Array.getElem?_append, Array.getElem?_modify, Array.getElem_modify, hk, hne]
set_option maxHeartbeats 1000000 in
/-- slices.SortFunc of spans. -/
theorem sortS_inh (W : World) (base : Nat) (v : Value) (L : List SpV) (own : RSp.Lo W base v L) (ok : ∀ x ∈ L, x.ok) (hL : L.length ≤ 900000000000) : Calls Tryd.prog 37 #[v, .func (.func 38) #[] #[]] W (SrtS W base v L) := by
  rcases own with ⟨rfl, rfl⟩ | ⟨g, cap, cur, rfl, hbg, hg, hnc, hcm, hcs, htake⟩
  · have h := AnyF.slices_SortFunc_none sortLays none 0 (.func (.func 38) #[] #[]) W
    refine h.mono ?_
    rintro e w' ⟨he, rfl⟩
    exact ⟨he, [], List.Perm.refl _, List.Pairwise.nil, .inl ⟨rfl, rfl⟩, Tch.refl _ _⟩
  · have eg : ∀ args w, (callFunc 38 args).run Tryd.prog w = .ok (.enter 38 args) w := enters_of Tryd.func38 (by kernel_rfl) rfl
    have hlt := (Array.getElem?_eq_some_iff.1 hg).1
    have hH := holdsR_own ok hg htake
    have h := AnyQ.slices_SortFunc sortLays 7 Tryd.isAgg65 Tryd.sizeOf65 SpV.c SpV.len SpV.one cSp to_cSp.swo 38 #[] g 0 cap L.toArray W eg (cmpLaysS g 0 _ W) hH hlt (by simp; omega)
    change Calls Tryd.prog 37 _ _ _ at h
    simp only [List.size_toArray] at h
    refine h.mono ?_
    rintro e w' ⟨he, d', n, os, hp, hsrt, rfl⟩
    have hsz : d'.size = L.length := by simpa using hp.1
    have hperm : d'.toList.Perm L := by
      have := hp.2.2
      rw [← hsz, Array.extract_size] at this
      have e2 : L.toArray.extract 0 d'.size = L.toArray := by rw [hsz]; simp
      rw [e2] at this
      simpa using this
    have ok' : ∀ x ∈ d'.toList, x.ok := fun x hx => ok x (hperm.mem_iff.1 hx)
    have hh := holdsK_sortWorldK SpV.c 7 W g 0 n L.toArray d' os hlt hH (by simpa using hsz)
    obtain ⟨cur', hg', hs'⟩ := sortWS_block (n := n) (os := os) d' hg
    have hlen : d'.toList.length = L.length := by simpa using hsz
    refine ⟨he, d'.toList, hperm, ?_, Or.inr ⟨g, cap, cur', by rw [hlen], hbg, hg', by rw [hlen]; exact hnc, hcm, by rw [hs']; exact hcs, ?_⟩, sortWS_tch d' hlt⟩
    · unfold SdS
      rw [List.pairwise_iff_getElem]
      intro i j hi hj hij
      have hlt := hsrt i j (by omega) hij (by rw [← hsz]; simpa using hj)
      rw [getElem!_pos d' i (by simpa using hi), getElem!_pos d' j (by simpa using hj)] at hlt
      unfold ltOf at hlt
      rw [decide_eq_false_iff_not] at hlt
      have := to_cSp.anti d'[i] d'[j]
      simp only [Array.getElem_toList]
      omega
    · exact own_holdsR ok' hg' (by rw [hlen, hs']; exact Nat.le_trans (Nat.mul_le_mul_right _ hnc) hcs) (by simpa using hh)
end
theorem sortF_any (W : World) (base : Nat) (v : Value) (L : List SpV) (own : RSp.Lo W base v L) (ok : ∀ x ∈ L, x.ok) (hL : L.length ≤ 900000000000) : Calls Tryd.prog 37 #[v, .func (.func 38) #[] #[]] W (SrtS W base v L) := @sortS_inh ⟨zSp7⟩ W base v L own ok hL
set_option maxRecDepth 100000 in
theorem sortSp_any (W : World) (base : Nat) (v : Value) (L : List SpV) (own : RSp.Lo W base v L) (ok : ∀ x ∈ L, x.ok) (hL : L.length ≤ 900000000000) : Calls Tryd.prog 21 #[v] W (SrtS W base v L) := by
  have H := hidMk (sortF_any W base v L own ok hL)
  clear own ok hL
  go_enter Tryd.func21, Tryd.ntmps21
  go_wp2_with (go_at_call 37; refine H.out.mono ?_; rintro e w' ⟨rfl, q⟩)
  go_end0
  exact ⟨rfl, q⟩
end Go.Proofs.YtifendlpeebofaaDoor

namespace Go.Proofs.YtifendlpeebofaaDoor
open Go.RowKit Sq
set_option linter.unusedVariables false
set_option linter.unusedSimpArgs false

/-- The marks that have a value, as runs of one element. -/
def spL (f t : Int) (C : List MkV) : List SpV := (C.filter fun x => decide (x.v.k ≠ 0)).map fun x => ⟨f, t, x.nm, x.v⟩
def ovL (E : List Elt) (L : List MkV) (k : IdK) : List SpV := spL (idxE E (aheadE E false k)) (idxE E (aheadE E false k + 1)) (covL E L (aheadE E false k))
theorem spL_snoc (f t : Int) {C : List MkV} {i : Nat} {x : MkV} (hx : C[i]? = some x) : spL f t (C.take (i + 1)) = spL f t (C.take i) ++ (if decide (x.v.k ≠ 0) = true then [⟨f, t, x.nm, x.v⟩] else []) := by
  unfold spL
  rw [List.take_add_one, hx, List.filter_append, List.map_append]
  congr 1
  by_cases e : decide (x.v.k ≠ 0) = true
  · have e' : ¬ x.v.k = 0 := of_decide_eq_true e
    rw [if_pos e]; simp [List.filter_cons, e']
  · have e' : x.v.k = 0 := Decidable.byContradiction fun q => e (decide_eq_true q)
    rw [if_neg e]; simp [List.filter_cons, e']
theorem spL_ok {f t : Int} {C : List MkV} (hf : -9223372036854775808 ≤ f ∧ f ≤ 9223372036854775807) (ht : -9223372036854775808 ≤ t ∧ t ≤ 9223372036854775807) (ok : ∀ x ∈ C, x.ok) : ∀ y ∈ spL f t C, y.ok := fun y hy => by
  obtain ⟨x, hx, rfl⟩ := List.mem_map.1 hy
  have := ok x (List.mem_filter.1 hx).1
  exact ⟨hf.1, hf.2, ht.1, ht.2, this.nm, this.v⟩
theorem spL_len (f t : Int) (C : List MkV) : (spL f t C).length ≤ C.length := by
  unfold spL
  rw [List.length_map]
  exact List.length_filter_le _ _
theorem idx_bd (E : List Elt) (r : Int) : -1 ≤ idxE E r ∧ idxE E r ≤ (E.length : Int) := by
  unfold idxE
  split
  · exact ahead_bd _ _ _
  · have := List.length_filter_le (cE true) E
    unfold visE
    omega
theorem covL_len (E : List Elt) (L : List MkV) (r : Int) : (covL E L r).length ≤ L.length := by
  have := covP_len (E := E) (r := r) L.reverse []
  simpa [covL] using this
/-- A value that a loop carries. -/
structure VB where
  v : Value
abbrev SortOk : Prop := ∀ (W : World) (base : Nat) (v : Value) (L : List SpV), RSp.Lo W base v L → (∀ x ∈ L, x.ok) → L.length ≤ 900000000000 → Calls Tryd.prog 21 #[v] W (SrtS W base v L)
section
variable {w : World} {s : Sx} {E : List Elt} {base : Nat} {m : Mx}
def OvP (w : World) (E : List Elt) (m : Mx) (k : IdK) (e : Ending) (w' : World) : Prop := ∃ v S, e = .returned v ∧ RSp.Lo w' w.heap.size v S ∧ (if hasE E k = true then S.Perm (ovL E m.L k) ∧ SdS S else S = []) ∧ Below w.heap.size w w'
set_option maxRecDepth 100000 in
set_option maxHeartbeats 8000000 in
theorem over_of (HS : SortOk) (h : SeqAt w s E) (hm : MkAt w base m) {k : IdK} (hk : k.ok) : Calls Tryd.prog 7 #[.pointer (some ⟨m.mb, 0, none⟩), .pointer (some ⟨s.sb, 0, none⟩), k.v] w (OvP w E m k) := by
  have b0 : Below w.heap.size w (w.alloc (.cells k.c.toArray 34)) := (Below.refl _ _).alloc (Nat.le_refl _) _
  have i0 : IdAt (w.alloc (.cells k.c.toArray 34)) w.heap.size k := heap_alloc_new _ _
  obtain ⟨W, hW⟩ : ∃ W, w.alloc (.cells k.c.toArray 34) = W := ⟨_, rfl⟩
  rw [hW] at b0 i0
  have hfew := h.few
  have HH := hidMk (fun (X : World) (b : Below w.heap.size w X) => h.below b)
  have HM := hidMk (fun (X : World) (b : Below w.heap.size w X) => hm.below b)
  have HW := hidMk hW
  have HN := hidMk hm.n
  have OK := hidMk hm.ok
  have BD := hidMk (ahead_bd E false k)
  clear hW h hm
  unfold IdK.v
  go_enter Tryd.func7, Tryd.ntmps7
  go_upto_region 1 with fail
  rw [HW.out]
  clear HW
  obtain ⟨q, hq⟩ : ∃ q, hasE E k = q := ⟨_, rfl⟩
  refine ovr1 (mb := m.mb) (sb := s.sb) (ib := w.heap.size) (k := k) (q := q) (fun X => Below W.heap.size W X) _ W _ rfl rfl rfl rfl (fun X e => by rw [e]; exact load_id hk i0) ((has_any (HH.out W b0) hk).mono (fun e X ⟨h1, h2⟩ => ⟨by rw [h1, hq], h2⟩)) ?_
  intro a' W1 b1 ha
  subst ha
  simp only [Act.put, List.setIfInBounds_toArray, List.set_cons_zero, List.set_cons_succ]
  have b01 := b0.trans (b1.mono b0.size)
  cases q with
  | false =>
    have HB := hidMk b01
    have HQ := hidMk hq
    clear b01 b1 b0 i0 hq
    simp only [Bool.not_false]
    go_wp2
    go_ret
    exact ⟨_, [], rfl, RowT.lo_nil RSp _ _, by rw [HQ.out]; rfl, HB.out⟩
  | true =>
    simp only [Bool.not_true]
    have i1 : IdAt W1 w.heap.size k := i0.below b1
    have HQ := hidMk hq
    have HB1 := hidMk b01
    clear b01 b1 b0 i0 hq
    go_upto_region 3 with fail
    refine ovr3 (sb := s.sb) (ib := w.heap.size) (k := k) (rk := aheadE E false k) (fun X => Below W1.heap.size W1 X) _ W1 _ rfl rfl rfl (fun X e => by rw [e]; exact load_id hk i1) (rank_any (HH.out W1 HB1.out) hk) ?_
    intro a' W2 b2 ha
    subst ha
    simp only [Act.put, List.setIfInBounds_toArray, List.set_cons_zero, List.set_cons_succ]
    have HB2 := hidMk (HB1.out.trans (b2.mono HB1.out.size))
    clear b2 i1
    have hrk := BD.out
    have f2 : -9223372036854775808 ≤ aheadE E false k + 1 ∧ aheadE E false k + 1 ≤ 9223372036854775807 := by omega
    have FT := hidMk (And.intro (idx_bd E (aheadE E false k)) (idx_bd E (aheadE E false k + 1)))
    go_upto_region 4 with fail
    refine ovr4 (sb := s.sb) (rk := aheadE E false k) (f := idxE E (aheadE E false k)) (t := idxE E (aheadE E false k + 1)) (fun X => Below w.heap.size w X) _ W2 _ rfl rfl rfl f2 ((index_at_any (HH.out W2 HB2.out) (by omega)).mono ?_) ?_
    · rintro e X ⟨rfl, b3⟩
      have b3' := HB2.out.trans (b3.mono HB2.out.size)
      refine ⟨rfl, (index_at_any (HH.out X b3') f2).mono ?_⟩
      rintro e Y ⟨rfl, b4⟩
      exact ⟨rfl, b3'.trans (b4.mono b3'.size)⟩
    intro a' W3 b3 ha
    subst ha
    simp only [Act.put, List.setIfInBounds_toArray, List.set_cons_zero, List.set_cons_succ]
    have HB3 := hidMk b3
    clear b3 HB1 HB2 f2 hrk
    go_upto_region 6 with fail
    refine ovr6 (mb := m.mb) (sb := s.sb) (rk := aheadE E false k) (fun la n c X => n = (covL E m.L (aheadE E false k)).length ∧ RM.At X la (covL E m.L (aheadE E false k)) ∧ Below w.heap.size w X) _ W3 _ rfl rfl rfl rfl ((covering_any (HH.out W3 HB3.out) (HM.out W3 HB3.out) (aheadE E false k)).mono ?_) ?_
    · rintro e X ⟨v, rfl, lo, b4⟩
      have okc : ∀ y ∈ covL E m.L (aheadE E false k), y.ok := fun y hy => by
        rcases covP_mem hy with hy | hy
        · cases hy
        · exact (OK.out y (List.mem_reverse.1 hy)).1
      obtain ⟨la, c, rfl, hat, _⟩ := lo.open RM_is okc
      exact ⟨la, _, c, rfl, rfl, hat, HB3.out.trans (b4.mono HB3.out.size)⟩
    intro la n c a' W4 hf ha
    subst ha
    simp only [Act.put, List.setIfInBounds_toArray, List.set_cons_zero, List.set_cons_succ]
    obtain ⟨hn, hat, b4⟩ := hf
    have okc : ∀ y ∈ covL E m.L (aheadE E false k), y.ok := fun y hy => by
      rcases covP_mem hy with hy | hy
      · cases hy
      · exact (OK.out y (List.mem_reverse.1 hy)).1
    have lc := covL_len E m.L (aheadE E false k)
    have hn9 : n ≤ 900000000000 := by rw [hn]; have := HN.out; omega
    have HV : Hid (ovL E m.L k = spL (idxE E (aheadE E false k)) (idxE E (aheadE E false k + 1)) (covL E m.L (aheadE E false k))) := rfl
    have HF : Hid (-9223372036854775808 ≤ idxE E (aheadE E false k) ∧ idxE E (aheadE E false k) ≤ 9223372036854775807) := by have := FT.out; exact ⟨by omega, by omega⟩
    have HT : Hid (-9223372036854775808 ≤ idxE E (aheadE E false k + 1) ∧ idxE E (aheadE E false k + 1) ≤ 9223372036854775807) := by have := FT.out; exact ⟨by omega, by omega⟩
    have HC := hidMk okc
    have HA := hidMk hat
    have HB4 := hidMk b4
    have HL := hidMk hn
    clear hat b4 okc lc HB3 FT BD HN OK HM HH hn hfew
    generalize idxE E (aheadE E false k) = f at *
    generalize idxE E (aheadE E false k + 1) = t at *
    generalize covL E m.L (aheadE E false k) = C at *
    generalize aheadE E false k = rk at *
    go_wp2
    go_loopw [10, 36] (fun v10 v36 wr => ∃ (j : Nat) (u : VB), v36 = .int .i64 (j : Int) ∧ j ≤ n ∧ v10 = u.v ∧ Hid (RSp.Lo wr W4.heap.size u.v (spL f t (C.take j)) ∧ Below W4.heap.size W4 wr)) (fun _ v36 wr => n - (match v36 with | .int _ i => i.toNat | _ => 0))
    case atStart => exact ⟨0, ⟨_⟩, rfl, Nat.zero_le _, rfl, by rw [List.take_zero]; exact RowT.lo_nil RSp _ _, Below.refl _ _⟩
    case round =>
      obtain ⟨j, u, rfl, hjn, rfl, HI⟩ := hrel
      by_cases hj : j < n
      · have hjl : j < C.length := by rw [← HL.out]; exact hj
        have hx := List.getElem?_eq_getElem hjl
        obtain ⟨g, o, rfl, lg, hr⟩ := HA.out.get hjl
        have okx := HC.out _ (List.getElem_mem hjl)
        obtain ⟨lo, bel4⟩ := HI.out
        have hr2 := rangeAt_keep hr (bel4.block _ lg)
        have SN := hidMk (spL_snoc f t hx)
        generalize C[j] = x at *
        obtain ⟨bx, bb⟩ := RowT.bx_is RM wr x
        have ez := RowT.bx_zero RM_is wr
        have en := RowT.bx_new RM_is wr okx
        have ll := RowT.ld RM_is okx hr2
        obtain ⟨W5, hW5⟩ : ∃ W5, wr.alloc (.cells (RM.c x).toArray RM.e) = W5 := ⟨_, rfl⟩
        rw [hW5] at bx bb en
        go_upto_region 8 with fail
        refine ovr8 (g := g) (o := o) (n := n) (c := c) (i := j) (eb := wr.heap.size) (x := x) _ wr _ rfl rfl rfl hj (by omega) ll ez en ?_
        intro a' W6 hw ha
        obtain rfl : W5 = W6 := hw.symm
        subst ha
        simp only [Act.put, List.setIfInBounds_toArray, List.set_cons_zero, List.set_cons_succ]
        have bel45 := bel4.trans (bb.mono bel4.size)
        have lo5 := lo.below bb
        have ck := mk_kc okx bx.rng
        have lk : (Instr.loadAt 35 (.pointer (some ⟨wr.heap.size, 0 + 34 + 0, none⟩))).run Tryd.prog W5 = .ok (.int .u8 x.v.k) W5 := by
          rw [Nat.add_zero]
          go_simp
        obtain ⟨z, hz⟩ : ∃ z, decide (x.v.k ≠ 0) = z := ⟨_, rfl⟩
        go_upto_region 9 with fail
        refine ovr9 (eb := wr.heap.size) (x := x) (z := z) _ W5 _ rfl rfl hz lk ?_
        intro a' W6 hw ha
        obtain rfl : W5 = W6 := hw.symm
        subst ha
        simp only [Act.put, List.setIfInBounds_toArray, List.set_cons_zero, List.set_cons_succ]
        cases z with
        | false =>
          have NX : Hid (RSp.Lo W5 W4.heap.size u.v (spL f t (C.take (j + 1))) ∧ Below W4.heap.size W4 W5) := ⟨by rw [SN.out, hz, if_neg (by decide), List.append_nil]; exact lo5, bel45⟩
          clear lo5 bel45 ck lk hz SN en ez ll bx bb hW5 lo bel4 hr hr2 HI
          go_wp2
          rw [show ((j : Int) + 1) = ((j + 1 : Nat) : Int) by omega]
          refine ⟨⟨j + 1, u, rfl, hj, rfl, NX⟩, ?_⟩
          show n - ((j + 1 : Nat) : Int).toNat < n - (j : Int).toNat
          omega
        | true =>
          have okp : ∀ y ∈ spL f t (C.take j), y.ok := spL_ok HF.out HT.out (fun y hy => HC.out y (List.mem_of_mem_take hy))
          have lnp : (spL f t (C.take j)).length ≤ n := by
            have := spL_len f t (C.take j)
            have := HL.out
            rw [List.length_take] at *
            omega
          have okn : RSp.ok ⟨f, t, x.nm, x.v⟩ := (show SpV.ok _ from ⟨HF.out.1, HF.out.2, HT.out.1, HT.out.2, okx.nm, okx.v⟩)
          obtain ⟨sv, w1, v', w2, e1, e2, lo2, bl1, z1, gr, qo, _⟩ := RowT.lo_push RSp_is W5 W4.heap.size u.v (spL f t (C.take j)) okp ⟨f, t, x.nm, x.v⟩ lo5 okn (by unfold maxLen; omega) (by show _ * 72 ≤ _; omega) bel45.size
          have b41 : Below W4.heap.size W4 w1 := bel45.trans (bl1.mono bel45.size)
          have b42 : Below W4.heap.size W4 w2 := b41.grown gr b41.size (fun k hk => ((lo5.below bl1).cells hk).1)
          have NX : Hid (RSp.Lo w2 W4.heap.size v' (spL f t (C.take (j + 1))) ∧ Below W4.heap.size W4 w2) := ⟨by rw [SN.out, hz, if_pos rfl]; exact lo2, b42⟩
          have ln := mk_nm okx bx.rng
          have lv := mk_v okx bx.rng
          clear lo5 bel45 ck lk hz SN en ez ll bx bb hW5 lo bel4 hr hr2 HI b42 b41 lo2 bl1 gr qo okp okn lnp
          go_upto_region 10 with fail
          refine ovr10 (eb := wr.heap.size) (f := f) (t := t) (x := x) (u := u.v) (sv := sv) (u2 := v') (w1 := w1) (w2 := w2) _ W5 _ rfl rfl rfl rfl rfl ln lv e1 e2 ?_
          intro a' W6 hw ha
          obtain rfl : w2 = W6 := hw.symm
          subst ha
          simp only [Act.put, List.setIfInBounds_toArray, List.set_cons_zero, List.set_cons_succ]
          clear e1 e2 ln lv
          go_wp2
          rw [show ((j : Int) + 1) = ((j + 1 : Nat) : Int) by omega]
          refine ⟨⟨j + 1, ⟨v'⟩, rfl, hj, rfl, NX⟩, ?_⟩
          show n - ((j + 1 : Nat) : Int).toNat < n - (j : Int).toNat
          omega
      · obtain rfl : n = j := by omega
        obtain ⟨lo, bel4⟩ := HI.out
        rw [List.take_of_length_le (Nat.le_of_eq HL.out.symm)] at lo
        have bel := HB4.out.trans (bel4.mono HB4.out.size)
        replace lo := lo.mono HB4.out.size
        have SO := hidMk (HS wr w.heap.size u.v (spL f t C) lo (spL_ok HF.out HT.out HC.out) (by have := spL_len f t C; have := HL.out; omega))
        have LO := hidMk lo
        have BE := hidMk bel
        clear lo bel bel4 HI
        go_wp2_with (go_at_call 21; refine SO.out.mono ?_; rintro e W7 ⟨rfl, L', hp, hs, lo7, t7⟩)
        go_ret
        refine ⟨_, L', rfl, lo7, by rw [HQ.out, if_pos rfl, HV.out]; exact ⟨hp, hs⟩, ?_⟩
        have bel := BE.out
        exact ⟨t7.os.trans bel.os, t7.tape.trans bel.tape, t7.output.trans bel.output, Nat.le_trans bel.size t7.size, fun k hk => (t7.block k (by have := bel.size; omega) (fun e => by have := (LO.out.cells e).1; omega)).trans (bel.block k hk)⟩
end
end Go.Proofs.YtifendlpeebofaaDoor

namespace Go.Proofs.YtifendlpeebofaaDoor
open Go.RowKit Sq
set_option linter.unusedVariables false
set_option linter.unusedSimpArgs false

theorem over_any {w : World} {s : Sx} {E : List Elt} {base : Nat} {m : Mx} (h : SeqAt w s E) (hm : MkAt w base m) {k : IdK} (hk : k.ok) : Calls Tryd.prog 7 #[.pointer (some ⟨m.mb, 0, none⟩), .pointer (some ⟨s.sb, 0, none⟩), k.v] w (OvP w E m k) :=
  over_of sortSp_any h hm hk
def Mx.bl (m : Mx) (j : Nat) : Prop := j = m.mb ∨ j = m.ib ∨ m.lv.ownBlock = some j
theorem Mx.lt {w : World} {base : Nat} {m : Mx} (h : MkAt w base m) {j : Nat} (hj : m.bl j) : j < w.heap.size := by
  rcases hj with rfl | rfl | hj
  · exact (Array.getElem?_eq_some_iff.1 h.cell).1
  · exact h.map.lt
  · exact h.lo.lt hj
theorem MkAt.keep {w w' : World} {base : Nat} {m : Mx} (h : MkAt w base m) (hk : ∀ j, m.bl j → w'.heap[j]? = w.heap[j]?) : MkAt w' base m :=
  ⟨(hk _ (.inl rfl)).trans h.cell, h.lo.keep (fun j hj => hk j (.inr (.inr hj))), h.ok, h.map.below (hk _ (.inr (.inl rfl))), h.n⟩
/-- A sequence and marks over it, made by a call. -/
structure Gr (w : World) (sb mb : Nat) (E : List Elt) (L : List MkV) (W : World) : Prop where
  q : ∃ (s : Sx) (m : Mx), s.sb = sb ∧ m.mb = mb ∧ SeqAt W s E ∧ MkAt W w.heap.size m ∧ m.L = L ∧ (∀ j ∈ s.bl, w.heap.size ≤ j) ∧ (∀ j, m.bl j → w.heap.size ≤ j) ∧ (∀ j ∈ s.bl, ¬ m.bl j)
  bel : Below w.heap.size w W
section
variable {w W : World} {sb mb : Nat} {E : List Elt} {L : List MkV}
theorem Gr.below {W' : World} (h : Gr w sb mb E L W) (b : Below W.heap.size W W') : Gr w sb mb E L W' := by
  obtain ⟨⟨s, m, e1, e2, hs, hm, e3, c1, c2, d⟩, b'⟩ := h
  exact ⟨⟨s, m, e1, e2, hs.below b, hm.below b, e3, c1, c2, d⟩, b'.trans (b.mono b'.size)⟩
theorem Gr.ins (h : Gr w sb mb E L W) {k b : IdK} (hk : k.ok) (hb : b.ok) (hl : E.length + 2 ≤ 1400000000000) : Calls Tryd.prog 8 #[.pointer (some ⟨sb, 0, none⟩), k.v, b.v] W fun e w' => e = .returned (.int .i64 (insC E k b : Int)) ∧ Gr w sb mb (insR E k b) L w' := by
  obtain ⟨⟨s, m, rfl, rfl, hs, hm, rfl, c1, c2, d⟩, b'⟩ := h
  refine (insert_any hs hk hb hl).mono ?_
  rintro e w' ⟨rfl, s', nx⟩
  have bb : Below w.heap.size W w' := ⟨nx.tch.os, nx.tch.tape, nx.tch.output, nx.tch.size, fun j hj => nx.tch.block j (Nat.lt_of_lt_of_le hj b'.size) (fun q => by have := c1 j q; omega)⟩
  have inb : ∀ j ∈ s'.bl, j ∈ s.bl ∨ W.heap.size ≤ j := fun j hj => by
    simp only [Sx.bl, List.mem_cons, List.not_mem_nil, or_false, nx.sb, nx.mb] at hj ⊢
    rcases hj with q | q | q
    · exact .inl (.inl q)
    · exact .inl (.inr (.inl q))
    · rcases nx.own with e | e
      · exact .inl (.inr (.inr (q.trans e)))
      · exact .inr (by omega)
  refine ⟨rfl, ⟨s', m, nx.sb, rfl, nx.at', hm.keep (fun j hj => nx.tch.block j (Mx.lt hm hj) (fun q => d j q hj)), rfl, fun j hj => ?_, c2, fun j hj hq => ?_⟩, b'.trans bb⟩
  · rcases inb j hj with q | q
    · exact c1 j q
    · exact Nat.le_trans b'.size q
  · rcases inb j hj with q | q
    · exact d j q hq
    · have := Mx.lt hm hq; omega
theorem Gr.add (h : Gr w sb mb E L W) (hT : K.V.Tabs W) {x : MkV} (hx : x.ok) (hn : L.length + 1 ≤ 900000000000) : Calls Tryd.prog 6 #[.pointer (some ⟨mb, 0, none⟩), x.id.v, .string x.nm, x.v.v, x.fr.v, x.to.v, .int .i64 x.sd] W fun e w' => e = .returned (.int .i64 (addC L x)) ∧ Gr w sb mb E (addR L x) w' := by
  obtain ⟨⟨s, m, rfl, rfl, hs, hm, rfl, c1, c2, d⟩, b'⟩ := h
  refine (add_any hm b'.size hT hx hn).mono ?_
  rintro e w' ⟨rfl, m', hm', e1, e2, e3, ow, tch⟩
  have tch' : Tch m.bl W w' := tch
  have bb : Below w.heap.size W w' := ⟨tch'.os, tch'.tape, tch'.output, tch'.size, fun j hj => tch'.block j (Nat.lt_of_lt_of_le hj b'.size) (fun q => by have := c2 j q; omega)⟩
  have inb : ∀ j, m'.bl j → m.bl j ∨ W.heap.size ≤ j := fun j hj => by
    rcases hj with q | q | q
    · exact .inl (.inl (q.trans e1))
    · exact .inl (.inr (.inl (q.trans e2)))
    · rcases ow with e | e
      · exact .inl (.inr (.inr (e ▸ q)))
      · exact .inr (e j q)
  refine ⟨rfl, ⟨s, m', rfl, e1, hs.keep (fun j hj => tch'.block j (hs.lt j hj) (d j hj)), hm', e3, c1, fun j hj => ?_, fun j hj hq => ?_⟩, b'.trans bb⟩
  · rcases inb j hj with q | q
    · exact c2 j q
    · exact Nat.le_trans b'.size q
  · rcases inb j hq with q | q
    · exact d j hj q
    · have := hs.lt j hj; omega
/-- A box of an Id is none of their blocks. -/
theorem apart_id {base : Nat} {s : Sx} {m : Mx} (hs : SeqAt W s E) (hm : MkAt W base m) {b : Nat} {k : IdK} (hk : k.ok) (hb : IdAt W b k) : b ∉ s.bl ∧ ¬ m.bl b := by
  have h0 : ∃ u, W.cell? ⟨b, 0, none⟩ = some (.int .u8 u) := by
    rw [cell_of_row W b 0 _ _ _ hb]
    have l := hk.l
    cases e : k.h with
    | nil => rw [e] at l; cases l
    | cons u r => exact ⟨_, by simp [IdK.c, e, hcs]; rfl⟩
  refine ⟨fun h => ?_, fun h => ?_⟩
  · simp only [Sx.bl, List.mem_cons, List.not_mem_nil, or_false] at h
    rcases h with rfl | rfl | rfl
    · obtain ⟨u, hu⟩ := h0
      rw [hs.c0] at hu; cases hu
    · obtain ⟨⟨es, cc, hq, _⟩, _⟩ := hs.map
      rw [show W.heap[s.mb]? = _ from hb] at hq; cases hq
    · obtain ⟨cur, hg, _⟩ := hs.row.blk
      have := two_typesM hg hb
      revert this; decide
  · rcases h with rfl | rfl | h
    · have := two_typesM hm.cell hb
      revert this; decide
    · obtain ⟨⟨es, cc, hq, _⟩, _⟩ := hm.map
      rw [show W.heap[m.ib]? = _ from hb] at hq; cases hq
    · obtain ⟨_, c, hc⟩ := hm.lo.cells h
      have := two_typesM hc hb
      revert this; decide
theorem Gr.put {W' : World} (h : Gr w sb mb E L W) {b : Nat} {k : IdK} (hk : k.ok) (hb : IdAt W b k) (h0 : w.heap.size ≤ b) (t : Tch (fun j => j = b) W W') : Gr w sb mb E L W' := by
  obtain ⟨⟨s, m, e1, e2, hs, hm, e3, c1, c2, d⟩, b'⟩ := h
  obtain ⟨a1, a2⟩ := apart_id hs hm hk hb
  refine ⟨⟨s, m, e1, e2, hs.keep (fun j hj => t.block j (hs.lt j hj) (fun e => a1 (e ▸ hj))), hm.keep (fun j hj => t.block j (Mx.lt hm hj) (fun e => a2 (e ▸ hj))), e3, c1, c2, d⟩, b'.trans ?_⟩
  exact ⟨t.os, t.tape, t.output, t.size, fun j hj => t.block j (Nat.lt_of_lt_of_le hj b'.size) (fun e => by omega)⟩
theorem Gr.insI (h : Gr w sb mb E L W) {k b : IdK} (hk : k.ok) (hb : b.ok) (hl : E.length + 2 ≤ 1400000000000) {x y : Nat} {p q : IdK} (hp : p.ok) (hq : q.ok) (hx : IdAt W x p) (hy : IdAt W y q) : Calls Tryd.prog 8 #[.pointer (some ⟨sb, 0, none⟩), k.v, b.v] W fun e w' => e = .returned (.int .i64 (insC E k b : Int)) ∧ Gr w sb mb (insR E k b) L w' ∧ IdAt w' x p ∧ IdAt w' y q := by
  obtain ⟨⟨s, m, rfl, rfl, hs, hm, rfl, c1, c2, d⟩, b'⟩ := h
  have ax := (apart_id hs hm hp hx).1
  have ay := (apart_id hs hm hq hy).1
  have lx : x < W.heap.size := (Array.getElem?_eq_some_iff.1 hx).1
  have ly : y < W.heap.size := (Array.getElem?_eq_some_iff.1 hy).1
  refine (insert_any hs hk hb hl).mono ?_
  rintro e w' ⟨rfl, s', nx⟩
  have bb : Below w.heap.size W w' := ⟨nx.tch.os, nx.tch.tape, nx.tch.output, nx.tch.size, fun j hj => nx.tch.block j (Nat.lt_of_lt_of_le hj b'.size) (fun q => by have := c1 j q; omega)⟩
  have inb : ∀ j ∈ s'.bl, j ∈ s.bl ∨ W.heap.size ≤ j := fun j hj => by
    simp only [Sx.bl, List.mem_cons, List.not_mem_nil, or_false, nx.sb, nx.mb] at hj ⊢
    rcases hj with q | q | q
    · exact .inl (.inl q)
    · exact .inl (.inr (.inl q))
    · rcases nx.own with e | e
      · exact .inl (.inr (.inr (q.trans e)))
      · exact .inr (by omega)
  refine ⟨rfl, ⟨⟨s', m, nx.sb, rfl, nx.at', hm.keep (fun j hj => nx.tch.block j (Mx.lt hm hj) (fun q => d j q hj)), rfl, fun j hj => ?_, c2, fun j hj hq => ?_⟩, b'.trans bb⟩, (nx.tch.block x lx ax).trans hx, (nx.tch.block y ly ay).trans hy⟩
  · rcases inb j hj with q | q
    · exact c1 j q
    · exact Nat.le_trans b'.size q
  · rcases inb j hj with q | q
    · exact d j q hq
    · have := Mx.lt hm hq; omega
theorem Gr.over (h : Gr w sb mb E L W) {k : IdK} (hk : k.ok) : Calls Tryd.prog 7 #[.pointer (some ⟨mb, 0, none⟩), .pointer (some ⟨sb, 0, none⟩), k.v] W fun e w' => (∃ a n c, e = .returned (.slice a n c) ∧ n = (if hasE E k = true then (ovL E L k).length else 0)) ∧ Gr w sb mb E L w' := by
  obtain ⟨⟨s, m, rfl, rfl, hs, hm, rfl, c1, c2, d⟩, b'⟩ := h
  refine (over_any hs hm hk).mono ?_
  rintro e w' ⟨v, S, rfl, lo, hS, b⟩
  refine ⟨?_, (show Gr w s.sb m.mb E m.L W from ⟨⟨s, m, rfl, rfl, hs, hm, rfl, c1, c2, d⟩, b'⟩).below b⟩
  have hl : ∃ a c, v = .slice a S.length c := by
    rcases lo with ⟨rfl, rfl⟩ | ⟨g, cap, cur, rfl, _⟩
    · exact ⟨_, _, rfl⟩
    · exact ⟨_, _, rfl⟩
  obtain ⟨a, c, rfl⟩ := hl
  refine ⟨a, _, c, rfl, ?_⟩
  split
  · next q => rw [if_pos q] at hS; exact hS.1.length_eq
  · next q => rw [if_neg q] at hS; rw [hS]; rfl
end
set_option maxRecDepth 100000 in
theorem mnew_any (w : World) : Calls Tryd.prog 10 #[] w fun e w' => ∃ m : Mx, e = .returned (.pointer (some ⟨m.mb, 0, none⟩)) ∧ MkAt w' w.heap.size m ∧ m.L = [] ∧ (∀ j, m.bl j → w.heap.size ≤ j) ∧ Below w.heap.size w w' := by
  have hm := M.MapAt.new w IdK.v IdK.ok
  have bm : Below w.heap.size w (w.alloc (.map #[] 0)) := (Below.refl _ _).alloc (Nat.le_refl _) _
  have zm : (w.alloc (.map #[] 0)).heap.size = w.heap.size + 1 := by simp
  go_enter Tryd.func10, Tryd.ntmps10
  have MK : Hid (∀ W : World, (Instr.makeMap 55 none).run Tryd.prog W = .ok (.map (some W.heap.size)) (W.alloc (.map #[] 0))) := fun W => by kernel_rfl
  go_wp2_with (first
    | (refine wpList_run rfl (exec_makeMap rfl (MK.out _)) ?_)
    | fail)
  go_ret
  generalize w.alloc (.map #[] 0) = wm at *
  have hq := heap_alloc_new wm (.cells #[.slice none 0 0, .map (some w.heap.size)] 57)
  have bq : Below wm.heap.size wm (wm.alloc (.cells #[.slice none 0 0, .map (some w.heap.size)] 57)) := (Below.refl _ _).alloc (Nat.le_refl _) _
  rw [zm] at hq bq
  refine ⟨⟨w.heap.size + 1, .slice none 0 0, w.heap.size, []⟩, rfl, ⟨hq, RowT.lo_nil RM _ _, (fun x hx => by cases hx), hm.below (bq.block _ (by show w.heap.size < _; omega)), by show (0 : Nat) ≤ 900000000000; omega⟩, rfl, ?_, bm.trans (bq.mono (by omega))⟩
  rintro j (rfl | rfl | hj)
  · show _ ≤ w.heap.size + 1; omega
  · exact Nat.le_refl _
  · cases hj
end Go.Proofs.YtifendlpeebofaaDoor

