import Derived.Test.YtifendlpeebofaaGreatDoorP0
import Derived.Test.YtifendlpeebofaaGreatDoorP3
import Derived.Test.YtifendlpeebofaaGreatDoorP2
import Derived.Deep.RegionHeld3
import Derived.Deep.Cut
import Derived.Shelf.SlSortCmp.WholeK
import Derived.Shelf.SlSortCmp.NoneTotal
import Derived.Shelf.SlGeneric
import Derived.Ground.SlsfProg
import Derived.Test.YtifendlpeebofaaGreatDoorRows
import Derived.Laws.BitsAllLaws
import Derived.Laws.MakeOwn
import Derived.Laws.CopyOwn
import Derived.OrdersIn
set_option linter.unusedSimpArgs false
set_option linter.unusedVariables false
set_option maxRecDepth 100000
set_option maxHeartbeats 4000000
set_option maxRecDepth 100000
set_option maxHeartbeats 4000000
namespace Go.Proofs.YtifendlpeebofaaGreatDoor
open Go.RowKit
theorem fg_152_0 (b o : Nat) (w : World) : (Instr.fieldAt 152 (.pointer (some ⟨b, o, none⟩)) 0).run Tryz.prog w = .ok (.pointer (some ⟨b, o + 0, none⟩)) w := by go_simp
theorem fg_152_1 (b o : Nat) (w : World) : (Instr.fieldAt 152 (.pointer (some ⟨b, o, none⟩)) 1).run Tryz.prog w = .ok (.pointer (some ⟨b, o + 1, none⟩)) w := by go_simp
theorem fg_152_2 (b o : Nat) (w : World) : (Instr.fieldAt 152 (.pointer (some ⟨b, o, none⟩)) 2).run Tryz.prog w = .ok (.pointer (some ⟨b, o + 2, none⟩)) w := by go_simp
theorem fg_65_3 (b o : Nat) (w : World) : (Instr.fieldAt 65 (.pointer (some ⟨b, o, none⟩)) 3).run Tryz.prog w = .ok (.pointer (some ⟨b, o + 3, none⟩)) w := by go_simp
theorem len_z (a : Option Addr) (m c : Nat) (w : World) : (Builtin.len_ #[150] 3 #[.slice a m c]).run Tryz.prog w = .ok (.int .i64 (m : Int)) w := by go_simp
theorem len_sq (a : Option Addr) (m c : Nat) (w : World) : (Builtin.len_ #[49] 3 #[.slice a m c]).run Tryz.prog w = .ok (.int .i64 (m : Int)) w := by go_simp
theorem ix_z {b n c i : Nat} (hi : i < n) (hm : n ≤ 9223372036854775807) (W : World) : (Instr.indexAt 150 (.slice (some ⟨b, 0, none⟩) n c) (.int .i64 (i : Int))).run Tryz.prog W = .ok (.pointer (some ⟨b, i, none⟩)) W := by
  go_simp
theorem ix_sp {b o n c i : Nat} (hi : i < n) (hm : n ≤ 9223372036854775807) (W : World) : (Instr.indexAt 49 (.slice (some ⟨b, o, none⟩) n c) (.int .i64 (i : Int))).run Tryz.prog W = .ok (.pointer (some ⟨b, o + 7 * i, none⟩)) W := by
  rw [Nat.mul_comm]
  go_simp
theorem exec_buildSlice2 {P : Program} {w w2 : World} {a : Act} {o : Oper} {t n : Nat} {x y : Operand} {xv yv v : Value} (ho : o.op = .buildSlice t n #[(0, x), (1, y)]) (hx : a.eval x = xv) (hy : a.eval y = yv) (hl : (Instr.buildSlice t n #[(0, xv), (1, yv)]).run P w = .ok v w2) : (execOp a.eval o).run P w = .ok (.value v) w2 := by
  unfold execOp; simp only [ho, List.map_toArray, List.map_cons, List.map_nil, hx, hy, Sem.run_bind, hl, Result.andThen_ok, Sem.run_pure]
theorem ex_eqlK {a : Act} {w : World} {o : Oper} {x y : Operand} {p q : Int} {r : Bool} (ho : o.op = .binOp .eql 37 x y 37) (hx : a.eval x = .int .u8 p) (hy : a.eval y = .int .u8 q) (h : decide (p = q) = r) : (execOp a.eval o).run Tryz.prog w = .ok (.value (.bool r)) w := by
  unfold execOp
  simp only [ho, hx, hy]
  subst h
  by_cases e : p = q <;> go_simp
def pcZ : Value := .agg #[.slice none 0 0, .slice none 0 0, .slice none 0 0]
theorem build_pc (w : World) : (Instr.build 152 #[]).run Tryz.prog w = .ok pcZ w := by kernel_rfl
theorem exec_lookupN {P : Program} {w : World} {a : Act} {o : Oper} {t : TypeId} {x y : Operand} {xv yv v : Value} (ho : o.op = .lookup t x y false) (hx : a.eval x = xv) (hy : a.eval y = yv) (hl : (Instr.lookup t xv yv false).run P w = .ok v w) : (execOp a.eval o).run P w = .ok (.value v) w := by
  unfold execOp; simp only [ho, hx, hy, Sem.run_bind, hl, Result.andThen_ok, Sem.run_pure]
theorem exec_rangeM {P : Program} {w w2 : World} {a : Act} {o : Oper} {t : TypeId} {x : Operand} {xv v : Value} (ho : o.op = .range t x) (hx : a.eval x = xv) (hl : (Instr.range t xv).run P w = .ok v w2) : (execOp a.eval o).run P w = .ok (.value v) w2 := by
  unfold execOp; simp only [ho, hx, Sem.run_bind, hl, Result.andThen_ok, Sem.run_pure]
theorem exec_nextM {P : Program} {w w2 : World} {a : Act} {o : Oper} {b : Bool} {x : Operand} {xv v : Value} (ho : o.op = .next x b) (hx : a.eval x = xv) (hl : (Instr.next xv b o.type).run P w = .ok v w2) : (execOp a.eval o).run P w = .ok (.value v) w2 := by
  unfold execOp; simp only [ho, hx, Sem.run_bind, hl, Result.andThen_ok, Sem.run_pure]
theorem exec_entryM {P : Program} {w : World} {a : Act} {o : Oper} {x : Operand} {xv v : Value} (ho : o.op = .entry x) (hx : a.eval x = xv) (hl : (Instr.entry xv).run P w = .ok v w) : (execOp a.eval o).run P w = .ok (.value v) w := by
  unfold execOp; simp only [ho, hx, Sem.run_bind, hl, Result.andThen_ok, Sem.run_pure]
theorem ex_sub1 {w : World} {a : Act} {o : Oper} {x y : Operand} {p m : Int} (ho : o.op = .binOp .sub 3 x y 3) (hx : a.eval x = .int .i64 p) (hy : a.eval y = .int .i64 1) (h : p - 1 = m) (hb : -9223372036854775808 ≤ p - 1 ∧ p - 1 ≤ 9223372036854775807) : (execOp a.eval o).run Tryz.prog w = .ok (.value (.int .i64 m)) w := by
  rw [← h]
  exact ex_sub ho hx hy hb
theorem ex_addE {w : World} {a : Act} {o : Oper} {x y : Operand} {p k : Nat} (h : (p : Int) + 1 = (k : Int)) (hb : (k : Int) ≤ 9223372036854775807) (ho : o.op = .binOp .add 3 x y 3) (hx : a.eval x = .int .i64 p) (hy : a.eval y = .int .i64 1) : (execOp a.eval o).run Tryz.prog w = .ok (.value (.int .i64 (k : Int))) w := by
  rw [← h]
  exact ex_add ho hx hy (by omega)
def goe1f_ops : Array Oper := (⟨_, rfl⟩ : {o // some o = rgB Tryz.f90 1}).1
theorem goe1f {ab bb : Nat} {p q : SpV} (a : Act) (w : World) (Q : Exit → Act → World → Prop) (zz : a.tmps.size = 18)
    (t2 : a.tmps.getD 2 undef = .pointer (some ⟨ab, 0, none⟩))
    (t3 : a.tmps.getD 3 undef = .pointer (some ⟨bb, 0, none⟩))
    (hq : decide (p.to = q.fr) = false) (L1 : (Instr.loadAt 3 (.pointer (some ⟨ab, 0 + 1, none⟩))).run Tryz.prog w = .ok (.int .i64 p.to) w) (L2 : (Instr.loadAt 3 (.pointer (some ⟨bb, 0 + 0, none⟩))).run Tryz.prog w = .ok (.int .i64 q.fr) w)
    (h : ∀ a' w', w' = w → a' = (((((((((((((a.put (some 5) (.pointer (some ⟨ab, 0 + 1, none⟩))).put (some 6) (.int .i64 p.to)).put (some 7) (.pointer (some ⟨bb, 0 + 0, none⟩))).put (some 8) (.int .i64 q.fr)).put (some 9) (.bool false)).put (some 10) (.bool false)).put (some 11) (undef)).put (some 12) (undef)).put (some 13) (undef)).put (some 14) (undef)).put (some 15) (undef)).put (some 16) (undef)).put (some 17) (.bool false)).put (some 4) (.bool false) → Q .normal a' w') :
    (Code.region 1 goe1f_ops false).wp Tryz.prog Q a w := by
  refine z0 rfl ?_
  refine zv rfl (xfa rfl (zi t2 rfl) (fg_65_1 _ _ _)) ?_
  refine zv rfl (xld rfl (zg zz rfl) L1) ?_
  refine zv rfl (xfa rfl (zi t3 rfl) (fg_65_0 _ _ _)) ?_
  refine zv rfl (xld rfl (zg zz rfl) L2) ?_
  refine zv (v := .bool false) rfl (ex_eql rfl (zg zz rfl) (zg zz rfl) hq) ?_
  refine zv rfl (xmv rfl (zg zz rfl)) ?_
  iterate 6 refine zn (zx zz rfl rfl rfl (zg zz rfl)) ?_
  refine zv rfl (exec_pickF rfl (zg zz rfl) rfl) ?_
  refine zv rfl (xas rfl (zg zz rfl)) ?_
  exact ze rfl (h _ _ (rfl) rfl)
theorem goe1t {ab bb : Nat} {p q : SpV} {z : Int} {r : Bool} (Fin : World → Prop) (a : Act) (w : World) (Q : Exit → Act → World → Prop) (zz : a.tmps.size = 18)
    (t2 : a.tmps.getD 2 undef = .pointer (some ⟨ab, 0, none⟩))
    (t3 : a.tmps.getD 3 undef = .pointer (some ⟨bb, 0, none⟩))
    (hq : decide (p.to = q.fr) = true) (hz : decide (z = 0) = r) (L1 : (Instr.loadAt 3 (.pointer (some ⟨ab, 0 + 1, none⟩))).run Tryz.prog w = .ok (.int .i64 p.to) w) (L2 : (Instr.loadAt 3 (.pointer (some ⟨bb, 0 + 0, none⟩))).run Tryz.prog w = .ok (.int .i64 q.fr) w) (L3 : (Instr.loadAt 40 (.pointer (some ⟨ab, 0 + 3, none⟩))).run Tryz.prog w = .ok (p.v.v) w) (L4 : (Instr.loadAt 40 (.pointer (some ⟨bb, 0 + 3, none⟩))).run Tryz.prog w = .ok (q.v.v) w) (CC : Calls Tryz.prog 114 #[p.v.v, q.v.v] w fun e w' => e = .returned (.int .i64 z) ∧ Fin w')
    (h : ∀ a' w', Fin w' → a' = (((((((((((((a.put (some 5) (.pointer (some ⟨ab, 0 + 1, none⟩))).put (some 6) (.int .i64 p.to)).put (some 7) (.pointer (some ⟨bb, 0 + 0, none⟩))).put (some 8) (.int .i64 q.fr)).put (some 9) (.bool true)).put (some 10) (.bool true)).put (some 11) (.pointer (some ⟨ab, 0 + 3, none⟩))).put (some 12) (p.v.v)).put (some 13) (.pointer (some ⟨bb, 0 + 3, none⟩))).put (some 14) (q.v.v)).put (some 15) (.int .i64 z)).put (some 16) (.bool r)).put (some 17) (.bool r)).put (some 4) (.bool r) → Q .normal a' w') :
    (Code.region 1 goe1f_ops false).wp Tryz.prog Q a w := by
  refine z0 rfl ?_
  refine zv rfl (xfa rfl (zi t2 rfl) (fg_65_1 _ _ _)) ?_
  refine zv rfl (xld rfl (zg zz rfl) L1) ?_
  refine zv rfl (xfa rfl (zi t3 rfl) (fg_65_0 _ _ _)) ?_
  refine zv rfl (xld rfl (zg zz rfl) L2) ?_
  refine zv (v := .bool true) rfl (ex_eql rfl (zg zz rfl) (zg zz rfl) hq) ?_
  refine zv rfl (xmv rfl (zg zz rfl)) ?_
  refine zv (zw zz rfl rfl rfl (zg zz rfl)) (xfa rfl (zi t2 rfl) (fg_65_3 _ _ _)) ?_
  refine zv (zw zz rfl rfl rfl (zg zz rfl)) (xld rfl (zg zz rfl) L3) ?_
  refine zv (zw zz rfl rfl rfl (zg zz rfl)) (xfa rfl (zi t3 rfl) (fg_65_3 _ _ _)) ?_
  refine zv (zw zz rfl rfl rfl (zg zz rfl)) (xld rfl (zg zz rfl) L4) ?_
  refine zc (zw zz rfl rfl rfl (zg zz rfl)) (exec_c2 rfl (zg zz rfl) (zg zz rfl)) (CC) (fun e x10 hx => ?_)
  obtain ⟨rfl, HF⟩ := hx
  refine ⟨_, rfl, ?_⟩
  refine zv (v := .bool r) (zw zz rfl rfl rfl (zg zz rfl)) (ex_eql rfl (zg zz rfl) rfl hz) ?_
  refine zv rfl (exec_pickT rfl (zg zz rfl) (zg zz rfl)) ?_
  refine zv rfl (xas rfl (zg zz rfl)) ?_
  exact ze rfl (h _ _ (HF) rfl)
def opn1_ops : Array Oper := (⟨_, rfl⟩ : {o // some o = rgB Tryz.f113 1}).1
theorem opn1 {pb g n c ai x : Nat} {r : Bool} (a : Act) (w : World) (Q : Exit → Act → World → Prop) (zz : a.tmps.size = 41)
    (t0 : a.tmps.getD 0 undef = .pointer (some ⟨pb, 0, none⟩))
    (t1 : a.tmps.getD 1 undef = .int .i64 (ai : Int))
    (ha : ai < n) (hm : n ≤ 9223372036854775807) (hr : decide ((x : Int) ≠ (ai : Int)) = r) (LX : (Instr.loadAt 150 (.pointer (some ⟨pb, 0 + 2, none⟩))).run Tryz.prog w = .ok (.slice (some ⟨g, 0, none⟩) n c) w) (LA : (Instr.loadAt 3 (.pointer (some ⟨g, ai, none⟩))).run Tryz.prog w = .ok (.int .i64 (x : Int)) w)
    (h : ∀ a' w', w' = w → a' = ((((((((a.put (some 5) (.pointer (some ⟨pb, 0, none⟩))).put (some 6) (.pointer (some ⟨pb, 0, none⟩))).put (some 7) (.pointer (some ⟨pb, 0 + 2, none⟩))).put (some 8) (.slice (some ⟨g, 0, none⟩) n c)).put (some 9) (.int .i64 (ai : Int))).put (some 10) (.pointer (some ⟨g, ai, none⟩))).put (some 11) (.int .i64 (x : Int))).put (some 12) (.int .i64 (ai : Int))).put (some 13) (.bool r) → Q .normal a' w') :
    (Code.region 1 opn1_ops false).wp Tryz.prog Q a w := by
  refine z0 rfl ?_
  refine zv rfl (xmv rfl (zi t0 rfl)) ?_
  refine zv rfl (xnc rfl (zg zz rfl)) ?_
  refine zv rfl (xfa rfl (zg zz rfl) (fg_152_2 _ _ _)) ?_
  refine zv rfl (xld rfl (zg zz rfl) LX) ?_
  refine zv rfl (xmv rfl (zi t1 rfl)) ?_
  refine zv rfl (xia rfl (zg zz rfl) (zg zz rfl) (ix_z ha hm _)) ?_
  refine zv rfl (xld rfl (zg zz rfl) LA) ?_
  refine zv rfl (xmv rfl (zi t1 rfl)) ?_
  refine zv (v := .bool r) rfl (ex_neq rfl (zg zz rfl) (zg zz rfl) hr) ?_
  exact ze rfl (h _ _ (rfl) rfl)
def opn2_ops : Array Oper := (⟨_, rfl⟩ : {o // some o = rgB Tryz.f113 2}).1
theorem opn2 {pb g n c ai x y : Nat} {w2 : World} (a : Act) (w : World) (Q : Exit → Act → World → Prop) (zz : a.tmps.size = 41)
    (t0 : a.tmps.getD 0 undef = .pointer (some ⟨pb, 0, none⟩))
    (t1 : a.tmps.getD 1 undef = .int .i64 (ai : Int))
    (ha : ai < n) (hx : x < n) (hm : n ≤ 9223372036854775807) (LX : ∀ W, W = w.drew → (Instr.loadAt 150 (.pointer (some ⟨pb, 0 + 2, none⟩))).run Tryz.prog W = .ok (.slice (some ⟨g, 0, none⟩) n c) W) (LA : ∀ W, W = w.drew → (Instr.loadAt 3 (.pointer (some ⟨g, ai, none⟩))).run Tryz.prog W = .ok (.int .i64 (x : Int)) W) (LY : ∀ W, W = w.drew → (Instr.loadAt 3 (.pointer (some ⟨g, x, none⟩))).run Tryz.prog W = .ok (.int .i64 (y : Int)) W) (ES : (Instr.storeAt 3 (.pointer (some ⟨g, ai, none⟩)) (.int .i64 (y : Int))).run Tryz.prog w.drew = .ok () w2)
    (h : ∀ a' w', w' = w2 → a' = ((((((((((((((((((a.put (some 14) (.pointer (some ⟨pb, 0, none⟩))).put (some 15) (.pointer (some ⟨pb, 0, none⟩))).put (some 16) (.pointer (some ⟨pb, 0 + 2, none⟩))).put (some 17) (.slice (some ⟨g, 0, none⟩) n c)).put (some 18) (.int .i64 (ai : Int))).put (some 19) (.pointer (some ⟨pb, 0, none⟩))).put (some 20) (.pointer (some ⟨pb, 0, none⟩))).put (some 21) (.pointer (some ⟨pb, 0 + 2, none⟩))).put (some 22) (.slice (some ⟨g, 0, none⟩) n c)).put (some 23) (.pointer (some ⟨pb, 0, none⟩))).put (some 24) (.pointer (some ⟨pb, 0, none⟩))).put (some 25) (.pointer (some ⟨pb, 0 + 2, none⟩))).put (some 26) (.slice (some ⟨g, 0, none⟩) n c)).put (some 27) (.int .i64 (ai : Int))).put (some 28) (.pointer (some ⟨g, ai, none⟩))).put (some 29) (.int .i64 (x : Int))).put (some 30) (.pointer (some ⟨g, x, none⟩))).put (some 31) (.int .i64 (y : Int))).put (some 32) (.pointer (some ⟨g, ai, none⟩)) → Q .normal a' w') :
    (Code.region 2 opn2_ops true).wp Tryz.prog Q a w := by
  refine x0 19 (fun w' => w' = w.drew) (rfl) (fun hHeld => ?_)
  refine xv 0 rfl rfl (fun w1 hw => xmv rfl (zi t0 rfl)) hHeld ?_
  refine xv 1 rfl rfl (fun w1 hw => xnc rfl (zg zz rfl)) hHeld ?_
  refine xv 2 rfl rfl (fun w1 hw => xfa rfl (zg zz rfl) (fg_152_2 _ _ _)) hHeld ?_
  refine xv 3 rfl rfl (fun w1 hw => xld rfl (zg zz rfl) (LX _ hw)) hHeld ?_
  refine xv 4 rfl rfl (fun w1 hw => xmv rfl (zi t1 rfl)) hHeld ?_
  refine xv 5 rfl rfl (fun w1 hw => xmv rfl (zi t0 rfl)) hHeld ?_
  refine xv 6 rfl rfl (fun w1 hw => xnc rfl (zg zz rfl)) hHeld ?_
  refine xv 7 rfl rfl (fun w1 hw => xfa rfl (zg zz rfl) (fg_152_2 _ _ _)) hHeld ?_
  refine xv 8 rfl rfl (fun w1 hw => xld rfl (zg zz rfl) (LX _ hw)) hHeld ?_
  refine xv 9 rfl rfl (fun w1 hw => xmv rfl (zi t0 rfl)) hHeld ?_
  refine xv 10 rfl rfl (fun w1 hw => xnc rfl (zg zz rfl)) hHeld ?_
  refine xv 11 rfl rfl (fun w1 hw => xfa rfl (zg zz rfl) (fg_152_2 _ _ _)) hHeld ?_
  refine xv 12 rfl rfl (fun w1 hw => xld rfl (zg zz rfl) (LX _ hw)) hHeld ?_
  refine xv 13 rfl rfl (fun w1 hw => xmv rfl (zi t1 rfl)) hHeld ?_
  refine xv 14 rfl rfl (fun w1 hw => xia rfl (zg zz rfl) (zg zz rfl) (ix_z ha hm _)) hHeld ?_
  refine xv 15 rfl rfl (fun w1 hw => xld rfl (zg zz rfl) (LA _ hw)) hHeld ?_
  refine xv 16 rfl rfl (fun w1 hw => xia rfl (zg zz rfl) (zg zz rfl) (ix_z hx hm _)) hHeld ?_
  refine xv 17 rfl rfl (fun w1 hw => xld rfl (zg zz rfl) (LY _ hw)) hHeld ?_
  refine xv 18 rfl rfl (fun w1 hw => xia rfl (zg zz rfl) (zg zz rfl) (ix_z ha hm _)) hHeld ?_
  refine xs 19 rfl rfl (exec_store rfl (zg zz rfl) (zg zz rfl) ES) (fun hne => absurd rfl hne) (fun _ => ?_)
  exact xe rfl (h _ _ (rfl) rfl)
def opn3_ops : Array Oper := (⟨_, rfl⟩ : {o // some o = rgB Tryz.f113 3}).1
theorem opn3 {pb g n c ai x : Nat} (a : Act) (w : World) (Q : Exit → Act → World → Prop) (zz : a.tmps.size = 41)
    (t0 : a.tmps.getD 0 undef = .pointer (some ⟨pb, 0, none⟩))
    (t1 : a.tmps.getD 1 undef = .int .i64 (ai : Int))
    (ha : ai < n) (hm : n ≤ 9223372036854775807) (LX : (Instr.loadAt 150 (.pointer (some ⟨pb, 0 + 2, none⟩))).run Tryz.prog w = .ok (.slice (some ⟨g, 0, none⟩) n c) w) (LA : (Instr.loadAt 3 (.pointer (some ⟨g, ai, none⟩))).run Tryz.prog w = .ok (.int .i64 (x : Int)) w)
    (h : ∀ a' w', w' = w → a' = (((((((a.put (some 33) (.pointer (some ⟨pb, 0, none⟩))).put (some 34) (.pointer (some ⟨pb, 0, none⟩))).put (some 35) (.pointer (some ⟨pb, 0 + 2, none⟩))).put (some 36) (.slice (some ⟨g, 0, none⟩) n c)).put (some 37) (.int .i64 (ai : Int))).put (some 38) (.pointer (some ⟨g, ai, none⟩))).put (some 39) (.int .i64 (x : Int))).put (some 1) (.int .i64 (x : Int)) → Q .normal a' w') :
    (Code.region 3 opn3_ops false).wp Tryz.prog Q a w := by
  refine z0 rfl ?_
  refine zv rfl (xmv rfl (zi t0 rfl)) ?_
  refine zv rfl (xnc rfl (zg zz rfl)) ?_
  refine zv rfl (xfa rfl (zg zz rfl) (fg_152_2 _ _ _)) ?_
  refine zv rfl (xld rfl (zg zz rfl) LX) ?_
  refine zv rfl (xmv rfl (zi t1 rfl)) ?_
  refine zv rfl (xia rfl (zg zz rfl) (zg zz rfl) (ix_z ha hm _)) ?_
  refine zv rfl (xld rfl (zg zz rfl) LA) ?_
  refine zv rfl (xas rfl (zg zz rfl)) ?_
  exact ze rfl (h _ _ (rfl) rfl)
def cut1_ops : Array Oper := (⟨_, rfl⟩ : {o // some o = rgB Tryz.f88 1}).1
theorem cut1 {pb : Nat} {w1 : World} (a : Act) (w : World) (Q : Exit → Act → World → Prop) (zz : a.tmps.size = 73)
    (E1 : (Instr.box 152 pcZ).run Tryz.prog w = .ok (.pointer (some ⟨pb, 0, none⟩)) w1)
    (h : ∀ a' w', w' = w1 → a' = ((a.put (some 7) (pcZ)).put (some 8) (.pointer (some ⟨pb, 0, none⟩))).put (some 3) (.pointer (some ⟨pb, 0, none⟩)) → Q .normal a' w') :
    (Code.region 1 cut1_ops false).wp Tryz.prog Q a w := by
  refine z0 rfl ?_
  refine zv rfl (exec_build0 rfl (build_pc _)) ?_
  refine zv (v := .pointer (some ⟨pb, 0, none⟩)) rfl (exec_boxM rfl (zg zz rfl) E1) ?_
  refine zv rfl (xas rfl (zg zz rfl)) ?_
  exact ze rfl (h _ _ (rfl) rfl)
def cut4_ops : Array Oper := (⟨_, rfl⟩ : {o // some o = rgB Tryz.f88 4}).1
theorem cut4 {g o n c i eb : Nat} {x : SpV} {w1 w2 : World} (a : Act) (w : World) (Q : Exit → Act → World → Prop) (zz : a.tmps.size = 73)
    (t9 : a.tmps.getD 9 undef = .slice (some ⟨g, o, none⟩) n c)
    (t11 : a.tmps.getD 11 undef = .int .i64 (i : Int))
    (hi : i < n) (hm : n ≤ 9223372036854775807) (LX : (Instr.loadAt 65 (.pointer (some ⟨g, o + 7 * i, none⟩))).run Tryz.prog w = .ok (x.a) w) (EA : (Instr.alloc 65 true (.tuple #[])).run Tryz.prog w = .ok (.pointer (some ⟨eb, 0, none⟩)) w1) (ES : (Instr.storeAt 65 (.pointer (some ⟨eb, 0, none⟩)) (x.a)).run Tryz.prog w1 = .ok () w2)
    (h : ∀ a' w', w' = w2 → a' = ((a.put (some 13) (.pointer (some ⟨g, o + 7 * i, none⟩))).put (some 14) (x.a)).put (some 5) (.pointer (some ⟨eb, 0, none⟩)) → Q .normal a' w') :
    (Code.region 4 cut4_ops false).wp Tryz.prog Q a w := by
  refine z0 rfl ?_
  refine zv rfl (xia rfl (zi t9 rfl) (zi t11 rfl) (ix_sp hi hm _)) ?_
  refine zv rfl (xld rfl (zg zz rfl) LX) ?_
  refine zv (v := .pointer (some ⟨eb, 0, none⟩)) rfl (exec_alloc rfl EA) ?_
  refine zs rfl (exec_store rfl (zg zz rfl) (zg zz rfl) ES) ?_
  exact ze rfl (h _ _ (rfl) rfl)
def cut5_ops : Array Oper := (⟨_, rfl⟩ : {o // some o = rgB Tryz.f88 5}).1
theorem cut5 {pb eb : Nat} {x : SpV} {kv sv v2 : Value} {w1 w2 w3 : World} (S : World → Prop) (a : Act) (w : World) (Q : Exit → Act → World → Prop) (zz : a.tmps.size = 73)
    (t3 : a.tmps.getD 3 undef = .pointer (some ⟨pb, 0, none⟩))
    (t5 : a.tmps.getD 5 undef = .pointer (some ⟨eb, 0, none⟩))
    (h0 : S w.drew) (LK : ∀ W, S W → (Instr.loadAt 150 (.pointer (some ⟨pb, 0 + 0, none⟩))).run Tryz.prog W = .ok (kv) W) (LF : ∀ W, S W → (Instr.loadAt 3 (.pointer (some ⟨eb, 0 + 0, none⟩))).run Tryz.prog W = .ok (.int .i64 x.fr) W) (LT : ∀ W, S W → (Instr.loadAt 3 (.pointer (some ⟨eb, 0 + 1, none⟩))).run Tryz.prog W = .ok (.int .i64 x.to) W) (EB : (Instr.buildSlice 150 2 #[(0, .int .i64 x.fr), (1, .int .i64 x.to)]).run Tryz.prog w.drew = .ok sv w1) (S1 : S w1) (EA : (Builtin.append_ #[150, 150] 150 #[kv, sv]).run Tryz.prog w1 = .ok v2 w2) (S2 : S w2) (ES : (Instr.storeAt 150 (.pointer (some ⟨pb, 0 + 0, none⟩)) (v2)).run Tryz.prog w2 = .ok () w3)
    (h : ∀ a' w', w' = w3 → a' = ((((((((((((a.put (some 15) (.pointer (some ⟨pb, 0, none⟩))).put (some 16) (.pointer (some ⟨pb, 0, none⟩))).put (some 17) (.pointer (some ⟨pb, 0, none⟩))).put (some 18) (.pointer (some ⟨pb, 0 + 0, none⟩))).put (some 19) (kv)).put (some 20) (.pointer (some ⟨eb, 0 + 0, none⟩))).put (some 21) (.int .i64 x.fr)).put (some 22) (.pointer (some ⟨eb, 0 + 1, none⟩))).put (some 23) (.int .i64 x.to)).put (some 24) (sv)).put (some 25) (v2)).put (some 26) (.pointer (some ⟨pb, 0, none⟩))).put (some 27) (.pointer (some ⟨pb, 0 + 0, none⟩)) → Q .normal a' w') :
    (Code.region 5 cut5_ops true).wp Tryz.prog Q a w := by
  refine x0 13 (fun w' => S w') (h0) (fun hHeld => ?_)
  refine xv 0 rfl rfl (fun w1 hw => xmv rfl (zi t3 rfl)) hHeld ?_
  refine xv 1 rfl rfl (fun w1 hw => xmv rfl (zi t3 rfl)) hHeld ?_
  refine xv 2 rfl rfl (fun w1 hw => xnc rfl (zg zz rfl)) hHeld ?_
  refine xv 3 rfl rfl (fun w1 hw => xfa rfl (zg zz rfl) (fg_152_0 _ _ _)) hHeld ?_
  refine xv 4 rfl rfl (fun w1 hw => xld rfl (zg zz rfl) (LK _ hw)) hHeld ?_
  refine xv 5 rfl rfl (fun w1 hw => xfa rfl (zi t5 rfl) (fg_65_0 _ _ _)) hHeld ?_
  refine xv 6 rfl rfl (fun w1 hw => xld rfl (zg zz rfl) (LF _ hw)) hHeld ?_
  refine xv 7 rfl rfl (fun w1 hw => xfa rfl (zi t5 rfl) (fg_65_1 _ _ _)) hHeld ?_
  refine xv 8 rfl rfl (fun w1 hw => xld rfl (zg zz rfl) (LT _ hw)) hHeld ?_
  refine xr (v := sv) 9 rfl rfl (exec_buildSlice2 rfl (zg zz rfl) (zg zz rfl) EB) (fun _ => S1) (fun hHeld => ?_)
  replace hHeld := hHeld (by decide)
  refine xr (v := v2) 10 rfl rfl (exec_append rfl (zg zz rfl) (zg zz rfl) EA) (fun _ => S2) (fun hHeld => ?_)
  replace hHeld := hHeld (by decide)
  refine xv 11 rfl rfl (fun w1 hw => xnc rfl (zg zz rfl)) hHeld ?_
  refine xv 12 rfl rfl (fun w1 hw => xfa rfl (zg zz rfl) (fg_152_0 _ _ _)) hHeld ?_
  refine xs 13 rfl rfl (exec_store rfl (zg zz rfl) (zg zz rfl) ES) (fun hne => absurd rfl hne) (fun _ => ?_)
  exact xe rfl (h _ _ (rfl) rfl)
def cut7_ops : Array Oper := (⟨_, rfl⟩ : {o // some o = rgB Tryz.f88 7}).1
theorem cut7 {pb : Nat} {kv : Value} (Fin : World → Prop) (a : Act) (w : World) (Q : Exit → Act → World → Prop) (zz : a.tmps.size = 73)
    (t3 : a.tmps.getD 3 undef = .pointer (some ⟨pb, 0, none⟩))
    (LK : (Instr.loadAt 150 (.pointer (some ⟨pb, 0 + 0, none⟩))).run Tryz.prog w = .ok (kv) w) (CC : Calls Tryz.prog 108 #[kv] w fun e w' => e = .returned (.tuple #[]) ∧ Fin w')
    (h : ∀ a' w', Fin w' → a' = ((((a.put (some 29) (.pointer (some ⟨pb, 0, none⟩))).put (some 30) (.pointer (some ⟨pb, 0, none⟩))).put (some 31) (.pointer (some ⟨pb, 0 + 0, none⟩))).put (some 32) (kv)).put (some 33) (.tuple #[]) → Q .normal a' w') :
    (Code.region 7 cut7_ops false).wp Tryz.prog Q a w := by
  refine z0 rfl ?_
  refine zv rfl (xmv rfl (zi t3 rfl)) ?_
  refine zv rfl (xnc rfl (zg zz rfl)) ?_
  refine zv rfl (xfa rfl (zg zz rfl) (fg_152_0 _ _ _)) ?_
  refine zv rfl (xld rfl (zg zz rfl) LK) ?_
  refine zc rfl (exec_c1 rfl (zg zz rfl)) (CC) (fun e x4 hx => ?_)
  obtain ⟨rfl, HF⟩ := hx
  refine ⟨_, rfl, ?_⟩
  exact ze rfl (h _ _ (HF) rfl)
def cut8_ops : Array Oper := (⟨_, rfl⟩ : {o // some o = rgB Tryz.f88 8}).1
theorem cut8 {pb : Nat} {kv : Value} (Fin : Value → World → Prop) (a : Act) (w : World) (Q : Exit → Act → World → Prop) (zz : a.tmps.size = 73)
    (t3 : a.tmps.getD 3 undef = .pointer (some ⟨pb, 0, none⟩))
    (LK : (Instr.loadAt 150 (.pointer (some ⟨pb, 0 + 0, none⟩))).run Tryz.prog w = .ok (kv) w) (CC : Calls Tryz.prog 109 #[kv] w fun e w1 => ∃ u2, e = .returned u2 ∧ ∃ w2, (Instr.storeAt 150 (.pointer (some ⟨pb, 0 + 0, none⟩)) u2).run Tryz.prog w1 = .ok () w2 ∧ Fin u2 w2)
    (h : ∀ (u2 : Value) a' w', Fin u2 w' → a' = (((((((a.put (some 34) (.pointer (some ⟨pb, 0, none⟩))).put (some 35) (.pointer (some ⟨pb, 0, none⟩))).put (some 36) (.pointer (some ⟨pb, 0, none⟩))).put (some 37) (.pointer (some ⟨pb, 0 + 0, none⟩))).put (some 38) (kv)).put (some 39) (u2)).put (some 40) (.pointer (some ⟨pb, 0, none⟩))).put (some 41) (.pointer (some ⟨pb, 0 + 0, none⟩)) → Q .normal a' w') :
    (Code.region 8 cut8_ops false).wp Tryz.prog Q a w := by
  refine z0 rfl ?_
  iterate 2 refine zv rfl (xmv rfl (zi t3 rfl)) ?_
  refine zv rfl (xnc rfl (zg zz rfl)) ?_
  refine zv rfl (xfa rfl (zg zz rfl) (fg_152_0 _ _ _)) ?_
  refine zv rfl (xld rfl (zg zz rfl) LK) ?_
  refine zc rfl (exec_c1 rfl (zg zz rfl)) (CC) (fun e x5 hx => ?_)
  obtain ⟨u2, rfl, w2, ES, HF⟩ := hx
  replace h := h u2
  refine ⟨_, rfl, ?_⟩
  refine zv rfl (xnc rfl (zg zz rfl)) ?_
  refine zv rfl (xfa rfl (zg zz rfl) (fg_152_0 _ _ _)) ?_
  refine zs rfl (exec_store rfl (zg zz rfl) (zg zz rfl) ES) ?_
  exact ze rfl (h _ _ (HF) rfl)
def cut9_ops : Array Oper := (⟨_, rfl⟩ : {o // some o = rgB Tryz.f88 9}).1
theorem cut9 {pb n c : Nat} {la : Option Addr} (a : Act) (w : World) (Q : Exit → Act → World → Prop) (zz : a.tmps.size = 73)
    (t3 : a.tmps.getD 3 undef = .pointer (some ⟨pb, 0, none⟩))
    (LK : (Instr.loadAt 150 (.pointer (some ⟨pb, 0 + 0, none⟩))).run Tryz.prog w = .ok (.slice la n c) w)
    (h : ∀ a' w', w' = w → a' = (((((a.put (some 42) (.pointer (some ⟨pb, 0, none⟩))).put (some 43) (.pointer (some ⟨pb, 0, none⟩))).put (some 44) (.pointer (some ⟨pb, 0 + 0, none⟩))).put (some 45) (.slice la n c)).put (some 46) (.int .i64 (n : Int))).put (some 47) (.int .i64 0) → Q .normal a' w') :
    (Code.region 9 cut9_ops false).wp Tryz.prog Q a w := by
  refine z0 rfl ?_
  refine zv rfl (xmv rfl (zi t3 rfl)) ?_
  refine zv rfl (xnc rfl (zg zz rfl)) ?_
  refine zv rfl (xfa rfl (zg zz rfl) (fg_152_0 _ _ _)) ?_
  refine zv rfl (xld rfl (zg zz rfl) LK) ?_
  refine zv rfl (exec_len rfl (zg zz rfl) (len_z _ _ _ _)) ?_
  refine zv rfl (xmv rfl rfl) ?_
  exact ze rfl (h _ _ (rfl) rfl)
def cut12_ops : Array Oper := (⟨_, rfl⟩ : {o // some o = rgB Tryz.f88 12}).1
theorem cut12 {pb : Nat} {i : Int} {xv sv v2 : Value} {w1 w2 w3 : World} (a : Act) (w : World) (Q : Exit → Act → World → Prop) (zz : a.tmps.size = 73)
    (t3 : a.tmps.getD 3 undef = .pointer (some ⟨pb, 0, none⟩))
    (t6 : a.tmps.getD 6 undef = .int .i64 i)
    (LX : (Instr.loadAt 150 (.pointer (some ⟨pb, 0 + 2, none⟩))).run Tryz.prog w = .ok (xv) w) (EB : (Instr.buildSlice 150 1 #[(0, .int .i64 i)]).run Tryz.prog w = .ok sv w1) (EA : (Builtin.append_ #[150, 150] 150 #[xv, sv]).run Tryz.prog w1 = .ok v2 w2) (ES : (Instr.storeAt 150 (.pointer (some ⟨pb, 0 + 2, none⟩)) (v2)).run Tryz.prog w2 = .ok () w3)
    (h : ∀ a' w', w' = w3 → a' = (((((((((a.put (some 50) (.pointer (some ⟨pb, 0, none⟩))).put (some 51) (.pointer (some ⟨pb, 0, none⟩))).put (some 52) (.pointer (some ⟨pb, 0, none⟩))).put (some 53) (.pointer (some ⟨pb, 0 + 2, none⟩))).put (some 54) (xv)).put (some 55) (.int .i64 i)).put (some 56) (sv)).put (some 57) (v2)).put (some 58) (.pointer (some ⟨pb, 0, none⟩))).put (some 59) (.pointer (some ⟨pb, 0 + 2, none⟩)) → Q .normal a' w') :
    (Code.region 12 cut12_ops false).wp Tryz.prog Q a w := by
  refine z0 rfl ?_
  iterate 2 refine zv rfl (xmv rfl (zi t3 rfl)) ?_
  refine zv rfl (xnc rfl (zg zz rfl)) ?_
  refine zv rfl (xfa rfl (zg zz rfl) (fg_152_2 _ _ _)) ?_
  refine zv rfl (xld rfl (zg zz rfl) LX) ?_
  refine zv rfl (xmv rfl (zi t6 rfl)) ?_
  refine zv (v := sv) rfl (exec_buildSlice rfl (zg zz rfl) EB) ?_
  refine zv (v := v2) rfl (exec_append rfl (zg zz rfl) (zg zz rfl) EA) ?_
  refine zv rfl (xnc rfl (zg zz rfl)) ?_
  refine zv rfl (xfa rfl (zg zz rfl) (fg_152_2 _ _ _)) ?_
  refine zs rfl (exec_store rfl (zg zz rfl) (zg zz rfl) ES) ?_
  exact ze rfl (h _ _ (rfl) rfl)
def cut14_ops : Array Oper := (⟨_, rfl⟩ : {o // some o = rgB Tryz.f88 14}).1
theorem cut14 {pb n c : Nat} {m : Int} {la : Option Addr} {sv : Value} {w1 : World} (Fin : Value → World → Prop) (a : Act) (w : World) (Q : Exit → Act → World → Prop) (zz : a.tmps.size = 73)
    (t3 : a.tmps.getD 3 undef = .pointer (some ⟨pb, 0, none⟩))
    (hm : (n : Int) - 1 = m) (hb : -9223372036854775808 ≤ (n : Int) - 1 ∧ (n : Int) - 1 ≤ 9223372036854775807) (EB : (Instr.buildSlice 150 1 #[(0, .int .i64 (-1))]).run Tryz.prog w = .ok sv w1) (LK : (Instr.loadAt 150 (.pointer (some ⟨pb, 0 + 0, none⟩))).run Tryz.prog w1 = .ok (.slice la n c) w1) (CC : Calls Tryz.prog 110 #[sv, .int .i64 m] w1 fun e w1 => ∃ u2, e = .returned u2 ∧ ∃ w2, (Instr.storeAt 150 (.pointer (some ⟨pb, 0 + 1, none⟩)) u2).run Tryz.prog w1 = .ok () w2 ∧ Fin u2 w2)
    (h : ∀ (u2 : Value) a' w', Fin u2 w' → a' = ((((((((((a.put (some 61) (.pointer (some ⟨pb, 0, none⟩))).put (some 62) (sv)).put (some 63) (.pointer (some ⟨pb, 0, none⟩))).put (some 64) (.pointer (some ⟨pb, 0, none⟩))).put (some 65) (.pointer (some ⟨pb, 0 + 0, none⟩))).put (some 66) (.slice la n c)).put (some 67) (.int .i64 (n : Int))).put (some 68) (.int .i64 m)).put (some 69) (u2)).put (some 70) (.pointer (some ⟨pb, 0, none⟩))).put (some 71) (.pointer (some ⟨pb, 0 + 1, none⟩)) → Q .normal a' w') :
    (Code.region 14 cut14_ops false).wp Tryz.prog Q a w := by
  refine z0 rfl ?_
  refine zv rfl (xmv rfl (zi t3 rfl)) ?_
  refine zv (v := sv) rfl (exec_buildSlice rfl rfl EB) ?_
  refine zv rfl (xmv rfl (zi t3 rfl)) ?_
  refine zv rfl (xnc rfl (zg zz rfl)) ?_
  refine zv rfl (xfa rfl (zg zz rfl) (fg_152_0 _ _ _)) ?_
  refine zv rfl (xld rfl (zg zz rfl) LK) ?_
  refine zv rfl (exec_len rfl (zg zz rfl) (len_z _ _ _ _)) ?_
  refine zv (v := .int .i64 m) rfl (ex_sub1 rfl (zg zz rfl) rfl hm hb) ?_
  refine zc rfl (exec_c2 rfl (zg zz rfl) (zg zz rfl)) (CC) (fun e x8 hx => ?_)
  obtain ⟨u2, rfl, w2, ES, HF⟩ := hx
  replace h := h u2
  refine ⟨_, rfl, ?_⟩
  refine zv rfl (xnc rfl (zg zz rfl)) ?_
  refine zv rfl (xfa rfl (zg zz rfl) (fg_152_1 _ _ _)) ?_
  refine zs rfl (exec_store rfl (zg zz rfl) (zg zz rfl) ES) ?_
  exact ze rfl (h _ _ (HF) rfl)
def run4_ops : Array Oper := (⟨_, rfl⟩ : {o // some o = rgB Tryz.f64 4}).1
theorem run4 {pb n c : Nat} {la : Option Addr} (a : Act) (w : World) (Q : Exit → Act → World → Prop) (zz : a.tmps.size = 81)
    (t3 : a.tmps.getD 3 undef = .pointer (some ⟨pb, 0, none⟩))
    (LH : (Instr.loadAt 150 (.pointer (some ⟨pb, 0 + 1, none⟩))).run Tryz.prog w = .ok (.slice la n c) w)
    (h : ∀ a' w', w' = w → a' = (((((a.put (some 14) (.pointer (some ⟨pb, 0, none⟩))).put (some 15) (.pointer (some ⟨pb, 0, none⟩))).put (some 16) (.pointer (some ⟨pb, 0 + 1, none⟩))).put (some 17) (.slice la n c)).put (some 18) (.int .i64 (n : Int))).put (some 19) (.int .i64 0) → Q .normal a' w') :
    (Code.region 4 run4_ops false).wp Tryz.prog Q a w := by
  refine z0 rfl ?_
  refine zv rfl (xmv rfl (zi t3 rfl)) ?_
  refine zv rfl (xnc rfl (zg zz rfl)) ?_
  refine zv rfl (xfa rfl (zg zz rfl) (fg_152_1 _ _ _)) ?_
  refine zv rfl (xld rfl (zg zz rfl) LH) ?_
  refine zv rfl (exec_len rfl (zg zz rfl) (len_z _ _ _ _)) ?_
  refine zv rfl (xmv rfl rfl) ?_
  exact ze rfl (h _ _ (rfl) rfl)
def run6_ops : Array Oper := (⟨_, rfl⟩ : {o // some o = rgB Tryz.f64 6}).1
theorem run6 {g n c ai : Nat} {z : Int} (a : Act) (w : World) (Q : Exit → Act → World → Prop) (zz : a.tmps.size = 81)
    (t17 : a.tmps.getD 17 undef = .slice (some ⟨g, 0, none⟩) n c)
    (t19 : a.tmps.getD 19 undef = .int .i64 (ai : Int))
    (ha : ai < n) (hm : n ≤ 9223372036854775807) (LA : (Instr.loadAt 3 (.pointer (some ⟨g, ai, none⟩))).run Tryz.prog w = .ok (.int .i64 z) w)
    (h : ∀ a' w', w' = w → a' = ((((a.put (some 21) (.int .i64 (ai : Int))).put (some 22) (.pointer (some ⟨g, ai, none⟩))).put (some 23) (.int .i64 z)).put (some 5) (.int .i64 (ai : Int))).put (some 6) (.int .i64 z) → Q .normal a' w') :
    (Code.region 6 run6_ops false).wp Tryz.prog Q a w := by
  refine z0 rfl ?_
  refine zv rfl (xmv rfl (zi t19 rfl)) ?_
  refine zv rfl (xia rfl (zi t17 rfl) (zi t19 rfl) (ix_z ha hm _)) ?_
  refine zv rfl (xld rfl (zg zz rfl) LA) ?_
  iterate 2 refine zv rfl (xas rfl (zg zz rfl)) ?_
  exact ze rfl (h _ _ (rfl) rfl)
def run7t_ops : Array Oper := (⟨_, rfl⟩ : {o // some o = rgB Tryz.f64 7}).1
theorem run7t {cv : Value} (a : Act) (w : World) (Q : Exit → Act → World → Prop) (zz : a.tmps.size = 81)
    (t0 : a.tmps.getD 0 undef = cv)
    (t6 : a.tmps.getD 6 undef = .int .i64 (-1))
    (h : ∀ a' w', w' = w → a' = ((((((((((a.put (some 24) (.int .i64 (-1))).put (some 25) (.bool true)).put (some 26) (.bool true)).put (some 27) (undef)).put (some 28) (undef)).put (some 29) (undef)).put (some 30) (undef)).put (some 31) (undef)).put (some 32) (undef)).put (some 33) (undef)).put (some 34) (.bool true) → Q .normal a' w') :
    (Code.region 7 run7t_ops false).wp Tryz.prog Q a w := by
  refine z0 rfl ?_
  refine zv rfl (xmv rfl (zi t6 rfl)) ?_
  refine zv (v := .bool true) rfl (ex_eql rfl (zg zz rfl) rfl rfl) ?_
  refine zv rfl (xmv rfl (zg zz rfl)) ?_
  iterate 7 refine zn (zx zz rfl rfl rfl (zg zz rfl)) ?_
  refine zv rfl (exec_pickT rfl (zg zz rfl) rfl) ?_
  exact ze rfl (h _ _ (rfl) rfl)
theorem run7f {g o n c i : Nat} {x : SpV} {r : Bool} (a : Act) (w : World) (Q : Exit → Act → World → Prop) (zz : a.tmps.size = 81)
    (t0 : a.tmps.getD 0 undef = .slice (some ⟨g, o, none⟩) n c)
    (t6 : a.tmps.getD 6 undef = .int .i64 (i : Int))
    (hi : i < n) (hm : n ≤ 9223372036854775807) (h1 : decide ((i : Int) = -1) = false) (hr : decide (x.v.k = 0) = r) (LK : (Instr.loadAt 37 (.pointer (some ⟨g, o + 7 * i + 3 + 0, none⟩))).run Tryz.prog w = .ok (.int .u8 x.v.k) w)
    (h : ∀ a' w', w' = w → a' = ((((((((((a.put (some 24) (.int .i64 (i : Int))).put (some 25) (.bool false)).put (some 26) (.bool false)).put (some 27) (.slice (some ⟨g, o, none⟩) n c)).put (some 28) (.int .i64 (i : Int))).put (some 29) (.pointer (some ⟨g, o + 7 * i, none⟩))).put (some 30) (.pointer (some ⟨g, o + 7 * i + 3, none⟩))).put (some 31) (.pointer (some ⟨g, o + 7 * i + 3 + 0, none⟩))).put (some 32) (.int .u8 x.v.k)).put (some 33) (.bool r)).put (some 34) (.bool r) → Q .normal a' w') :
    (Code.region 7 run7t_ops false).wp Tryz.prog Q a w := by
  refine z0 rfl ?_
  refine zv rfl (xmv rfl (zi t6 rfl)) ?_
  refine zv (v := .bool false) rfl (ex_eql rfl (zg zz rfl) rfl h1) ?_
  refine zv rfl (xmv rfl (zg zz rfl)) ?_
  refine zv (zw zz rfl rfl rfl (zg zz rfl)) (xmv rfl (zi t0 rfl)) ?_
  refine zv (zw zz rfl rfl rfl (zg zz rfl)) (xmv rfl (zi t6 rfl)) ?_
  refine zv (zw zz rfl rfl rfl (zg zz rfl)) (xia rfl (zg zz rfl) (zg zz rfl) (ix_sp hi hm _)) ?_
  refine zv (zw zz rfl rfl rfl (zg zz rfl)) (xfa rfl (zg zz rfl) (fg_65_3 _ _ _)) ?_
  refine zv (zw zz rfl rfl rfl (zg zz rfl)) (xfa rfl (zg zz rfl) (fg_40_0 _ _ _)) ?_
  refine zv (zw zz rfl rfl rfl (zg zz rfl)) (xld rfl (zg zz rfl) LK) ?_
  refine zv (v := .bool r) (zw zz rfl rfl rfl (zg zz rfl)) (ex_eqlK rfl (zg zz rfl) rfl hr) ?_
  refine zv rfl (exec_pickF rfl (zg zz rfl) (zg zz rfl)) ?_
  exact ze rfl (h _ _ (rfl) rfl)
def run8_ops : Array Oper := (⟨_, rfl⟩ : {o // some o = rgB Tryz.f64 8}).1
theorem run8 {g o n c i eb : Nat} {x : SpV} {w1 w2 : World} (a : Act) (w : World) (Q : Exit → Act → World → Prop) (zz : a.tmps.size = 81)
    (t0 : a.tmps.getD 0 undef = .slice (some ⟨g, o, none⟩) n c)
    (t6 : a.tmps.getD 6 undef = .int .i64 (i : Int))
    (hi : i < n) (hm : n ≤ 9223372036854775807) (LX : (Instr.loadAt 65 (.pointer (some ⟨g, o + 7 * i, none⟩))).run Tryz.prog w = .ok (x.a) w) (EA : (Instr.alloc 65 true (.tuple #[])).run Tryz.prog w = .ok (.pointer (some ⟨eb, 0, none⟩)) w1) (ES : (Instr.storeAt 65 (.pointer (some ⟨eb, 0, none⟩)) (x.a)).run Tryz.prog w1 = .ok () w2)
    (h : ∀ a' w', w' = w2 → a' = ((((a.put (some 35) (.slice (some ⟨g, o, none⟩) n c)).put (some 36) (.int .i64 (i : Int))).put (some 37) (.pointer (some ⟨g, o + 7 * i, none⟩))).put (some 38) (x.a)).put (some 7) (.pointer (some ⟨eb, 0, none⟩)) → Q .normal a' w') :
    (Code.region 8 run8_ops false).wp Tryz.prog Q a w := by
  refine z0 rfl ?_
  refine zv rfl (xmv rfl (zi t0 rfl)) ?_
  refine zv rfl (xmv rfl (zi t6 rfl)) ?_
  refine zv rfl (xia rfl (zg zz rfl) (zg zz rfl) (ix_sp hi hm _)) ?_
  refine zv rfl (xld rfl (zg zz rfl) LX) ?_
  refine zv (v := .pointer (some ⟨eb, 0, none⟩)) rfl (exec_alloc rfl EA) ?_
  refine zs rfl (exec_store rfl (zg zz rfl) (zg zz rfl) ES) ?_
  exact ze rfl (h _ _ (rfl) rfl)
def run9_ops : Array Oper := (⟨_, rfl⟩ : {o // some o = rgB Tryz.f64 9}).1
theorem run9 {pb eb g n c ai aj : Nat} {x y : Int} {w1 w2 : World} (S : World → Prop) (a : Act) (w : World) (Q : Exit → Act → World → Prop) (zz : a.tmps.size = 81)
    (t3 : a.tmps.getD 3 undef = .pointer (some ⟨pb, 0, none⟩))
    (t5 : a.tmps.getD 5 undef = .int .i64 (ai : Int))
    (t7 : a.tmps.getD 7 undef = .pointer (some ⟨eb, 0, none⟩))
    (h0 : S w.drew) (ha : ai < n) (ha1 : aj < n) (hE : (ai : Int) + 1 = (aj : Int)) (hb : (aj : Int) ≤ 9223372036854775807) (hm : n ≤ 9223372036854775807) (LK : ∀ W, S W → (Instr.loadAt 150 (.pointer (some ⟨pb, 0 + 0, none⟩))).run Tryz.prog W = .ok (.slice (some ⟨g, 0, none⟩) n c) W) (LA : ∀ W, S W → (Instr.loadAt 3 (.pointer (some ⟨g, ai, none⟩))).run Tryz.prog W = .ok (.int .i64 x) W) (LB : ∀ W, S W → (Instr.loadAt 3 (.pointer (some ⟨g, aj, none⟩))).run Tryz.prog W = .ok (.int .i64 y) W) (E1 : (Instr.storeAt 3 (.pointer (some ⟨eb, 0 + 0, none⟩)) (.int .i64 x)).run Tryz.prog w.drew = .ok () w1) (S1 : S w1) (E2 : (Instr.storeAt 3 (.pointer (some ⟨eb, 0 + 1, none⟩)) (.int .i64 y)).run Tryz.prog w1 = .ok () w2)
    (h : ∀ a' w', w' = w2 → a' = ((((((((((((((((a.put (some 39) (.pointer (some ⟨pb, 0, none⟩))).put (some 40) (.pointer (some ⟨pb, 0, none⟩))).put (some 41) (.pointer (some ⟨pb, 0 + 0, none⟩))).put (some 42) (.slice (some ⟨g, 0, none⟩) n c)).put (some 43) (.int .i64 (ai : Int))).put (some 44) (.pointer (some ⟨g, ai, none⟩))).put (some 45) (.int .i64 x)).put (some 46) (.pointer (some ⟨pb, 0, none⟩))).put (some 47) (.pointer (some ⟨pb, 0, none⟩))).put (some 48) (.pointer (some ⟨pb, 0 + 0, none⟩))).put (some 49) (.slice (some ⟨g, 0, none⟩) n c)).put (some 50) (.int .i64 (ai : Int))).put (some 51) (.int .i64 (aj : Int))).put (some 52) (.pointer (some ⟨g, aj, none⟩))).put (some 53) (.int .i64 y)).put (some 54) (.pointer (some ⟨eb, 0 + 0, none⟩))).put (some 55) (.pointer (some ⟨eb, 0 + 1, none⟩)) → Q .normal a' w') :
    (Code.region 9 run9_ops true).wp Tryz.prog Q a w := by
  refine x0 18 (fun w' => S w') (h0) (fun hHeld => ?_)
  refine xv 0 rfl rfl (fun w1 hw => xmv rfl (zi t3 rfl)) hHeld ?_
  refine xv 1 rfl rfl (fun w1 hw => xnc rfl (zg zz rfl)) hHeld ?_
  refine xv 2 rfl rfl (fun w1 hw => xfa rfl (zg zz rfl) (fg_152_0 _ _ _)) hHeld ?_
  refine xv 3 rfl rfl (fun w1 hw => xld rfl (zg zz rfl) (LK _ hw)) hHeld ?_
  refine xv 4 rfl rfl (fun w1 hw => xmv rfl (zi t5 rfl)) hHeld ?_
  refine xv 5 rfl rfl (fun w1 hw => xia rfl (zg zz rfl) (zg zz rfl) (ix_z ha hm _)) hHeld ?_
  refine xv 6 rfl rfl (fun w1 hw => xld rfl (zg zz rfl) (LA _ hw)) hHeld ?_
  refine xv 7 rfl rfl (fun w1 hw => xmv rfl (zi t3 rfl)) hHeld ?_
  refine xv 8 rfl rfl (fun w1 hw => xnc rfl (zg zz rfl)) hHeld ?_
  refine xv 9 rfl rfl (fun w1 hw => xfa rfl (zg zz rfl) (fg_152_0 _ _ _)) hHeld ?_
  refine xv 10 rfl rfl (fun w1 hw => xld rfl (zg zz rfl) (LK _ hw)) hHeld ?_
  refine xv 11 rfl rfl (fun w1 hw => xmv rfl (zi t5 rfl)) hHeld ?_
  refine xv (v := .int .i64 (aj : Int)) 12 rfl rfl (fun w1 hw => ex_addE hE hb rfl (zg zz rfl) rfl) hHeld ?_
  refine xv 13 rfl rfl (fun w1 hw => xia rfl (zg zz rfl) (zg zz rfl) (ix_z ha1 hm _)) hHeld ?_
  refine xv 14 rfl rfl (fun w1 hw => xld rfl (zg zz rfl) (LB _ hw)) hHeld ?_
  refine xv 15 rfl rfl (fun w1 hw => xfa rfl (zi t7 rfl) (fg_65_0 _ _ _)) hHeld ?_
  refine xs 16 rfl rfl (exec_store rfl (zg zz rfl) (zg zz rfl) E1) (fun _ => S1) (fun hHeld => ?_)
  replace hHeld := hHeld (by decide)
  refine xv 17 rfl rfl (fun w1 hw => xfa rfl (zi t7 rfl) (fg_65_1 _ _ _)) hHeld ?_
  refine xs 18 rfl rfl (exec_store rfl (zg zz rfl) (zg zz rfl) E2) (fun hne => absurd rfl hne) (fun _ => ?_)
  exact xe rfl (h _ _ (rfl) rfl)
def run10_ops : Array Oper := (⟨_, rfl⟩ : {o // some o = rgB Tryz.f64 10}).1
theorem run10 {n c : Nat} {m : Int} {la : Option Addr} (a : Act) (w : World) (Q : Exit → Act → World → Prop) (zz : a.tmps.size = 81)
    (t4 : a.tmps.getD 4 undef = .slice la n c)
    (hm : (n : Int) - 1 = m) (hb : -9223372036854775808 ≤ (n : Int) - 1 ∧ (n : Int) - 1 ≤ 9223372036854775807)
    (h : ∀ a' w', w' = w → a' = (((a.put (some 56) (.slice la n c)).put (some 57) (.int .i64 (n : Int))).put (some 58) (.int .i64 m)).put (some 8) (.int .i64 m) → Q .normal a' w') :
    (Code.region 10 run10_ops false).wp Tryz.prog Q a w := by
  refine z0 rfl ?_
  refine zv rfl (xmv rfl (zi t4 rfl)) ?_
  refine zv rfl (exec_len rfl (zg zz rfl) (len_sq _ _ _ _)) ?_
  refine zv (v := .int .i64 m) rfl (ex_sub1 rfl (zg zz rfl) rfl hm hb) ?_
  refine zv rfl (xas rfl (zg zz rfl)) ?_
  exact ze rfl (h _ _ (rfl) rfl)
def run11f_ops : Array Oper := (⟨_, rfl⟩ : {o // some o = rgB Tryz.f64 11}).1
theorem run11f {eb : Nat} {m : Int} {lv : Value} (a : Act) (w : World) (Q : Exit → Act → World → Prop) (zz : a.tmps.size = 81)
    (t4 : a.tmps.getD 4 undef = lv)
    (t7 : a.tmps.getD 7 undef = .pointer (some ⟨eb, 0, none⟩))
    (t8 : a.tmps.getD 8 undef = .int .i64 m)
    (hz : decide (m ≥ 0) = false)
    (h : ∀ a' w', w' = w.drew → a' = (((((((((a.put (some 59) (.int .i64 m)).put (some 60) (.bool false)).put (some 61) (.bool false)).put (some 62) (undef)).put (some 63) (undef)).put (some 64) (undef)).put (some 65) (undef)).put (some 66) (undef)).put (some 67) (undef)).put (some 68) (.bool false) → Q .normal a' w') :
    (Code.region 11 run11f_ops true).wp Tryz.prog Q a w := by
  refine y0 (fun w' => w' = w.drew) (rfl) (fun hHeld => ?_)
  refine yv 0 rfl rfl (fun w1 hw => xmv rfl (zi t8 rfl)) hHeld ?_
  refine yv (v := .bool false) 1 rfl rfl (fun w1 hw => ex_geq rfl (zg zz rfl) rfl hz) hHeld ?_
  refine yv 2 rfl rfl (fun w1 hw => xmv rfl (zg zz rfl)) hHeld ?_
  refine yn 3 rfl (zx zz rfl rfl rfl (zg zz rfl)) hHeld ?_
  refine yn 4 rfl (zx zz rfl rfl rfl (zg zz rfl)) hHeld ?_
  refine yn 5 rfl (zx zz rfl rfl rfl (zg zz rfl)) hHeld ?_
  refine yn 6 rfl (zx zz rfl rfl rfl (zg zz rfl)) hHeld ?_
  refine yn 7 rfl (zx zz rfl rfl rfl (zg zz rfl)) hHeld ?_
  refine yn 8 rfl (zx zz rfl rfl rfl (zg zz rfl)) hHeld ?_
  refine yv 9 rfl rfl (fun w1 hw => exec_pickF rfl (zg zz rfl) rfl) hHeld ?_
  exact ye rfl (h _ _ (hHeld) rfl)
theorem run11t {g n c m eb : Nat} {p q : SpV} {r : Bool} (S : World → Prop) (a : Act) (w : World) (Q : Exit → Act → World → Prop) (zz : a.tmps.size = 81)
    (t4 : a.tmps.getD 4 undef = .slice (some ⟨g, 0, none⟩) n c)
    (t7 : a.tmps.getD 7 undef = .pointer (some ⟨eb, 0, none⟩))
    (t8 : a.tmps.getD 8 undef = .int .i64 (m : Int))
    (h0 : S w.drew) (hi : m < n) (hm : n ≤ 9223372036854775807) (hz : decide ((m : Int) ≥ 0) = true) (LP : ∀ W, S W → (Instr.loadAt 65 (.pointer (some ⟨g, 0 + 7 * m, none⟩))).run Tryz.prog W = .ok (p.a) W) (LQ : ∀ W, S W → (Instr.loadAt 65 (.pointer (some ⟨eb, 0, none⟩))).run Tryz.prog W = .ok (q.a) W) (CC : Calls Tryz.prog 90 #[p.a, q.a] w.drew fun e w' => e = .returned (.bool r) ∧ S w')
    (h : ∀ a' w', S w' → a' = (((((((((a.put (some 59) (.int .i64 (m : Int))).put (some 60) (.bool true)).put (some 61) (.bool true)).put (some 62) (.slice (some ⟨g, 0, none⟩) n c)).put (some 63) (.int .i64 (m : Int))).put (some 64) (.pointer (some ⟨g, 0 + 7 * m, none⟩))).put (some 65) (p.a)).put (some 66) (q.a)).put (some 67) (.bool r)).put (some 68) (.bool r) → Q .normal a' w') :
    (Code.region 11 run11f_ops true).wp Tryz.prog Q a w := by
  refine y0 (fun w' => S w') (h0) (fun hHeld => ?_)
  refine yv 0 rfl rfl (fun w1 hw => xmv rfl (zi t8 rfl)) hHeld ?_
  refine yv (v := .bool true) 1 rfl rfl (fun w1 hw => ex_geq rfl (zg zz rfl) rfl hz) hHeld ?_
  refine yv 2 rfl rfl (fun w1 hw => xmv rfl (zg zz rfl)) hHeld ?_
  refine yv 3 rfl (zw zz rfl rfl rfl (zg zz rfl)) (fun w1 hw => xmv rfl (zi t4 rfl)) hHeld ?_
  refine yv 4 rfl (zw zz rfl rfl rfl (zg zz rfl)) (fun w1 hw => xmv rfl (zi t8 rfl)) hHeld ?_
  refine yv 5 rfl (zw zz rfl rfl rfl (zg zz rfl)) (fun w1 hw => xia rfl (zg zz rfl) (zg zz rfl) (ix_sp hi hm _)) hHeld ?_
  refine yv 6 rfl (zw zz rfl rfl rfl (zg zz rfl)) (fun w1 hw => xld rfl (zg zz rfl) (LP _ hw)) hHeld ?_
  refine yv 7 rfl (zw zz rfl rfl rfl (zg zz rfl)) (fun w1 hw => xld rfl (zi t7 rfl) (LQ _ hw)) hHeld ?_
  refine yc 8 rfl (zw zz rfl rfl rfl (zg zz rfl)) (exec_c2 rfl (zg zz rfl) (zg zz rfl)) (CC) (fun e x8 hx => ?_)
  obtain ⟨rfl, S1⟩ := hx
  refine ⟨_, rfl, S1, fun hHeld => ?_⟩
  refine yv 9 rfl rfl (fun w1 hw => exec_pickT rfl (zg zz rfl) (zg zz rfl)) hHeld ?_
  exact ye rfl (h _ _ (hHeld) rfl)
def run12_ops : Array Oper := (⟨_, rfl⟩ : {o // some o = rgB Tryz.f64 12}).1
theorem run12 {g n c m eb : Nat} {y : Int} {w1 : World} (a : Act) (w : World) (Q : Exit → Act → World → Prop) (zz : a.tmps.size = 81)
    (t4 : a.tmps.getD 4 undef = .slice (some ⟨g, 0, none⟩) n c)
    (t7 : a.tmps.getD 7 undef = .pointer (some ⟨eb, 0, none⟩))
    (t8 : a.tmps.getD 8 undef = .int .i64 (m : Int))
    (hi : m < n) (hm : n ≤ 9223372036854775807) (LY : (Instr.loadAt 3 (.pointer (some ⟨eb, 0 + 1, none⟩))).run Tryz.prog w = .ok (.int .i64 y) w) (ES : (Instr.storeAt 3 (.pointer (some ⟨g, 0 + 7 * m + 1, none⟩)) (.int .i64 y)).run Tryz.prog w = .ok () w1)
    (h : ∀ a' w', w' = w1 → a' = (((((a.put (some 69) (.slice (some ⟨g, 0, none⟩) n c)).put (some 70) (.int .i64 (m : Int))).put (some 71) (.pointer (some ⟨eb, 0 + 1, none⟩))).put (some 72) (.int .i64 y)).put (some 73) (.pointer (some ⟨g, 0 + 7 * m, none⟩))).put (some 74) (.pointer (some ⟨g, 0 + 7 * m + 1, none⟩)) → Q .normal a' w') :
    (Code.region 12 run12_ops false).wp Tryz.prog Q a w := by
  refine z0 rfl ?_
  refine zv rfl (xmv rfl (zi t4 rfl)) ?_
  refine zv rfl (xmv rfl (zi t8 rfl)) ?_
  refine zv rfl (xfa rfl (zi t7 rfl) (fg_65_1 _ _ _)) ?_
  refine zv rfl (xld rfl (zg zz rfl) LY) ?_
  refine zv rfl (xia rfl (zg zz rfl) (zg zz rfl) (ix_sp hi hm _)) ?_
  refine zv rfl (xfa rfl (zg zz rfl) (fg_65_1 _ _ _)) ?_
  refine zs rfl (exec_store rfl (zg zz rfl) (zg zz rfl) ES) ?_
  exact ze rfl (h _ _ (rfl) rfl)
def run13_ops : Array Oper := (⟨_, rfl⟩ : {o // some o = rgB Tryz.f64 13}).1
theorem run13 {eb : Nat} {q : SpV} {lv sv v2 : Value} {w1 w2 : World} (a : Act) (w : World) (Q : Exit → Act → World → Prop) (zz : a.tmps.size = 81)
    (t4 : a.tmps.getD 4 undef = lv)
    (t7 : a.tmps.getD 7 undef = .pointer (some ⟨eb, 0, none⟩))
    (LQ : (Instr.loadAt 65 (.pointer (some ⟨eb, 0, none⟩))).run Tryz.prog w = .ok (q.a) w) (EB : (Instr.buildSlice 49 1 #[(0, q.a)]).run Tryz.prog w = .ok sv w1) (EA : (Builtin.append_ #[49, 49] 49 #[lv, sv]).run Tryz.prog w1 = .ok v2 w2)
    (h : ∀ a' w', w' = w2 → a' = ((((a.put (some 75) (lv)).put (some 76) (q.a)).put (some 77) (sv)).put (some 78) (v2)).put (some 4) (v2) → Q .normal a' w') :
    (Code.region 13 run13_ops false).wp Tryz.prog Q a w := by
  refine z0 rfl ?_
  refine zv rfl (xmv rfl (zi t4 rfl)) ?_
  refine zv rfl (xld rfl (zi t7 rfl) LQ) ?_
  refine zv (v := sv) rfl (exec_buildSlice rfl (zg zz rfl) EB) ?_
  refine zv (v := v2) rfl (exec_append rfl (zg zz rfl) (zg zz rfl) EA) ?_
  refine zv rfl (xas rfl (zg zz rfl)) ?_
  exact ze rfl (h _ _ (rfl) rfl)
def cvr1_ops : Array Oper := (⟨_, rfl⟩ : {o // some o = rgB Tryz.f63 1}).1
theorem cvr1 {fm : Nat} {w1 : World} (a : Act) (w : World) (Q : Exit → Act → World → Prop) (zz : a.tmps.size = 54)
    (E1 : (Instr.makeMap 117 none).run Tryz.prog w = .ok (.map (some fm)) w1)
    (h : ∀ a' w', w' = w1 → a' = (a.put (some 11) (.map (some fm))).put (some 5) (.map (some fm)) → Q .normal a' w') :
    (Code.region 1 cvr1_ops false).wp Tryz.prog Q a w := by
  refine z0 rfl ?_
  refine zv (v := .map (some fm)) rfl (exec_makeMap rfl E1) ?_
  refine zv rfl (xas rfl (zg zz rfl)) ?_
  exact ze rfl (h _ _ (rfl) rfl)
def cvr2_ops : Array Oper := (⟨_, rfl⟩ : {o // some o = rgB Tryz.f63 2}).1
theorem cvr2 {mb n c : Nat} {la : Option Addr} (a : Act) (w : World) (Q : Exit → Act → World → Prop) (zz : a.tmps.size = 54)
    (t0 : a.tmps.getD 0 undef = .pointer (some ⟨mb, 0, none⟩))
    (LL : (Instr.loadAt 85 (.pointer (some ⟨mb, 0 + 0, none⟩))).run Tryz.prog w = .ok (.slice la n c) w)
    (h : ∀ a' w', w' = w → a' = (((((a.put (some 12) (.pointer (some ⟨mb, 0, none⟩))).put (some 13) (.pointer (some ⟨mb, 0, none⟩))).put (some 14) (.pointer (some ⟨mb, 0 + 0, none⟩))).put (some 15) (.slice la n c)).put (some 16) (.int .i64 (n : Int))).put (some 17) (.int .i64 0) → Q .normal a' w') :
    (Code.region 2 cvr2_ops false).wp Tryz.prog Q a w := by
  refine z0 rfl ?_
  refine zv rfl (xmv rfl (zi t0 rfl)) ?_
  refine zv rfl (xnc rfl (zg zz rfl)) ?_
  refine zv rfl (xfa rfl (zg zz rfl) (fg_87_0 _ _ _)) ?_
  refine zv rfl (xld rfl (zg zz rfl) LL) ?_
  refine zv rfl (exec_len rfl (zg zz rfl) (len_mk _ _ _ _)) ?_
  refine zv rfl (xmv rfl rfl) ?_
  exact ze rfl (h _ _ (rfl) rfl)
def cvr4_ops : Array Oper := (⟨_, rfl⟩ : {o // some o = rgB Tryz.f63 4}).1
theorem cvr4 {g o n c i eb : Nat} {x : MkV} {w1 w2 : World} (a : Act) (w : World) (Q : Exit → Act → World → Prop) (zz : a.tmps.size = 54)
    (t15 : a.tmps.getD 15 undef = .slice (some ⟨g, o, none⟩) n c)
    (t17 : a.tmps.getD 17 undef = .int .i64 (i : Int))
    (hi : i < n) (hm : n ≤ 9223372036854775807) (LX : (Instr.loadAt 95 (.pointer (some ⟨g, o + 105 * i, none⟩))).run Tryz.prog w = .ok (x.a) w) (EA : (Instr.alloc 95 true (.tuple #[])).run Tryz.prog w = .ok (.pointer (some ⟨eb, 0, none⟩)) w1) (ES : (Instr.storeAt 95 (.pointer (some ⟨eb, 0, none⟩)) (x.a)).run Tryz.prog w1 = .ok () w2)
    (h : ∀ a' w', w' = w2 → a' = ((a.put (some 19) (.pointer (some ⟨g, o + 105 * i, none⟩))).put (some 20) (x.a)).put (some 7) (.pointer (some ⟨eb, 0, none⟩)) → Q .normal a' w') :
    (Code.region 4 cvr4_ops false).wp Tryz.prog Q a w := by
  refine z0 rfl ?_
  refine zv rfl (xia rfl (zi t15 rfl) (zi t17 rfl) (ix_mk hi hm _)) ?_
  refine zv rfl (xld rfl (zg zz rfl) LX) ?_
  refine zv (v := .pointer (some ⟨eb, 0, none⟩)) rfl (exec_alloc rfl EA) ?_
  refine zs rfl (exec_store rfl (zg zz rfl) (zg zz rfl) ES) ?_
  exact ze rfl (h _ _ (rfl) rfl)
def cvr5_ops : Array Oper := (⟨_, rfl⟩ : {o // some o = rgB Tryz.f63 5}).1
theorem cvr5 {sb eb : Nat} {f t : Int} (Fin : World → Prop) (a : Act) (w : World) (Q : Exit → Act → World → Prop) (zz : a.tmps.size = 54)
    (t1 : a.tmps.getD 1 undef = .pointer (some ⟨sb, 0, none⟩))
    (t7 : a.tmps.getD 7 undef = .pointer (some ⟨eb, 0, none⟩))
    (CC : Calls Tryz.prog 81 #[.pointer (some ⟨eb, 0, none⟩), .pointer (some ⟨sb, 0, none⟩)] w fun e w' => e = .returned (.tuple #[.int .i64 f, .int .i64 t]) ∧ Fin w')
    (h : ∀ a' w', Fin w' → a' = ((((((a.put (some 22) (.pointer (some ⟨sb, 0, none⟩))).put (some 23) (.tuple #[.int .i64 f, .int .i64 t])).put (some 21) (.tuple #[.int .i64 f, .int .i64 t])).put (some 24) (.int .i64 f)).put (some 25) (.int .i64 t)).put (some 8) (.int .i64 f)).put (some 9) (.int .i64 t) → Q .normal a' w') :
    (Code.region 5 cvr5_ops false).wp Tryz.prog Q a w := by
  refine z0 rfl ?_
  refine zv rfl (xmv rfl (zi t1 rfl)) ?_
  refine zc rfl (exec_c2 rfl (zi t7 rfl) (zg zz rfl)) (CC) (fun e x1 hx => ?_)
  obtain ⟨rfl, HF⟩ := hx
  refine ⟨_, rfl, ?_⟩
  refine zv rfl (xmv rfl (zg zz rfl)) ?_
  iterate 2 refine zv rfl (exec_extract rfl (zg zz rfl) rfl) ?_
  iterate 2 refine zv rfl (xas rfl (zg zz rfl)) ?_
  exact ze rfl (h _ _ (HF) rfl)
def cvr6_o0 : Oper := ⟨some 26, .move (.tmp 1), 23, "tell.go:63", #[], none⟩
def cvr6_o1 : Oper := ⟨some 27, .move (.tmp 8), 3, "tell.go:63", #[], none⟩
def cvr6_o2 : Oper := ⟨some 28, .call { callee := Callee.value (Operand.func 55), args := #[.tmp 26, .tmp 27], argTypes := #[23, 3] }, 3, "tell.go:63", #[⟨0, .data⟩, ⟨1, .data⟩], none⟩
def cvr6_o3 : Oper := ⟨some 29, .move (.tmp 1), 23, "tell.go:63", #[], none⟩
def cvr6_o4 : Oper := ⟨some 30, .move (.tmp 9), 3, "tell.go:63", #[], none⟩
def cvr6_o5 : Oper := ⟨some 31, .call { callee := Callee.value (Operand.func 55), args := #[.tmp 29, .tmp 30], argTypes := #[23, 3] }, 3, "tell.go:63", #[⟨3, .data⟩, ⟨4, .data⟩, ⟨2, .chain⟩], none⟩
def cvr6_o6 : Oper := ⟨some 32, .fieldAddr 95 (.tmp 7) 1, 0, "tell.go:63", #[], none⟩
def cvr6_o7 : Oper := ⟨some 33, .load 9 (.tmp 32), 9, "tell.go:63", #[⟨6, .data⟩], none⟩
def cvr6_o8 : Oper := ⟨some 34, .fieldAddr 95 (.tmp 7) 2, 0, "tell.go:63", #[], none⟩
def cvr6_o9 : Oper := ⟨some 35, .load 40 (.tmp 34), 40, "tell.go:63", #[⟨8, .data⟩], none⟩
def cvr6_o10 : Oper := ⟨some 36, .build 65 #[(0, .tmp 28), (1, .tmp 31), (2, .tmp 33), (3, .tmp 35)], 65, "tell.go:63", #[⟨2, .data⟩, ⟨5, .data⟩, ⟨7, .data⟩, ⟨9, .data⟩], none⟩
def cvr6_o11 : Oper := ⟨some 10, .alloc 65, 0, "tell.go:63", #[], none⟩
def cvr6_o12 : Oper := ⟨none, .store 65 (.tmp 10) (.tmp 36), 0, "tell.go:63", #[⟨11, .data⟩, ⟨10, .data⟩, ⟨5, .chain⟩, ⟨0, .phase⟩, ⟨1, .phase⟩, ⟨2, .phase⟩, ⟨3, .phase⟩, ⟨4, .phase⟩, ⟨5, .phase⟩, ⟨6, .phase⟩, ⟨7, .phase⟩, ⟨8, .phase⟩, ⟨9, .phase⟩, ⟨10, .phase⟩, ⟨11, .phase⟩], none⟩
def cvr6_ops : Array Oper := #[cvr6_o0, cvr6_o1, cvr6_o2, cvr6_o3, cvr6_o4, cvr6_o5, cvr6_o6, cvr6_o7, cvr6_o8, cvr6_o9, cvr6_o10, cvr6_o11, cvr6_o12]
theorem cvr6 {sb eb : Nat} {f t fi ti : Int} {x : MkV} (S : World → Prop) (B Fin : Nat → World → Prop) (a : Act) (w : World) (Q : Exit → Act → World → Prop) (hsz : a.tmps.size = 54)
    (t1 : a.tmps.getD 1 undef = .pointer (some ⟨sb, 0, none⟩))
    (t7 : a.tmps.getD 7 undef = .pointer (some ⟨eb, 0, none⟩))
    (t8 : a.tmps.getD 8 undef = .int .i64 f)
    (t9 : a.tmps.getD 9 undef = .int .i64 t)
    (h0 : S w.drew) (BS : ∀ pb W, B pb W → S W) (FS : ∀ pb W, Fin pb W → S W) (LN : ∀ W, S W → (Instr.loadAt 9 (.pointer (some ⟨eb, 0 + 33, none⟩))).run Tryz.prog W = .ok (.string x.nm) W) (LV : ∀ W, S W → (Instr.loadAt 40 (.pointer (some ⟨eb, 0 + 34, none⟩))).run Tryz.prog W = .ok (x.v.v) W) (C1 : ∀ W, S W → Calls Tryz.prog 55 #[.pointer (some ⟨sb, 0, none⟩), .int .i64 f] W fun e w1 => e = .returned (.int .i64 fi) ∧ S w1) (C2 : ∀ W, S W → Calls Tryz.prog 55 #[.pointer (some ⟨sb, 0, none⟩), .int .i64 t] W fun e w1 => e = .returned (.int .i64 ti) ∧ S w1) (C1b : ∀ pb W, B pb W → Calls Tryz.prog 55 #[.pointer (some ⟨sb, 0, none⟩), .int .i64 f] W fun e w1 => e = .returned (.int .i64 fi) ∧ B pb w1) (C2b : ∀ pb W, B pb W → Calls Tryz.prog 55 #[.pointer (some ⟨sb, 0, none⟩), .int .i64 t] W fun e w1 => e = .returned (.int .i64 ti) ∧ B pb w1) (EA : ∀ W, S W → ∃ pb w3, (Instr.alloc 65 true (.tuple #[])).run Tryz.prog W = .ok (.pointer (some ⟨pb, 0, none⟩)) w3 ∧ B pb w3) (ES : ∀ pb W, B pb W → ∃ w4, (Instr.storeAt 65 (.pointer (some ⟨pb, 0, none⟩)) (SpV.a ⟨fi, ti, x.nm, x.v⟩)).run Tryz.prog W = .ok () w4 ∧ Fin pb w4)
    (h1 : ∀ (pb : Nat) a' w', Fin pb w' → a' = (((((((((((a.put (some 26) (.pointer (some ⟨sb, 0, none⟩))).put (some 27) (.int .i64 f)).put (some 29) (.pointer (some ⟨sb, 0, none⟩))).put (some 30) (.int .i64 t)).put (some 32) (.pointer (some ⟨eb, 0 + 33, none⟩))).put (some 33) (.string x.nm)).put (some 34) (.pointer (some ⟨eb, 0 + 34, none⟩))).put (some 35) (x.v.v)).put (some 28) (.int .i64 fi)).put (some 31) (.int .i64 ti)).put (some 36) (SpV.a ⟨fi, ti, x.nm, x.v⟩)).put (some 10) (.pointer (some ⟨pb, 0, none⟩)) → Q .normal a' w')
    (h2 : ∀ (pb : Nat) a' w', Fin pb w' → a' = (((((((((((a.put (some 26) (.pointer (some ⟨sb, 0, none⟩))).put (some 27) (.int .i64 f)).put (some 29) (.pointer (some ⟨sb, 0, none⟩))).put (some 30) (.int .i64 t)).put (some 32) (.pointer (some ⟨eb, 0 + 33, none⟩))).put (some 33) (.string x.nm)).put (some 34) (.pointer (some ⟨eb, 0 + 34, none⟩))).put (some 35) (x.v.v)).put (some 28) (.int .i64 fi)).put (some 10) (.pointer (some ⟨pb, 0, none⟩))).put (some 31) (.int .i64 ti)).put (some 36) (SpV.a ⟨fi, ti, x.nm, x.v⟩) → Q .normal a' w')
    (h3 : ∀ (pb : Nat) a' w', Fin pb w' → a' = (((((((((((a.put (some 26) (.pointer (some ⟨sb, 0, none⟩))).put (some 27) (.int .i64 f)).put (some 29) (.pointer (some ⟨sb, 0, none⟩))).put (some 30) (.int .i64 t)).put (some 32) (.pointer (some ⟨eb, 0 + 33, none⟩))).put (some 33) (.string x.nm)).put (some 34) (.pointer (some ⟨eb, 0 + 34, none⟩))).put (some 35) (x.v.v)).put (some 10) (.pointer (some ⟨pb, 0, none⟩))).put (some 28) (.int .i64 fi)).put (some 31) (.int .i64 ti)).put (some 36) (SpV.a ⟨fi, ti, x.nm, x.v⟩) → Q .normal a' w') :
    (Code.region 6 cvr6_ops true).wp Tryz.prog Q a w := by
  refine wp_region_noPanic ?_
  refine wp_region_held_drew (S := fun w' => S w') (by kernel_rfl) (h0) (fun hHeld => ?_)
  refine wpAnyH_take (i := 0) (oi := cvr6_o0) (v := .pointer (some ⟨sb, 0, none⟩)) rfl (by kernel_rfl) (by kernel_rfl) (by kernel_rfl) (fun _ _ _ h => h) (Or.inl ⟨by rfl, fun w1 hw => xmv rfl t1⟩) hHeld ?_
  change wpAnyH _ _ _ _ _ _ _ (a.put (some 26) (.pointer (some ⟨sb, 0, none⟩))) _
  obtain ⟨a1, e1⟩ : ∃ act, act = a.put (some 26) (.pointer (some ⟨sb, 0, none⟩)) := ⟨_, rfl⟩
  rw [← e1] at h1 h2 h3 ⊢
  have z1 := pz e1 hsz
  replace t1 := pk e1 t1
  replace t7 := pk e1 t7
  replace t8 := pk e1 t8
  replace t9 := pk e1 t9
  have t26 := pq e1 hsz
  clear e1 hsz
  refine wpAnyH_take (i := 1) (oi := cvr6_o1) (v := .int .i64 f) rfl (by kernel_rfl) (by kernel_rfl) (by kernel_rfl) (fun _ _ _ h => h) (Or.inl ⟨by rfl, fun w1 hw => xmv rfl t8⟩) hHeld ?_
  change wpAnyH _ _ _ _ _ _ _ (a1.put (some 27) (.int .i64 f)) _
  obtain ⟨a2, e2⟩ : ∃ act, act = a1.put (some 27) (.int .i64 f) := ⟨_, rfl⟩
  rw [← e2] at h1 h2 h3 ⊢
  have z2 := pz e2 z1
  replace t1 := pk e2 t1
  replace t7 := pk e2 t7
  replace t9 := pk e2 t9
  replace t26 := pk e2 t26
  clear t8
  have t27 := pq e2 z1
  clear e2 z1
  refine wpAnyH_take (i := 3) (oi := cvr6_o3) (v := .pointer (some ⟨sb, 0, none⟩)) rfl (by kernel_rfl) (by kernel_rfl) (by kernel_rfl) (fun _ _ _ h => h) (Or.inl ⟨by rfl, fun w1 hw => xmv rfl t1⟩) hHeld ?_
  change wpAnyH _ _ _ _ _ _ _ (a2.put (some 29) (.pointer (some ⟨sb, 0, none⟩))) _
  obtain ⟨a3, e3⟩ : ∃ act, act = a2.put (some 29) (.pointer (some ⟨sb, 0, none⟩)) := ⟨_, rfl⟩
  rw [← e3] at h1 h2 h3 ⊢
  have z3 := pz e3 z2
  replace t7 := pk e3 t7
  replace t9 := pk e3 t9
  replace t26 := pk e3 t26
  replace t27 := pk e3 t27
  clear t1
  have t29 := pq e3 z2
  clear e3 z2
  refine wpAnyH_take (i := 4) (oi := cvr6_o4) (v := .int .i64 t) rfl (by kernel_rfl) (by kernel_rfl) (by kernel_rfl) (fun _ _ _ h => h) (Or.inl ⟨by rfl, fun w1 hw => xmv rfl t9⟩) hHeld ?_
  change wpAnyH _ _ _ _ _ _ _ (a3.put (some 30) (.int .i64 t)) _
  obtain ⟨a4, e4⟩ : ∃ act, act = a3.put (some 30) (.int .i64 t) := ⟨_, rfl⟩
  rw [← e4] at h1 h2 h3 ⊢
  have z4 := pz e4 z3
  replace t7 := pk e4 t7
  replace t26 := pk e4 t26
  replace t27 := pk e4 t27
  replace t29 := pk e4 t29
  clear t9
  have t30 := pq e4 z3
  clear e4 z3
  refine wpAnyH_take (i := 6) (oi := cvr6_o6) (v := .pointer (some ⟨eb, 0 + 33, none⟩)) rfl (by kernel_rfl) (by kernel_rfl) (by kernel_rfl) (fun _ _ _ h => h) (Or.inl ⟨by rfl, fun w1 hw => xfa rfl t7 (fg_95_1 _ _ _)⟩) hHeld ?_
  change wpAnyH _ _ _ _ _ _ _ (a4.put (some 32) (.pointer (some ⟨eb, 0 + 33, none⟩))) _
  obtain ⟨a5, e5⟩ : ∃ act, act = a4.put (some 32) (.pointer (some ⟨eb, 0 + 33, none⟩)) := ⟨_, rfl⟩
  rw [← e5] at h1 h2 h3 ⊢
  have z5 := pz e5 z4
  replace t7 := pk e5 t7
  replace t26 := pk e5 t26
  replace t27 := pk e5 t27
  replace t29 := pk e5 t29
  replace t30 := pk e5 t30
  have t32 := pq e5 z4
  clear e5 z4
  refine wpAnyH_take (i := 7) (oi := cvr6_o7) (v := .string x.nm) rfl (by kernel_rfl) (by kernel_rfl) (by kernel_rfl) (fun _ _ _ h => h) (Or.inl ⟨by rfl, fun w1 hw => xld rfl t32 (LN _ hw)⟩) hHeld ?_
  change wpAnyH _ _ _ _ _ _ _ (a5.put (some 33) (.string x.nm)) _
  obtain ⟨a6, e6⟩ : ∃ act, act = a5.put (some 33) (.string x.nm) := ⟨_, rfl⟩
  rw [← e6] at h1 h2 h3 ⊢
  have z6 := pz e6 z5
  replace t7 := pk e6 t7
  replace t26 := pk e6 t26
  replace t27 := pk e6 t27
  replace t29 := pk e6 t29
  replace t30 := pk e6 t30
  clear t32
  have t33 := pq e6 z5
  clear e6 z5
  refine wpAnyH_take (i := 8) (oi := cvr6_o8) (v := .pointer (some ⟨eb, 0 + 34, none⟩)) rfl (by kernel_rfl) (by kernel_rfl) (by kernel_rfl) (fun _ _ _ h => h) (Or.inl ⟨by rfl, fun w1 hw => xfa rfl t7 (fg_95_2 _ _ _)⟩) hHeld ?_
  change wpAnyH _ _ _ _ _ _ _ (a6.put (some 34) (.pointer (some ⟨eb, 0 + 34, none⟩))) _
  obtain ⟨a7, e7⟩ : ∃ act, act = a6.put (some 34) (.pointer (some ⟨eb, 0 + 34, none⟩)) := ⟨_, rfl⟩
  rw [← e7] at h1 h2 h3 ⊢
  have z7 := pz e7 z6
  replace t26 := pk e7 t26
  replace t27 := pk e7 t27
  replace t29 := pk e7 t29
  replace t30 := pk e7 t30
  replace t33 := pk e7 t33
  clear t7
  have t34 := pq e7 z6
  clear e7 z6
  refine wpAnyH_take (i := 9) (oi := cvr6_o9) (v := x.v.v) rfl (by kernel_rfl) (by kernel_rfl) (by kernel_rfl) (fun _ _ _ h => h) (Or.inl ⟨by rfl, fun w1 hw => xld rfl t34 (LV _ hw)⟩) hHeld ?_
  change wpAnyH _ _ _ _ _ _ _ (a7.put (some 35) (x.v.v)) _
  obtain ⟨a8, e8⟩ : ∃ act, act = a7.put (some 35) (x.v.v) := ⟨_, rfl⟩
  rw [← e8] at h1 h2 h3 ⊢
  have z8 := pz e8 z7
  replace t26 := pk e8 t26
  replace t27 := pk e8 t27
  replace t29 := pk e8 t29
  replace t30 := pk e8 t30
  replace t33 := pk e8 t33
  clear t34
  have t35 := pq e8 z7
  clear e8 z7
  refine wpAnyH_ready (rs := [2, 11]) (by kernel_rfl) (by simp) ?_
  refine AllReadyH.cons (o := cvr6_o2) rfl (fun K hK => ?_) (AllReadyH.cons (o := cvr6_o11) rfl (fun K hK => ?_) (AllReadyH.nil))
  · clear h3
    rw [if_pos (by rfl)]
    unfold cvr6_o2 at hK ⊢
    go_simp
    refine (C1 _ hHeld).mono ?_
    rintro e x9 ⟨rfl, S1⟩
    try go_wp2_with fail
    skip
    refine hK.out _ _ (S1) (fun hHeld => ?_)
    clear hK K
    change wpAnyH _ _ _ _ _ _ _ (a8.put (some 28) (.int .i64 fi)) _
    obtain ⟨a9, e9⟩ : ∃ act, act = a8.put (some 28) (.int .i64 fi) := ⟨_, rfl⟩
    rw [← e9] at h1 h2 ⊢
    have z9 := pz e9 z8
    replace t29 := pk e9 t29
    replace t30 := pk e9 t30
    replace t33 := pk e9 t33
    replace t35 := pk e9 t35
    clear t26 t27
    have t28 := pq e9 z8
    clear e9 z8
    refine wpAnyH_ready (rs := [5, 11]) (by kernel_rfl) (by simp) ?_
    refine AllReadyH.cons (o := cvr6_o5) rfl (fun K hK => ?_) (AllReadyH.cons (o := cvr6_o11) rfl (fun K hK => ?_) (AllReadyH.nil))
    · clear h2
      rw [if_pos (by rfl)]
      unfold cvr6_o5 at hK ⊢
      go_simp
      refine (C2 _ hHeld).mono ?_
      rintro e x10 ⟨rfl, S1⟩
      try go_wp2_with fail
      skip
      refine hK.out _ _ (S1) (fun hHeld => ?_)
      clear hK K
      change wpAnyH _ _ _ _ _ _ _ (a9.put (some 31) (.int .i64 ti)) _
      obtain ⟨a10, e10⟩ : ∃ act, act = a9.put (some 31) (.int .i64 ti) := ⟨_, rfl⟩
      rw [← e10] at h1 ⊢
      have z10 := pz e10 z9
      replace t33 := pk e10 t33
      replace t35 := pk e10 t35
      replace t28 := pk e10 t28
      clear t29 t30
      have t31 := pq e10 z9
      clear e10 z9
      refine wpAnyH_take (i := 10) (oi := cvr6_o10) (v := SpV.a ⟨fi, ti, x.nm, x.v⟩) rfl (by kernel_rfl) (by kernel_rfl) (by kernel_rfl) (fun _ _ _ h => h) (Or.inl ⟨by rfl, fun w1 hw => exec_build4 rfl t28 t31 t33 t35 (build_span _ _ _ _ _)⟩) hHeld ?_
      change wpAnyH _ _ _ _ _ _ _ (a10.put (some 36) (SpV.a ⟨fi, ti, x.nm, x.v⟩)) _
      obtain ⟨a11, e11⟩ : ∃ act, act = a10.put (some 36) (SpV.a ⟨fi, ti, x.nm, x.v⟩) := ⟨_, rfl⟩
      rw [← e11] at h1 ⊢
      have z11 := pz e11 z10
      clear t33 t35 t28 t31
      have t36 := pq e11 z10
      clear e11 z10
      refine wpAnyH_ready (rs := [11]) (by kernel_rfl) (by simp) ?_
      refine AllReadyH.cons (o := cvr6_o11) rfl (fun K hK => ?_) AllReadyH.nil
      obtain ⟨pb, wa, EA1, HB⟩ := EA _ hHeld; replace h1 := h1 pb
      have X := exec_alloc (P := Tryz.prog) (a := a11) (o := cvr6_o11) rfl EA1
      rw [if_pos (by rfl), Oper.wp, X]
      show K _ _
      clear X
      refine hK.out _ _ (BS _ _ HB) (fun hHeld => ?_)
      clear hK K
      change wpAnyH _ _ _ _ _ _ _ (a11.put (some 10) (.pointer (some ⟨pb, 0, none⟩))) _
      obtain ⟨a12, e12⟩ : ∃ act, act = a11.put (some 10) (.pointer (some ⟨pb, 0, none⟩)) := ⟨_, rfl⟩
      rw [← e12] at h1 ⊢
      have z12 := pz e12 z11
      replace t36 := pk e12 t36
      have t10 := pq e12 z11
      clear e12 z11
      refine wpAnyH_ready (rs := [12]) (by kernel_rfl) (by simp) ?_
      refine AllReadyH.cons (o := cvr6_o12) rfl (fun K hK => ?_) AllReadyH.nil
      obtain ⟨w9, ES1, HF⟩ := ES _ _ HB
      have X := exec_store (P := Tryz.prog) (a := a12) (o := cvr6_o12) rfl t10 t36 ES1
      rw [if_pos (by rfl), Oper.wp, X]
      show K _ _
      clear X
      refine hK.out _ _ (FS _ _ HF) (fun hHeld => ?_)
      clear hK K
      exact wpAnyH_done (by kernel_rfl) (NoPanic.normal (h1 _ _ (HF) rfl)) _
    · clear h1
      obtain ⟨pb, wa, EA1, HB⟩ := EA _ hHeld; replace h2 := h2 pb
      have X := exec_alloc (P := Tryz.prog) (a := a9) (o := cvr6_o11) rfl EA1
      rw [if_pos (by rfl), Oper.wp, X]
      show K _ _
      clear X
      refine hK.out _ _ (BS _ _ HB) (fun hHeld => ?_)
      clear hK K
      change wpAnyH _ _ _ _ _ _ _ (a9.put (some 10) (.pointer (some ⟨pb, 0, none⟩))) _
      obtain ⟨a14, e14⟩ : ∃ act, act = a9.put (some 10) (.pointer (some ⟨pb, 0, none⟩)) := ⟨_, rfl⟩
      rw [← e14] at h2 ⊢
      have z14 := pz e14 z9
      replace t29 := pk e14 t29
      replace t30 := pk e14 t30
      replace t33 := pk e14 t33
      replace t35 := pk e14 t35
      replace t28 := pk e14 t28
      have t10 := pq e14 z9
      clear e14 z9
      refine wpAnyH_ready (rs := [5]) (by kernel_rfl) (by simp) ?_
      refine AllReadyH.cons (o := cvr6_o5) rfl (fun K hK => ?_) AllReadyH.nil
      rw [if_pos (by rfl)]
      unfold cvr6_o5 at hK ⊢
      go_simp
      refine (C2b _ _ HB).mono ?_
      rintro e x15 ⟨rfl, HB⟩
      try go_wp2_with fail
      skip
      refine hK.out _ _ (BS _ _ HB) (fun hHeld => ?_)
      clear hK K
      change wpAnyH _ _ _ _ _ _ _ (a14.put (some 31) (.int .i64 ti)) _
      obtain ⟨a15, e15⟩ : ∃ act, act = a14.put (some 31) (.int .i64 ti) := ⟨_, rfl⟩
      rw [← e15] at h2 ⊢
      have z15 := pz e15 z14
      replace t33 := pk e15 t33
      replace t35 := pk e15 t35
      replace t28 := pk e15 t28
      replace t10 := pk e15 t10
      clear t29 t30
      have t31 := pq e15 z14
      clear e15 z14
      refine wpAnyH_take (i := 10) (oi := cvr6_o10) (v := SpV.a ⟨fi, ti, x.nm, x.v⟩) rfl (by kernel_rfl) (by kernel_rfl) (by kernel_rfl) (fun _ _ _ h => h) (Or.inl ⟨by rfl, fun w1 hw => exec_build4 rfl t28 t31 t33 t35 (build_span _ _ _ _ _)⟩) hHeld ?_
      change wpAnyH _ _ _ _ _ _ _ (a15.put (some 36) (SpV.a ⟨fi, ti, x.nm, x.v⟩)) _
      obtain ⟨a16, e16⟩ : ∃ act, act = a15.put (some 36) (SpV.a ⟨fi, ti, x.nm, x.v⟩) := ⟨_, rfl⟩
      rw [← e16] at h2 ⊢
      have z16 := pz e16 z15
      replace t10 := pk e16 t10
      clear t33 t35 t28 t31
      have t36 := pq e16 z15
      clear e16 z15
      refine wpAnyH_ready (rs := [12]) (by kernel_rfl) (by simp) ?_
      refine AllReadyH.cons (o := cvr6_o12) rfl (fun K hK => ?_) AllReadyH.nil
      obtain ⟨w9, ES1, HF⟩ := ES _ _ HB
      have X := exec_store (P := Tryz.prog) (a := a16) (o := cvr6_o12) rfl t10 t36 ES1
      rw [if_pos (by rfl), Oper.wp, X]
      show K _ _
      clear X
      refine hK.out _ _ (FS _ _ HF) (fun hHeld => ?_)
      clear hK K
      exact wpAnyH_done (by kernel_rfl) (NoPanic.normal (h2 _ _ (HF) rfl)) _
  · clear h1 h2
    obtain ⟨pb, wa, EA1, HB⟩ := EA _ hHeld; replace h3 := h3 pb
    have X := exec_alloc (P := Tryz.prog) (a := a8) (o := cvr6_o11) rfl EA1
    rw [if_pos (by rfl), Oper.wp, X]
    show K _ _
    clear X
    refine hK.out _ _ (BS _ _ HB) (fun hHeld => ?_)
    clear hK K
    change wpAnyH _ _ _ _ _ _ _ (a8.put (some 10) (.pointer (some ⟨pb, 0, none⟩))) _
    obtain ⟨a18, e18⟩ : ∃ act, act = a8.put (some 10) (.pointer (some ⟨pb, 0, none⟩)) := ⟨_, rfl⟩
    rw [← e18] at h3 ⊢
    have z18 := pz e18 z8
    replace t26 := pk e18 t26
    replace t27 := pk e18 t27
    replace t29 := pk e18 t29
    replace t30 := pk e18 t30
    replace t33 := pk e18 t33
    replace t35 := pk e18 t35
    have t10 := pq e18 z8
    clear e18 z8
    refine wpAnyH_ready (rs := [2]) (by kernel_rfl) (by simp) ?_
    refine AllReadyH.cons (o := cvr6_o2) rfl (fun K hK => ?_) AllReadyH.nil
    rw [if_pos (by rfl)]
    unfold cvr6_o2 at hK ⊢
    go_simp
    refine (C1b _ _ HB).mono ?_
    rintro e x19 ⟨rfl, HB⟩
    try go_wp2_with fail
    skip
    refine hK.out _ _ (BS _ _ HB) (fun hHeld => ?_)
    clear hK K
    change wpAnyH _ _ _ _ _ _ _ (a18.put (some 28) (.int .i64 fi)) _
    obtain ⟨a19, e19⟩ : ∃ act, act = a18.put (some 28) (.int .i64 fi) := ⟨_, rfl⟩
    rw [← e19] at h3 ⊢
    have z19 := pz e19 z18
    replace t29 := pk e19 t29
    replace t30 := pk e19 t30
    replace t33 := pk e19 t33
    replace t35 := pk e19 t35
    replace t10 := pk e19 t10
    clear t26 t27
    have t28 := pq e19 z18
    clear e19 z18
    refine wpAnyH_ready (rs := [5]) (by kernel_rfl) (by simp) ?_
    refine AllReadyH.cons (o := cvr6_o5) rfl (fun K hK => ?_) AllReadyH.nil
    rw [if_pos (by rfl)]
    unfold cvr6_o5 at hK ⊢
    go_simp
    refine (C2b _ _ HB).mono ?_
    rintro e x20 ⟨rfl, HB⟩
    try go_wp2_with fail
    skip
    refine hK.out _ _ (BS _ _ HB) (fun hHeld => ?_)
    clear hK K
    change wpAnyH _ _ _ _ _ _ _ (a19.put (some 31) (.int .i64 ti)) _
    obtain ⟨a20, e20⟩ : ∃ act, act = a19.put (some 31) (.int .i64 ti) := ⟨_, rfl⟩
    rw [← e20] at h3 ⊢
    have z20 := pz e20 z19
    replace t33 := pk e20 t33
    replace t35 := pk e20 t35
    replace t10 := pk e20 t10
    replace t28 := pk e20 t28
    clear t29 t30
    have t31 := pq e20 z19
    clear e20 z19
    refine wpAnyH_take (i := 10) (oi := cvr6_o10) (v := SpV.a ⟨fi, ti, x.nm, x.v⟩) rfl (by kernel_rfl) (by kernel_rfl) (by kernel_rfl) (fun _ _ _ h => h) (Or.inl ⟨by rfl, fun w1 hw => exec_build4 rfl t28 t31 t33 t35 (build_span _ _ _ _ _)⟩) hHeld ?_
    change wpAnyH _ _ _ _ _ _ _ (a20.put (some 36) (SpV.a ⟨fi, ti, x.nm, x.v⟩)) _
    obtain ⟨a21, e21⟩ : ∃ act, act = a20.put (some 36) (SpV.a ⟨fi, ti, x.nm, x.v⟩) := ⟨_, rfl⟩
    rw [← e21] at h3 ⊢
    have z21 := pz e21 z20
    replace t10 := pk e21 t10
    clear t33 t35 t28 t31
    have t36 := pq e21 z20
    clear e21 z20
    refine wpAnyH_ready (rs := [12]) (by kernel_rfl) (by simp) ?_
    refine AllReadyH.cons (o := cvr6_o12) rfl (fun K hK => ?_) AllReadyH.nil
    obtain ⟨w9, ES1, HF⟩ := ES _ _ HB
    have X := exec_store (P := Tryz.prog) (a := a21) (o := cvr6_o12) rfl t10 t36 ES1
    rw [if_pos (by rfl), Oper.wp, X]
    show K _ _
    clear X
    refine hK.out _ _ (FS _ _ HF) (fun hHeld => ?_)
    clear hK K
    exact wpAnyH_done (by kernel_rfl) (NoPanic.normal (h3 _ _ (HF) rfl)) _
def cvr7_ops : Array Oper := (⟨_, rfl⟩ : {o // some o = rgB Tryz.f63 7}).1
theorem cvr7 {eb : Nat} {p : SpV} {r : Bool} (a : Act) (w : World) (Q : Exit → Act → World → Prop) (zz : a.tmps.size = 54)
    (t10 : a.tmps.getD 10 undef = .pointer (some ⟨eb, 0, none⟩))
    (hr : decide (p.fr < p.to) = r) (LF : (Instr.loadAt 3 (.pointer (some ⟨eb, 0 + 0, none⟩))).run Tryz.prog w = .ok (.int .i64 p.fr) w) (LT : (Instr.loadAt 3 (.pointer (some ⟨eb, 0 + 1, none⟩))).run Tryz.prog w = .ok (.int .i64 p.to) w)
    (h : ∀ a' w', w' = w → a' = ((((a.put (some 37) (.pointer (some ⟨eb, 0 + 0, none⟩))).put (some 38) (.int .i64 p.fr)).put (some 39) (.pointer (some ⟨eb, 0 + 1, none⟩))).put (some 40) (.int .i64 p.to)).put (some 41) (.bool r) → Q .normal a' w') :
    (Code.region 7 cvr7_ops false).wp Tryz.prog Q a w := by
  refine z0 rfl ?_
  refine zv rfl (xfa rfl (zi t10 rfl) (fg_65_0 _ _ _)) ?_
  refine zv rfl (xld rfl (zg zz rfl) LF) ?_
  refine zv rfl (xfa rfl (zi t10 rfl) (fg_65_1 _ _ _)) ?_
  refine zv rfl (xld rfl (zg zz rfl) LT) ?_
  refine zv (v := .bool r) rfl (ex_lss rfl (zg zz rfl) (zg zz rfl) hr) ?_
  exact ze rfl (h _ _ (rfl) rfl)
def cvr8_ops : Array Oper := (⟨_, rfl⟩ : {o // some o = rgB Tryz.f63 8}).1
theorem cvr8 {fm eb sb : Nat} {p : SpV} {x : MkV} {u sv v2 : Value} {w1 w2 w3 : World} (S : World → Prop) (a : Act) (w : World) (Q : Exit → Act → World → Prop) (zz : a.tmps.size = 54)
    (t5 : a.tmps.getD 5 undef = .map (some fm))
    (t7 : a.tmps.getD 7 undef = .pointer (some ⟨eb, 0, none⟩))
    (t10 : a.tmps.getD 10 undef = .pointer (some ⟨sb, 0, none⟩))
    (h0 : S w.drew) (LN : ∀ W, S W → (Instr.loadAt 9 (.pointer (some ⟨eb, 0 + 33, none⟩))).run Tryz.prog W = .ok (.string x.nm) W) (LB : ∀ W, S W → (Instr.loadAt 65 (.pointer (some ⟨sb, 0, none⟩))).run Tryz.prog W = .ok (p.a) W) (LU : ∀ W, S W → (Instr.lookup 117 (.map (some fm)) (.string x.nm) false).run Tryz.prog W = .ok u W) (EB : (Instr.buildSlice 49 1 #[(0, p.a)]).run Tryz.prog w.drew = .ok sv w1) (S1 : S w1) (EA : (Builtin.append_ #[49, 49] 49 #[u, sv]).run Tryz.prog w1 = .ok v2 w2) (S2 : S w2) (EM : (Instr.mapUpdate 117 (.map (some fm)) (.string x.nm) v2).run Tryz.prog w2 = .ok () w3)
    (h : ∀ a' w', w' = w3 → a' = (((((((((a.put (some 42) (.map (some fm))).put (some 43) (.pointer (some ⟨eb, 0 + 33, none⟩))).put (some 44) (.string x.nm)).put (some 45) (.map (some fm))).put (some 46) (.pointer (some ⟨eb, 0 + 33, none⟩))).put (some 47) (.string x.nm)).put (some 48) (u)).put (some 49) (p.a)).put (some 50) (sv)).put (some 51) (v2) → Q .normal a' w') :
    (Code.region 8 cvr8_ops true).wp Tryz.prog Q a w := by
  refine x0 10 (fun w' => S w') (h0) (fun hHeld => ?_)
  refine xv 0 rfl rfl (fun w1 hw => xmv rfl (zi t5 rfl)) hHeld ?_
  refine xv 1 rfl rfl (fun w1 hw => xfa rfl (zi t7 rfl) (fg_95_1 _ _ _)) hHeld ?_
  refine xv 2 rfl rfl (fun w1 hw => xld rfl (zg zz rfl) (LN _ hw)) hHeld ?_
  refine xv 3 rfl rfl (fun w1 hw => xmv rfl (zi t5 rfl)) hHeld ?_
  refine xv 4 rfl rfl (fun w1 hw => xfa rfl (zi t7 rfl) (fg_95_1 _ _ _)) hHeld ?_
  refine xv 5 rfl rfl (fun w1 hw => xld rfl (zg zz rfl) (LN _ hw)) hHeld ?_
  refine xv (v := u) 6 rfl rfl (fun w1 hw => exec_lookupN rfl (zg zz rfl) (zg zz rfl) (LU _ hw)) hHeld ?_
  refine xv 7 rfl rfl (fun w1 hw => xld rfl (zi t10 rfl) (LB _ hw)) hHeld ?_
  refine xr (v := sv) 8 rfl rfl (exec_buildSlice rfl (zg zz rfl) EB) (fun _ => S1) (fun hHeld => ?_)
  replace hHeld := hHeld (by decide)
  refine xr (v := v2) 9 rfl rfl (exec_append rfl (zg zz rfl) (zg zz rfl) EA) (fun _ => S2) (fun hHeld => ?_)
  replace hHeld := hHeld (by decide)
  refine xs 10 rfl rfl (exec_mapUpdate rfl (zg zz rfl) (zg zz rfl) (zg zz rfl) EM) (fun hne => absurd rfl hne) (fun _ => ?_)
  exact xe rfl (h _ _ (rfl) rfl)
def spn4_ops : Array Oper := (⟨_, rfl⟩ : {o // some o = rgB Tryz.f25 4}).1
theorem spn4 {mb sb : Nat} (Fin : Nat → Nat → World → Prop) (a : Act) (w : World) (Q : Exit → Act → World → Prop) (zz : a.tmps.size = 25)
    (t0 : a.tmps.getD 0 undef = .pointer (some ⟨mb, 0, none⟩))
    (t1 : a.tmps.getD 1 undef = .pointer (some ⟨sb, 0, none⟩))
    (CC : Calls Tryz.prog 63 #[.pointer (some ⟨mb, 0, none⟩), .pointer (some ⟨sb, 0, none⟩)] w fun e w1 => ∃ fm, e = .returned (.map (some fm)) ∧ ∃ rb w2, (Instr.range 117 (.map (some fm))).run Tryz.prog w1 = .ok (.pointer (some ⟨rb, 0, none⟩)) w2 ∧ Fin fm rb w2)
    (h : ∀ (fm rb : Nat) a' w', Fin fm rb w' → a' = (((a.put (some 10) (.pointer (some ⟨mb, 0, none⟩))).put (some 11) (.pointer (some ⟨sb, 0, none⟩))).put (some 12) (.map (some fm))).put (some 13) (.pointer (some ⟨rb, 0, none⟩)) → Q .normal a' w') :
    (Code.region 4 spn4_ops false).wp Tryz.prog Q a w := by
  refine z0 rfl ?_
  refine zv rfl (xmv rfl (zi t0 rfl)) ?_
  refine zv rfl (xmv rfl (zi t1 rfl)) ?_
  refine zc rfl (exec_c2 rfl (zg zz rfl) (zg zz rfl)) (CC) (fun e x2 hx => ?_)
  obtain ⟨fm, rfl, rb, w2, ER, HF⟩ := hx
  replace h := h fm rb
  refine ⟨_, rfl, ?_⟩
  refine zv (v := .pointer (some ⟨rb, 0, none⟩)) rfl (exec_rangeM rfl (zg zz rfl) ER) ?_
  exact ze rfl (h _ _ (HF) rfl)
def spn7_ops : Array Oper := (⟨_, rfl⟩ : {o // some o = rgB Tryz.f25 7}).1
theorem spn7 {lv cv : Value} (Fin : Value → Value → World → Prop) (a : Act) (w : World) (Q : Exit → Act → World → Prop) (zz : a.tmps.size = 25)
    (t5 : a.tmps.getD 5 undef = lv)
    (t7 : a.tmps.getD 7 undef = cv)
    (CC : Calls Tryz.prog 64 #[cv] w fun e w1 => ∃ u, e = .returned u ∧ ∃ v2 w2, (Builtin.append_ #[49, 49] 49 #[lv, u]).run Tryz.prog w1 = .ok v2 w2 ∧ Fin u v2 w2)
    (h : ∀ (u v2 : Value) a' w', Fin u v2 w' → a' = ((((a.put (some 18) (lv)).put (some 19) (cv)).put (some 20) (u)).put (some 21) (v2)).put (some 5) (v2) → Q .normal a' w') :
    (Code.region 7 spn7_ops false).wp Tryz.prog Q a w := by
  refine z0 rfl ?_
  refine zv rfl (xmv rfl (zi t5 rfl)) ?_
  refine zv rfl (xmv rfl (zi t7 rfl)) ?_
  refine zc rfl (exec_c1 rfl (zg zz rfl)) (CC) (fun e x2 hx => ?_)
  obtain ⟨u, rfl, v2, w2, EA, HF⟩ := hx
  replace h := h u v2
  refine ⟨_, rfl, ?_⟩
  refine zv (v := v2) rfl (exec_append rfl (zg zz rfl) (zg zz rfl) EA) ?_
  refine zv rfl (xas rfl (zg zz rfl)) ?_
  exact ze rfl (h _ _ (HF) rfl)
end Go.Proofs.YtifendlpeebofaaGreatDoor
namespace Go.Proofs.YtifendlpeebofaaGreatDoor.K
open Go.RowKit
namespace V
theorem nan43 (k : Int) (w : World) : Calls Tryz.prog 168 #[.int .u8 k] w fun e w' => e = .returned (.bool false) ∧ w' = w := by
  go_enter Tryz.func168, Tryz.ntmps168
  go_wp2
  go_ret
  exact ⟨by simp, rfl⟩
theorem cmp29 (a b : Int) (w : World) : Calls Tryz.prog 145 #[.int .u8 a, .int .u8 b] w fun e w' => e = .returned (.int .i64 (cI a b)) ∧ w' = w := by
  have H : Hid (∀ k wx, Calls Tryz.prog 168 #[.int .u8 k] wx fun e w' => e = .returned (.bool false) ∧ w' = wx) := fun k wx => nan43 k wx
  unfold cI
  by_cases h1 : a < b
  · rw [if_pos h1]
    go_enter Tryz.func145, Tryz.ntmps145
    go_wp2_with (first | (go_at_call 168; refine (H.out _ _).mono ?_; rintro e _ ⟨rfl, rfl⟩) | fail)
    go_ret
    exact ⟨rfl, rfl⟩
  · rw [if_neg h1]
    by_cases h2 : b < a
    · rw [if_pos h2]
      go_enter Tryz.func145, Tryz.ntmps145
      go_wp2_with (first | (go_at_call 168; refine (H.out _ _).mono ?_; rintro e _ ⟨rfl, rfl⟩) | fail)
      go_ret
      exact ⟨rfl, rfl⟩
    · rw [if_neg h2]
      go_enter Tryz.func145, Tryz.ntmps145
      go_wp2_with (first | (go_at_call 168; refine (H.out _ _).mono ?_; rintro e _ ⟨rfl, rfl⟩) | fail)
      go_ret
      exact ⟨rfl, rfl⟩
theorem nan44 (k : Int) (w : World) : Calls Tryz.prog 169 #[.int .i64 k] w fun e w' => e = .returned (.bool false) ∧ w' = w := by
  go_enter Tryz.func169, Tryz.ntmps169
  go_wp2
  go_ret
  exact ⟨by simp, rfl⟩
theorem cmp30 (a b : Int) (w : World) : Calls Tryz.prog 146 #[.int .i64 a, .int .i64 b] w fun e w' => e = .returned (.int .i64 (cI a b)) ∧ w' = w := by
  have H : Hid (∀ k wx, Calls Tryz.prog 169 #[.int .i64 k] wx fun e w' => e = .returned (.bool false) ∧ w' = wx) := fun k wx => nan44 k wx
  unfold cI
  by_cases h1 : a < b
  · rw [if_pos h1]
    go_enter Tryz.func146, Tryz.ntmps146
    go_wp2_with (first | (go_at_call 169; refine (H.out _ _).mono ?_; rintro e _ ⟨rfl, rfl⟩) | fail)
    go_ret
    exact ⟨rfl, rfl⟩
  · rw [if_neg h1]
    by_cases h2 : b < a
    · rw [if_pos h2]
      go_enter Tryz.func146, Tryz.ntmps146
      go_wp2_with (first | (go_at_call 169; refine (H.out _ _).mono ?_; rintro e _ ⟨rfl, rfl⟩) | fail)
      go_ret
      exact ⟨rfl, rfl⟩
    · rw [if_neg h2]
      go_enter Tryz.func146, Tryz.ntmps146
      go_wp2_with (first | (go_at_call 169; refine (H.out _ _).mono ?_; rintro e _ ⟨rfl, rfl⟩) | fail)
      go_ret
      exact ⟨rfl, rfl⟩
theorem nan46 (s : ByteArray) (w : World) : Calls Tryz.prog 171 #[.string s] w fun e w' => e = .returned (.bool false) ∧ w' = w := by
  go_enter Tryz.func171, Tryz.ntmps171
  go_wp2
  go_ret
  exact ⟨by simp, rfl⟩
theorem cmp32 (a b : ByteArray) (w : World) : Calls Tryz.prog 148 #[.string a, .string b] w fun e w' => e = .returned (.int .i64 (cS a b)) ∧ w' = w := by
  have H : Hid (∀ k wx, Calls Tryz.prog 171 #[.string k] wx fun e w' => e = .returned (.bool false) ∧ w' = wx) := fun k wx => nan46 k wx
  unfold cS
  by_cases h1 : Op.bytesLess a.toList b.toList = true
  · rw [if_pos h1]
    go_enter Tryz.func148, Tryz.ntmps148
    go_wp2_with (first | (go_at_call 171; refine (H.out _ _).mono ?_; rintro e _ ⟨rfl, rfl⟩) | fail)
    go_ret
    exact ⟨rfl, rfl⟩
  · rw [if_neg h1]
    have h1' : Op.bytesLess a.toList b.toList = false := by simpa using h1
    by_cases h2 : (a.toList == b.toList) = true
    · rw [if_pos h2]
      go_enter Tryz.func148, Tryz.ntmps148
      go_wp2_with (first | (go_at_call 171; refine (H.out _ _).mono ?_; rintro e _ ⟨rfl, rfl⟩) | fail)
      go_ret
      exact ⟨rfl, rfl⟩
    · rw [if_neg h2]
      have h2' : (a.toList == b.toList) = false := by simpa using h2
      go_enter Tryz.func148, Tryz.ntmps148
      go_wp2_with (first | (go_at_call 171; refine (H.out _ _).mono ?_; rintro e _ ⟨rfl, rfl⟩) | fail)
      go_ret
      exact ⟨rfl, rfl⟩
theorem ford_lt (a b : Nat) (ha : ffin a) (hb : ffin b) : (Ieee.double.order a b == some .lt) = decide (fkey a < fkey b) := by
  rw [forder a b ha hb]
  simp only [compare, compareOfLessAndEq]
  by_cases h : fkey a < fkey b
  · rw [if_pos h]; simp [h]
  · rw [if_neg h]
    by_cases h2 : fkey a = fkey b
    · rw [if_pos h2]; simp [h]
    · rw [if_neg h2]; simp [h]
theorem ford_gt (a b : Nat) (ha : ffin a) (hb : ffin b) : (Ieee.double.order a b == some .gt) = decide (fkey b < fkey a) := by
  rw [forder a b ha hb]
  simp only [compare, compareOfLessAndEq]
  by_cases h : fkey a < fkey b
  · rw [if_pos h]
    have : ¬ fkey b < fkey a := by omega
    simp [this]
  · rw [if_neg h]
    by_cases h2 : fkey a = fkey b
    · rw [if_pos h2]
      have : ¬ fkey b < fkey a := by omega
      simp [this]
    · rw [if_neg h2]
      have : fkey b < fkey a := by omega
      simp [this]
theorem nan45 (f : Nat) (w : World) (hf : ffin f) : Calls Tryz.prog 170 #[.float .f64 f] w fun e w' => e = .returned (.bool false) ∧ w' = w := by
  have h : (FloatKind.f64.format.order f f != some .eq) = false := by
    rw [show FloatKind.f64.format.order f f = Ieee.double.order f f from rfl, ford_self f hf]; rfl
  go_enter Tryz.func170, Tryz.ntmps170
  go_wp2
  go_ret
  exact ⟨rfl, rfl⟩
theorem cmp31 (a b : Nat) (w : World) (ha : ffin a) (hb : ffin b) : Calls Tryz.prog 147 #[.float .f64 a, .float .f64 b] w fun e w' => e = .returned (.int .i64 (cI (fkey a) (fkey b))) ∧ w' = w := by
  have HA : Hid (∀ wx, Calls Tryz.prog 170 #[.float .f64 a] wx fun e w' => e = .returned (.bool false) ∧ w' = wx) := fun wx => nan45 a wx ha
  have HB : Hid (∀ wx, Calls Tryz.prog 170 #[.float .f64 b] wx fun e w' => e = .returned (.bool false) ∧ w' = wx) := fun wx => nan45 b wx hb
  have e1 : (FloatKind.f64.format.order a b == some .lt) = decide (fkey a < fkey b) := ford_lt a b ha hb
  have e2 : (FloatKind.f64.format.order a b == some .gt) = decide (fkey b < fkey a) := ford_gt a b ha hb
  generalize fkey a = x at *
  generalize fkey b = y at *
  clear ha hb
  unfold cI
  rcases (show x < y ∨ y < x ∨ x = y by omega) with h | h | h
  · rw [if_pos h]
    rw [decide_eq_true h] at e1
    rw [decide_eq_false (by omega)] at e2
    go_enter Tryz.func147, Tryz.ntmps147
    go_wp2_with fail
    refine (HA.out _).mono ?_
    rintro e _ ⟨rfl, rfl⟩
    go_wp2_with fail
    refine (HB.out _).mono ?_
    rintro e _ ⟨rfl, rfl⟩
    go_wp2
    go_ret
    exact ⟨rfl, rfl⟩
  · rw [if_neg (by omega), if_pos h]
    rw [decide_eq_false (by omega)] at e1
    rw [decide_eq_true h] at e2
    go_enter Tryz.func147, Tryz.ntmps147
    go_wp2_with fail
    refine (HA.out _).mono ?_
    rintro e _ ⟨rfl, rfl⟩
    go_wp2_with fail
    refine (HB.out _).mono ?_
    rintro e _ ⟨rfl, rfl⟩
    go_wp2
    go_ret
    exact ⟨rfl, rfl⟩
  · rw [if_neg (by omega), if_neg (by omega)]
    rw [decide_eq_false (by omega)] at e1
    rw [decide_eq_false (by omega)] at e2
    go_enter Tryz.func147, Tryz.ntmps147
    go_wp2_with fail
    refine (HA.out _).mono ?_
    rintro e _ ⟨rfl, rfl⟩
    go_wp2_with fail
    refine (HB.out _).mono ?_
    rintro e _ ⟨rfl, rfl⟩
    go_wp2
    go_ret
    exact ⟨rfl, rfl⟩
def or4 (a b c d : Int) : Int := if a = 0 then (if b = 0 then (if c = 0 then d else c) else b) else a
def sel4 (a b c d : Int) (k : Nat) : Int := if k = 0 then a else if k = 1 then b else if k = 2 then c else d
theorem or_any (g : Nat) (a b c d : Int) (w : World) (t : TypeId) (fr : Nat × Nat) (hg : w.heap[g]? = some (.cells #[.int .i64 a, .int .i64 b, .int .i64 c, .int .i64 d] t fr)) :
    Calls Tryz.prog 84 #[.slice (some ⟨g, 0, none⟩) 4 4] w fun e w' => e = .returned (.int .i64 (or4 a b c d)) ∧ w' = w := by
  have HC : Hid (∀ k, k < 4 → w.cell? ⟨g, k, none⟩ = some (.int .i64 (sel4 a b c d k))) := fun k hk => by
    rw [cell_of_row w g k _ _ _ hg]
    rcases (show k = 0 ∨ k = 1 ∨ k = 2 ∨ k = 3 by omega) with rfl | rfl | rfl | rfl <;> rfl
  have HO : Hid (∀ k, k < 4 → (∀ j, j < k → sel4 a b c d j = 0) → sel4 a b c d k ≠ 0 → or4 a b c d = sel4 a b c d k) := fun k hk h1 h2 => by
    rcases (show k = 0 ∨ k = 1 ∨ k = 2 ∨ k = 3 by omega) with rfl | rfl | rfl | rfl
    · simp only [sel4, if_true] at h2 ⊢; unfold or4; rw [if_neg h2]
    · have := h1 0 (by omega)
      simp [sel4] at h2 this
      simp [or4, sel4, this, h2]
    · have := h1 0 (by omega)
      have := h1 1 (by omega)
      simp_all [or4, sel4]
    · have := h1 0 (by omega)
      have := h1 1 (by omega)
      have := h1 2 (by omega)
      simp_all [or4, sel4]
  have HZ : Hid ((∀ j, j < 4 → sel4 a b c d j = 0) → or4 a b c d = 0) := fun h => by
    have := h 0 (by omega)
    have := h 1 (by omega)
    have := h 2 (by omega)
    have := h 3 (by omega)
    simp_all [or4, sel4]
  generalize or4 a b c d = O at *
  clear hg
  go_enter Tryz.func84, Tryz.ntmps84
  go_wp2
  go_loopw [8] (fun i wr => ∃ k : Nat, k ≤ 4 ∧ i = .int .i64 k ∧ wr = w ∧ Hid (∀ j, j < k → sel4 a b c d j = 0)) (fun i _ => 4 - (intOf i).toNat)
  case atStart => exact ⟨0, by omega, rfl, rfl, fun j hj => by omega⟩
  case round =>
    obtain ⟨k, hk, rfl, rfl, hj⟩ := hrel
    by_cases h1 : k < 4
    · have h1' : (k : Int) < 4 := by omega
      have cx := HC.out k h1
      by_cases h0 : sel4 a b c d k = 0
      · have HN : Hid (∀ j, j < k + 1 → sel4 a b c d j = 0) := fun j hj2 => by
          rcases Nat.lt_or_ge j k with h | h
          · exact hj.out j h
          · have : j = k := by omega
            subst this; exact h0
        generalize sel4 a b c d k = X at cx h0
        subst h0
        go_wp2
        go_roundw
        case rel => exact ⟨k + 1, by omega, by go_num, by trivial, HN⟩
        case measure => simp [intOf]; omega
      · have eO : Hid (O = sel4 a b c d k) := HO.out k h1 hj.out h0
        generalize sel4 a b c d k = X at *
        go_wp2
        go_ret
        exact ⟨by rw [eO.out]; rfl, rfl⟩
    · have h1' : ¬ (k : Int) < 4 := by omega
      obtain rfl : k = 4 := by omega
      have eO : Hid (O = 0) := HZ.out hj.out
      clear HO HZ hj HC
      go_wp2
      go_ret
      exact ⟨by rw [eO.out]; rfl, rfl⟩
theorem bel_box2 (w : World) (c d : Array Value) (t u : TypeId) : Below w.heap.size w ((w.alloc (.cells c t)).alloc (.cells d u)) := ((Below.refl _ _).alloc (Nat.le_refl _) _).alloc (by simp) _
theorem right_fin {k n : Int} {f : Nat} {s : ByteArray} (h : rightV k n f s = true) : ffin f := by
  unfold rightV at h
  split at h
  · unfold rightF finB at h
    simp at h
    unfold ffin
    omega
  · have h0 : f = 0 := by
      split at h
      · unfold rightT at h
        simp at h
        omega
      · unfold rightB at h
        split at h
        · simp at h; omega
        · split at h
          · simp at h; omega
          · split at h
            · simp at h; omega
            · split at h
              · simp at h; omega
              · split at h
                · simp at h; omega
                · cases h
    subst h0
    unfold ffin
    omega
def cmpV (k n : Int) (f : Nat) (s : ByteArray) (k' n' : Int) (f' : Nat) (s' : ByteArray) : Int :=
  if rightV k n f s = true ∧ rightV k' n' f' s' = true then or4 (cI k k') (cI n n') (cI (fkey f) (fkey f')) (cS s s') else 0
structure Boxes (w wx : World) (k n : Int) (f : Nat) (s : ByteArray) (k' n' : Int) (f' : Nat) (s' : ByteArray) : Prop where
  all : wx.cell? ⟨w.heap.size, 0, none⟩ = some (.int .u8 k) ∧ wx.cell? ⟨w.heap.size, 1, none⟩ = some (.int .i64 n) ∧ wx.cell? ⟨w.heap.size, 2, none⟩ = some (.float .f64 f) ∧ wx.cell? ⟨w.heap.size, 3, none⟩ = some (.string s) ∧ wx.cell? ⟨w.heap.size + 1, 0, none⟩ = some (.int .u8 k') ∧ wx.cell? ⟨w.heap.size + 1, 1, none⟩ = some (.int .i64 n') ∧ wx.cell? ⟨w.heap.size + 1, 2, none⟩ = some (.float .f64 f') ∧ wx.cell? ⟨w.heap.size + 1, 3, none⟩ = some (.string s')
theorem boxes_new (w : World) (k n : Int) (f : Nat) (s : ByteArray) (k' n' : Int) (f' : Nat) (s' : ByteArray) : Boxes w ((w.alloc (.cells #[.int .u8 k, .int .i64 n, .float .f64 f, .string s] 40)).alloc (.cells #[.int .u8 k', .int .i64 n', .float .f64 f', .string s'] 40)) k n f s k' n' f' s' := by
  have g0 : ((w.alloc (.cells #[.int .u8 k, .int .i64 n, .float .f64 f, .string s] 40)).alloc (.cells #[.int .u8 k', .int .i64 n', .float .f64 f', .string s'] 40)).heap[w.heap.size]? = some (.cells #[.int .u8 k, .int .i64 n, .float .f64 f, .string s] 40 (0, 0)) := by
    rw [Below.heap_alloc _ _ _ (by simp)]; exact heap_alloc_new _ _
  have g1 : ((w.alloc (.cells #[.int .u8 k, .int .i64 n, .float .f64 f, .string s] 40)).alloc (.cells #[.int .u8 k', .int .i64 n', .float .f64 f', .string s'] 40)).heap[w.heap.size + 1]? = some (.cells #[.int .u8 k', .int .i64 n', .float .f64 f', .string s'] 40 (0, 0)) := by
    have := heap_alloc_new (w.alloc (.cells #[.int .u8 k, .int .i64 n, .float .f64 f, .string s] 40)) (.cells #[.int .u8 k', .int .i64 n', .float .f64 f', .string s'] 40)
    simpa using this
  exact ⟨(cell_of_row _ _ 0 _ _ _ g0).trans rfl, (cell_of_row _ _ 1 _ _ _ g0).trans rfl, (cell_of_row _ _ 2 _ _ _ g0).trans rfl, (cell_of_row _ _ 3 _ _ _ g0).trans rfl, (cell_of_row _ _ 0 _ _ _ g1).trans rfl, (cell_of_row _ _ 1 _ _ _ g1).trans rfl, (cell_of_row _ _ 2 _ _ _ g1).trans rfl, (cell_of_row _ _ 3 _ _ _ g1).trans rfl⟩
theorem Boxes.below {w W wx : World} {k n : Int} {f : Nat} {s : ByteArray} {k' n' : Int} {f' : Nat} {s' : ByteArray} (h : Boxes w W k n f s k' n' f' s') (z : w.heap.size + 1 < W.heap.size) (hx : Below W.heap.size W wx) : Boxes w wx k n f s k' n' f' s' := by
  obtain ⟨h0, h1, h2, h3, h4, h5, h6, h7⟩ := h.all
  have z0 : w.heap.size < W.heap.size := by omega
  exact ⟨(hx.cell (p := ⟨w.heap.size, 0, none⟩) z0).trans h0, (hx.cell (p := ⟨w.heap.size, 1, none⟩) z0).trans h1, (hx.cell (p := ⟨w.heap.size, 2, none⟩) z0).trans h2, (hx.cell (p := ⟨w.heap.size, 3, none⟩) z0).trans h3, (hx.cell (p := ⟨w.heap.size + 1, 0, none⟩) z).trans h4, (hx.cell (p := ⟨w.heap.size + 1, 1, none⟩) z).trans h5, (hx.cell (p := ⟨w.heap.size + 1, 2, none⟩) z).trans h6, (hx.cell (p := ⟨w.heap.size + 1, 3, none⟩) z).trans h7⟩
theorem compare_any (k n : Int) (f : Nat) (s : ByteArray) (k' n' : Int) (f' : Nat) (s' : ByteArray) (w : World) (hk : 0 ≤ k) (hf : f < 18446744073709551616) (hs : s.size ≤ 9223372036854775807) (hk' : 0 ≤ k') (hf' : f' < 18446744073709551616) (hs' : s'.size ≤ 9223372036854775807) (hT : Tabs w) :
    Calls Tryz.prog 114 #[.agg #[.int .u8 k, .int .i64 n, .float .f64 f, .string s], .agg #[.int .u8 k', .int .i64 n', .float .f64 f', .string s']] w fun e w' => e = .returned (.int .i64 (cmpV k n f s k' n' f' s')) ∧ Below w.heap.size w w' := by
  have bx := bel_box2 w #[.int .u8 k, .int .i64 n, .float .f64 f, .string s] #[.int .u8 k', .int .i64 n', .float .f64 f', .string s'] 40 40
  have zW : w.heap.size + 1 < ((w.alloc (.cells #[.int .u8 k, .int .i64 n, .float .f64 f, .string s] 40)).alloc (.cells #[.int .u8 k', .int .i64 n', .float .f64 f', .string s'] 40)).heap.size := by simp
  have hB := boxes_new w k n f s k' n' f' s'
  have hT0 := hT.below bx
  have RA : Hid (∀ wx, Below ((w.alloc (.cells #[.int .u8 k, .int .i64 n, .float .f64 f, .string s] 40)).alloc (.cells #[.int .u8 k', .int .i64 n', .float .f64 f', .string s'] 40)).heap.size ((w.alloc (.cells #[.int .u8 k, .int .i64 n, .float .f64 f, .string s] 40)).alloc (.cells #[.int .u8 k', .int .i64 n', .float .f64 f', .string s'] 40)) wx → Calls Tryz.prog 71 #[.agg #[.int .u8 k, .int .i64 n, .float .f64 f, .string s]] wx fun e w' => e = .returned (.bool (rightV k n f s)) ∧ Below ((w.alloc (.cells #[.int .u8 k, .int .i64 n, .float .f64 f, .string s] 40)).alloc (.cells #[.int .u8 k', .int .i64 n', .float .f64 f', .string s'] 40)).heap.size ((w.alloc (.cells #[.int .u8 k, .int .i64 n, .float .f64 f, .string s] 40)).alloc (.cells #[.int .u8 k', .int .i64 n', .float .f64 f', .string s'] 40)) w') := fun wx hx => (right26_any k n f s wx hk hf hs (hT0.below hx)).mono fun e w' h => ⟨h.1, hx.trans (h.2.mono hx.size)⟩
  have RB : Hid (∀ wx, Below ((w.alloc (.cells #[.int .u8 k, .int .i64 n, .float .f64 f, .string s] 40)).alloc (.cells #[.int .u8 k', .int .i64 n', .float .f64 f', .string s'] 40)).heap.size ((w.alloc (.cells #[.int .u8 k, .int .i64 n, .float .f64 f, .string s] 40)).alloc (.cells #[.int .u8 k', .int .i64 n', .float .f64 f', .string s'] 40)) wx → Calls Tryz.prog 71 #[.agg #[.int .u8 k', .int .i64 n', .float .f64 f', .string s']] wx fun e w' => e = .returned (.bool (rightV k' n' f' s')) ∧ Below ((w.alloc (.cells #[.int .u8 k, .int .i64 n, .float .f64 f, .string s] 40)).alloc (.cells #[.int .u8 k', .int .i64 n', .float .f64 f', .string s'] 40)).heap.size ((w.alloc (.cells #[.int .u8 k, .int .i64 n, .float .f64 f, .string s] 40)).alloc (.cells #[.int .u8 k', .int .i64 n', .float .f64 f', .string s'] 40)) w') := fun wx hx => (right26_any k' n' f' s' wx hk' hf' hs' (hT0.below hx)).mono fun e w' h => ⟨h.1, hx.trans (h.2.mono hx.size)⟩
  have eC : Hid (cmpV k n f s k' n' f' s' = if rightV k n f s = true ∧ rightV k' n' f' s' = true then or4 (cI k k') (cI n n') (cI (fkey f) (fkey f')) (cS s s') else 0) := rfl
  have F1 : Hid (rightV k n f s = true → ffin f) := right_fin
  have F2 : Hid (rightV k' n' f' s' = true → ffin f') := right_fin
  generalize rightV k n f s = V1 at *
  generalize rightV k' n' f' s' = V2 at *
  rw [eC.out]
  clear eC hT hT0 hf hs hf' hs'
  cases V1 with
  | false =>
    rw [if_neg (by simp)]
    go_enter Tryz.func114, Tryz.ntmps114
    go_wp2_with fail
    refine (RA.out _ (Below.refl _ _)).mono ?_
    rintro e w1 ⟨rfl, b1⟩
    clear RA RB F1 F2
    go_wp2
    go_ret
    exact ⟨rfl, bx.trans (b1.mono (by simp; omega))⟩
  | true =>
    cases V2 with
    | false =>
      rw [if_neg (by simp)]
      go_enter Tryz.func114, Tryz.ntmps114
      go_wp2_with fail
      refine (RA.out _ (Below.refl _ _)).mono ?_
      rintro e w1 ⟨rfl, b1⟩
      obtain ⟨a0, a1, a2, a3, e0, e1, e2, e3⟩ := (hB.below zW b1).all
      go_wp2_with fail
      refine (RB.out _ b1).mono ?_
      rintro e w2 ⟨rfl, b2⟩
      clear RA RB F1 F2
      go_wp2
      go_ret
      exact ⟨rfl, bx.trans (b2.mono (by simp; omega))⟩
    | true =>
      rw [if_pos (by simp)]
      have ff := F1.out rfl
      have ff' := F2.out rfl
      clear F1 F2
      go_enter Tryz.func114, Tryz.ntmps114
      go_wp2_with fail
      refine (RA.out _ (Below.refl _ _)).mono ?_
      rintro e w1 ⟨rfl, b1⟩
      obtain ⟨a0, a1, a2, a3, e0, e1, e2, e3⟩ := (hB.below zW b1).all
      go_wp2_with fail
      refine (RB.out _ b1).mono ?_
      rintro e w2 ⟨rfl, b2⟩
      have sB := (hB.below zW b2)
      have bw2 : Below w.heap.size w w2 := bx.trans (b2.mono (by simp; omega))
      have z2 : w.heap.size + 1 < w2.heap.size := by have := b2.size; omega
      clear RA RB a0 a1 a2 a3 e0 e1 e2 e3 b1 b2 hB bx zW
      go_upto_region 3 with fail
      obtain ⟨a0, a1, a2, a3, e0, e1, e2, e3⟩ := sB.all
      have C1 : Hid (∀ wx, Calls Tryz.prog 145 #[.int .u8 k, .int .u8 k'] wx fun e w' => e = .returned (.int .i64 (cI k k')) ∧ w' = wx) := fun wx => cmp29 k k' wx
      have C2 : Hid (∀ wx, Calls Tryz.prog 146 #[.int .i64 n, .int .i64 n'] wx fun e w' => e = .returned (.int .i64 (cI n n')) ∧ w' = wx) := fun wx => cmp30 n n' wx
      have C3 : Hid (∀ wx, Calls Tryz.prog 147 #[.float .f64 f, .float .f64 f'] wx fun e w' => e = .returned (.int .i64 (cI (fkey f) (fkey f'))) ∧ w' = wx) := fun wx => cmp31 f f' wx ff ff'
      have C4 : Hid (∀ wx, Calls Tryz.prog 148 #[.string s, .string s'] wx fun e w' => e = .returned (.int .i64 (cS s s')) ∧ w' = wx) := fun wx => cmp32 s s' wx
      generalize hx1 : cI k k' = x1 at *
      have X1 : Hid (cI k k' = x1) := hx1
      clear hx1
      generalize hx2 : cI n n' = x2 at *
      have X2 : Hid (cI n n' = x2) := hx2
      clear hx2
      generalize hx3 : cI (fkey f) (fkey f') = x3 at *
      have X3 : Hid (cI (fkey f) (fkey f') = x3) := hx3
      clear hx3
      generalize hx4 : cS s s' = x4 at *
      have X4 : Hid (cS s s' = x4) := hx4
      clear hx4
      clear ff ff'
      go_region_held3 (fun w' => w'.cell? ⟨w.heap.size, 0, none⟩ = some (.int .u8 k) ∧ w'.cell? ⟨w.heap.size, 1, none⟩ = some (.int .i64 n) ∧ w'.cell? ⟨w.heap.size, 2, none⟩ = some (.float .f64 f) ∧ w'.cell? ⟨w.heap.size, 3, none⟩ = some (.string s) ∧ w'.cell? ⟨w.heap.size + 1, 0, none⟩ = some (.int .u8 k') ∧ w'.cell? ⟨w.heap.size + 1, 1, none⟩ = some (.int .i64 n') ∧ w'.cell? ⟨w.heap.size + 1, 2, none⟩ = some (.float .f64 f') ∧ w'.cell? ⟨w.heap.size + 1, 3, none⟩ = some (.string s')) (first | assumption | go_keep) (first
        | (go_at_call 145; refine (C1.out _).mono ?_; rintro e _ ⟨rfl, rfl⟩)
        | (go_at_call 146; refine (C2.out _).mono ?_; rintro e _ ⟨rfl, rfl⟩)
        | (go_at_call 147; refine (C3.out _).mono ?_; rintro e _ ⟨rfl, rfl⟩)
        | (go_at_call 148; refine (C4.out _).mono ?_; rintro e _ ⟨rfl, rfl⟩)
        | (go_at_call 84; refine (or_any _ x1 x2 x3 x4 _ 3 (0, 0) (by exact heap_alloc_new _ _)).mono ?_; rintro e _ ⟨rfl, rfl⟩))
      go_wp2
      go_ret
      refine ⟨by rw [X1.out, X2.out, X3.out, X4.out]; rfl, ?_⟩
      first | exact (bw2.alloc (by omega) _).drew | exact bw2.alloc (by omega) _ | exact below_drewN (bw2.alloc (by omega) _) _ | exact ((below_drewN bw2 _).alloc (by simp; omega) _).drew
theorem or4_zero {a b c d : Int} (h : or4 a b c d = 0) : a = 0 ∧ b = 0 ∧ c = 0 ∧ d = 0 := by
  unfold or4 at h
  split at h
  · split at h
    · split at h
      · exact ⟨by assumption, by assumption, by assumption, h⟩
      · exact absurd h (by assumption)
    · exact absurd h (by assumption)
  · exact absurd h (by assumption)
end V
end Go.Proofs.YtifendlpeebofaaGreatDoor.K
namespace Go.Proofs.YtifendlpeebofaaGreatDoor
/-! ### ranks and indices -/
theorem ahead_at {F : List Elt} (ok : SeqOk F) (c : Bool) {i : Nat} (hi : i < F.length) : aheadE F c F[i].id = ((F.take i).countP (cE c) : Int) := by
  have hs : F = F.take i ++ F[i] :: F.drop (i + 1) := by rw [List.getElem_cons_drop]; exact (List.take_append_drop i F).symm
  have hh : hasE F F[i].id = true := hasE_iff.2 ⟨F[i], List.getElem_mem hi, rfl⟩
  unfold aheadE
  rw [if_pos hh]
  have e : F.takeWhile (fun e => !decide (e.id = F[i].id)) = F.take i := by
    have nd := ok.nd
    generalize F[i] = x at *
    rw [hs, List.map_append, List.map_cons, List.nodup_append] at nd
    conv => lhs; rw [hs]
    refine takeWhile_mid (fun y hy => ?_) (by simp)
    have : y.id ≠ x.id := nd.2.2 y.id (List.mem_map.2 ⟨y, hy, rfl⟩) x.id (by simp)
    simpa using this
  rw [e]
theorem cntF_all (l : List Elt) : l.countP (cE false) = l.length := List.countP_eq_length.2 fun x _ => rfl
theorem rank_at {F : List Elt} (ok : SeqOk F) {i : Nat} (hi : i < F.length) : aheadE F false F[i].id = (i : Int) := by
  rw [ahead_at ok false hi, cntF_all, List.length_take, Nat.min_eq_left (by omega)]
def cntE (E : List Elt) (r : Nat) : Nat := (E.take r).countP (cE true)
theorem cntE_succ {E : List Elt} {r : Nat} (hr : r < E.length) : cntE E (r + 1) = cntE E r + (if E[r].sh = true then 1 else 0) := by
  unfold cntE
  rw [List.take_add_one, List.getElem?_eq_getElem hr, Option.toList, List.countP_append, List.countP_cons, List.countP_nil]
  simp [cE]
theorem cntE_le {E : List Elt} {a b : Nat} (h : a ≤ b) : cntE E a ≤ cntE E b := by
  unfold cntE
  exact (List.take_sublist_take_left h).countP_le
theorem cntE_len (E : List Elt) {r : Nat} (h : E.length ≤ r) : cntE E r = (visE E true).length := by
  unfold cntE visE
  rw [List.take_of_length_le h, List.countP_eq_length_filter]
theorem cntE_bd (E : List Elt) (r : Nat) : cntE E r ≤ (visE E true).length := by
  rw [← cntE_len E (Nat.le_refl _)]
  rcases Nat.le_total r E.length with h | h
  · exact cntE_le h
  · rw [cntE_len E h, cntE_len E (Nat.le_refl _)]; exact Nat.le_refl _
theorem idx_cnt {E : List Elt} (ok : SeqOk E) {r : Nat} (hr : r ≤ E.length) : idxE E (r : Int) = (cntE E r : Int) := by
  unfold idxE nthE
  rw [vis_all]
  by_cases h : r < E.length
  · have h1 : (0 : Int) ≤ (r : Int) ∧ (r : Int) < (E.length : Int) := by omega
    simp only [if_pos h1, if_true, Int.toNat_natCast]
    rw [List.getD_eq_getElem?_getD, List.getElem?_map, List.getElem?_eq_getElem h]
    exact ahead_at ok true h
  · have h1 : ¬ ((0 : Int) ≤ (r : Int) ∧ (r : Int) < (E.length : Int)) := by omega
    simp only [if_neg h1, Bool.false_eq_true, if_false]
    rw [cntE_len E (by omega)]
theorem reach_nat {E : List Elt} (ok : SeqOk E) (x : MkV) : ∃ f t : Nat, reachP E x = ((f : Int), (t : Int)) ∧ f ≤ E.length ∧ t ≤ E.length := by
  have edge : ∀ (k : IdK) (bh : Bool) (z : Nat), z ≤ E.length → (edgeP E k bh (z : Int)).2 = true → ∃ n : Nat, (edgeP E k bh (z : Int)).1 = (n : Int) ∧ n ≤ E.length := fun k bh z hz h => by
    unfold edgeP at *
    by_cases q : k = zId
    · rw [if_pos q] at *; exact ⟨z, rfl, hz⟩
    · rw [if_neg q] at *
      have hl : ∀ y : Int, y = aheadE E false k → decide (y ≥ 0) = true → ∃ n : Nat, y = (n : Int) ∧ n + 1 ≤ E.length := fun y e hy => by
        have hy := of_decide_eq_true hy
        have hh : hasE E k = true := by
          cases hq : hasE E k with
          | true => rfl
          | false => unfold aheadE at e; rw [hq] at e; simp at e; omega
        obtain ⟨d, hd, rfl⟩ := hasE_iff.1 hh
        obtain ⟨i, hi, rfl⟩ := List.mem_iff_getElem.1 hd
        rw [rank_at ok hi] at e
        exact ⟨i, e, hi⟩
      cases bh with
      | true =>
        rw [if_pos rfl] at *
        obtain ⟨n, e, hn⟩ := hl _ rfl h
        exact ⟨n + 1, by simp only; omega, hn⟩
      | false =>
        rw [if_neg (by decide)] at *
        obtain ⟨n, e, hn⟩ := hl _ rfl h
        exact ⟨n, e, by omega⟩
  unfold reachP
  by_cases q : (edgeP E x.fr (bF x.sd) 0).2 = true ∧ (edgeP E x.to (bT x.sd) (E.length : Int)).2 = true
  · rw [if_pos q]
    obtain ⟨f, e1, h1⟩ := edge x.fr (bF x.sd) 0 (by omega) q.1
    obtain ⟨t, e2, h2⟩ := edge x.to (bT x.sd) E.length (Nat.le_refl _) q.2
    refine ⟨f, t, ?_, h1, h2⟩
    rw [e2]
    rw [show (0 : Int) = ((0 : Nat) : Int) from rfl, e1]
  · rw [if_neg q]
    exact ⟨0, 0, rfl, Nat.zero_le _, Nat.zero_le _⟩
def covR (E : List Elt) (r : Int) (x : MkV) : Bool := decide ((reachP E x).1 ≤ r ∧ r < (reachP E x).2)
def cvE (E : List Elt) (x : MkV) : SpV := ⟨idxE E (reachP E x).1, idxE E (reachP E x).2, x.nm, x.v⟩
theorem cv_bd {E : List Elt} (ok : SeqOk E) (x : MkV) : 0 ≤ (cvE E x).fr ∧ (cvE E x).to ≤ ((visE E true).length : Int) ∧ (cvE E x).fr ≤ ((visE E true).length : Int) ∧ 0 ≤ (cvE E x).to := by
  obtain ⟨f, t, e, h1, h2⟩ := reach_nat ok x
  unfold cvE
  rw [e]
  simp only [idx_cnt ok h1, idx_cnt ok h2]
  have := cntE_bd E t
  have := cntE_bd E f
  omega
theorem cv_in {E : List Elt} (ok : SeqOk E) (x : MkV) {r : Nat} (hr : r < E.length) (hs : E[r].sh = true) : inC (cntE E r : Int) (cvE E x) = covR E (r : Int) x := by
  obtain ⟨f, t, e, h1, h2⟩ := reach_nat ok x
  have s1 := cntE_succ hr
  rw [if_pos hs] at s1
  unfold inC covR cvE
  rw [e]
  simp only [idx_cnt ok h1, idx_cnt ok h2]
  rw [Bool.eq_iff_iff]
  simp only [decide_eq_true_eq]
  have key : ∀ n : Nat, (cntE E n : Int) ≤ (cntE E r : Int) ↔ n ≤ r := fun n => by
    constructor
    · intro h
      rcases Nat.lt_or_ge r n with q | q
      · have := cntE_le (E := E) (show r + 1 ≤ n from q); omega
      · exact q
    · intro h; have := cntE_le (E := E) h; omega
  have k1 := key f
  have k2 := key t
  constructor
  · rintro ⟨g1, g2⟩; exact ⟨by have := k1.1 g1; omega, by
      have : ¬ t ≤ r := fun q => by have := k2.2 q; omega
      omega⟩
  · rintro ⟨g1, g2⟩; exact ⟨k1.2 (by omega), by
      have : ¬ (cntE E t : Int) ≤ (cntE E r : Int) := fun q => by have := k2.1 q; omega
      omega⟩
def cvL (E : List Elt) (L : List MkV) : List SpV := (L.map (cvE E)).filter fun c => decide (c.fr < c.to)
def cvN (E : List Elt) (L : List MkV) (nm : ByteArray) : List SpV := (cvL E L).filter fun c => decide (c.nm = nm)
def hE (E : List Elt) (L : List MkV) (nm : ByteArray) (j : Int) : Option VaV := valC (cvN E L nm) j
theorem lastI_filter {C : List SpV} {j : Int} : valC C j = ((C.filter (inC j)).getLast?).bind fun c => if c.v.k = 0 then none else some c.v := by
  unfold valC
  cases h : lastI C j with
  | none =>
    have := lastI_none.1 h
    rw [List.filter_eq_nil_iff.2 (fun c hc => by rw [this c hc]; decide)]
    rfl
  | some i =>
    obtain ⟨c, h1, h2, h3⟩ := lastI_some.1 h
    have hi := (List.getElem?_eq_some_iff.1 h1)
    have hs : C = C.take i ++ c :: C.drop (i + 1) := by
      obtain ⟨hl, rfl⟩ := hi
      rw [List.getElem_cons_drop]; exact (List.take_append_drop i C).symm
    have hd : (C.drop (i + 1)).filter (inC j) = [] := List.filter_eq_nil_iff.2 fun d hd => by
      obtain ⟨k, hk⟩ := List.mem_iff_getElem?.1 hd
      rw [List.getElem?_drop] at hk
      rw [h3 _ d (by omega) hk]; decide
    have e : C.filter (inC j) = (C.take i).filter (inC j) ++ [c] := by
      conv => lhs; rw [hs]
      rw [List.filter_append, List.filter_cons, if_pos h2, hd]
    rw [e]
    simp [valI, h1]
def hR (E : List Elt) (L : List MkV) (nm : ByteArray) (r : Int) : Option VaV := ((L.filter fun x => decide (x.nm = nm) && covR E r x).getLast?).bind fun x => if x.v.k = 0 then none else some x.v
theorem hE_rank {E : List Elt} (ok : SeqOk E) (L : List MkV) (nm : ByteArray) {r : Nat} (hr : r < E.length) (hs : E[r].sh = true) : hE E L nm (cntE E r : Int) = hR E L nm (r : Int) := by
  unfold hE hR
  rw [lastI_filter]
  have e : (cvN E L nm).filter (inC (cntE E r : Int)) = (L.filter fun x => decide (x.nm = nm) && covR E (r : Int) x).map (cvE E) := by
    unfold cvN cvL
    rw [List.filter_filter, List.filter_filter, List.filter_map]
    congr 1
    refine List.filter_congr fun x _ => ?_
    have h := cv_in ok x hr hs
    simp only [Function.comp, h]
    by_cases q : covR E (r : Int) x = true
    · have : (cvE E x).fr < (cvE E x).to := by rw [q] at h; unfold inC at h; have := of_decide_eq_true h; omega
      simp [q, this]
      rfl
    · have : covR E (r : Int) x = false := by simpa using q
      simp [this]
  rw [e, List.getLast?_map]
  cases (L.filter fun x => decide (x.nm = nm) && covR E (r : Int) x).getLast? with
  | none => rfl
  | some x => rfl
theorem hE_out {E : List Elt} (ok : SeqOk E) (L : List MkV) (nm : ByteArray) {j : Int} (h : j < 0 ∨ ((visE E true).length : Int) ≤ j) : hE E L nm j = none := by
  unfold hE
  rw [lastI_filter, List.filter_eq_nil_iff.2]
  · rfl
  · intro c hc
    have h1 := (List.mem_filter.1 (List.mem_filter.1 hc).1).1
    obtain ⟨x, _, rfl⟩ := List.mem_map.1 h1
    have b := cv_bd ok x
    unfold inC
    simp only [decide_eq_true_eq]
    omega
def runsN (C : List SpV) (nm : ByteArray) (K : List Int) : Nat → List SpV
  | 0 => []
  | a + 1 => rnext C nm (K.getD a 0) (K.getD (a + 1) 0) (hI C 0 (K.getD a 0)) (runsN C nm K a)
def runsL (C : List SpV) (nm : ByteArray) (K : List Int) : List SpV := runsN C nm K (K.length - 1)
theorem getD_get {K : List Int} {a : Nat} (h : a < K.length) : K[a]? = some (K.getD a 0) := by
  rw [List.getD_eq_getElem?_getD, List.getElem?_eq_getElem h]; rfl
theorem runsN_to {C : List SpV} {K : List Int} (k : CutsOf C K) (nm : ByteArray) : ∀ a, a < K.length → RunsTo (valC C) nm (K.getD a 0) (runsN C nm K a)
  | 0, h => k.runs0 nm (getD_get h)
  | a + 1, h => k.next (getD_get (by omega)) (getD_get h) (runsN_to k nm a (by omega))
theorem rstep_len (l : List SpV) (p : SpV) : (rstep l p).length ≤ l.length + 1 := by
  unfold rstep
  cases l.getLast? with
  | none => simp
  | some q =>
    simp only
    split
    · simp
    · simp
theorem runsN_len (C : List SpV) (nm : ByteArray) (K : List Int) : ∀ a, (runsN C nm K a).length ≤ a
  | 0 => Nat.le_refl _
  | a + 1 => by
    have ih := runsN_len C nm K a
    unfold runsN rnext
    split
    · have := rstep_len (runsN C nm K a) (⟨K.getD a 0, K.getD (a + 1) 0, nm, ‹VaV›⟩)
      omega
    · omega
theorem runs_mem {h : ByteArray → Int → Option VaV} {nm : ByteArray} {C : List SpV} (hC : C ≠ []) (hlt : ∀ c ∈ C, c.fr < c.to) (e : ∀ j, h nm j = valC C j) : (∀ p, p ∈ runsL C nm (cutsL C) ↔ Run h p ∧ p.nm = nm) ∧ (runsL C nm (cutsL C)).Nodup := by
  obtain ⟨c, hc⟩ := List.exists_mem_of_ne_nil C hC
  have k := cuts_of C
  have h2 := cuts_two hc (hlt c hc)
  have r := runsN_to k nm ((cutsL C).length - 1) (by omega)
  have r' : RunsTo (h nm) nm ((cutsL C).getD ((cutsL C).length - 1) 0) (runsL C nm (cutsL C)) := by
    rw [show h nm = valC C from funext e]; exact r
  refine ⟨fun p => r'.mem (fun j hj => ?_) p, r.nodup⟩
  rw [e]
  exact k.last (m := (cutsL C).length - 1) (by omega) (getD_get (by omega)) hj
theorem run_name {E : List Elt} {L : List MkV} {p : SpV} (h : Run (hE E L) p) : cvN E L p.nm ≠ [] := fun q => by
  have := h.2.1 p.fr (Int.le_refl _) h.1
  unfold hE at this
  rw [q] at this
  simp [valC, lastI, valI] at this
theorem cvN_lt {E : List Elt} {L : List MkV} {nm : ByteArray} : ∀ c ∈ cvN E L nm, c.fr < c.to := fun c hc => by
  have := (List.mem_filter.1 (List.mem_filter.1 hc).1).2
  exact of_decide_eq_true this
theorem cvN_nm {E : List Elt} {L : List MkV} {nm : ByteArray} : ∀ c ∈ cvN E L nm, c.nm = nm := fun c hc => of_decide_eq_true (List.mem_filter.1 hc).2
theorem all_runs {E : List Elt} {L : List MkV} {ns : List ByteArray} (nd : ns.Nodup) (hn : ∀ nm, nm ∈ ns ↔ cvN E L nm ≠ []) :
    (∀ p, p ∈ (ns.flatMap fun nm => runsL (cvN E L nm) nm (cutsL (cvN E L nm))) ↔ Run (hE E L) p) ∧ (ns.flatMap fun nm => runsL (cvN E L nm) nm (cutsL (cvN E L nm))).Nodup := by
  have one : ∀ nm ∈ ns, (∀ p, p ∈ runsL (cvN E L nm) nm (cutsL (cvN E L nm)) ↔ Run (hE E L) p ∧ p.nm = nm) ∧ (runsL (cvN E L nm) nm (cutsL (cvN E L nm))).Nodup := fun nm h => runs_mem ((hn nm).1 h) cvN_lt (fun j => rfl)
  refine ⟨fun p => ?_, ?_⟩
  · rw [List.mem_flatMap]
    constructor
    · rintro ⟨nm, h1, h2⟩
      exact (((one nm h1).1 p).1 h2).1
    · intro h
      have h1 := (hn p.nm).2 (run_name h)
      exact ⟨p.nm, h1, ((one p.nm h1).1 p).2 ⟨h, rfl⟩⟩
  · clear hn
    induction ns with
    | nil => simp
    | cons nm ns ih =>
      have n2 := List.nodup_cons.1 nd
      rw [List.flatMap_cons, List.nodup_append]
      refine ⟨(one nm (by simp)).2, ih n2.2 (fun x hx => one x (by simp [hx])), fun p hp q hq e => ?_⟩
      subst e
      obtain ⟨m, hm, hq⟩ := List.mem_flatMap.1 hq
      have e1 := (((one nm (by simp)).1 p).1 hp).2
      have e2 := (((one m (by simp [hm])).1 p).1 hq).2
      exact n2.1 (by rw [← e1, e2]; exact hm)
theorem spans_all {E : List Elt} {L : List MkV} {ns : List ByteArray} (nd : ns.Nodup) (hn : ∀ nm, nm ∈ ns ↔ cvN E L nm ≠ []) {S : List SpV} (hp : S.Perm (ns.flatMap fun nm => runsL (cvN E L nm) nm (cutsL (cvN E L nm)))) (hs : S.Pairwise (fun p q => cSp p q ≤ 0)) : SpansIs (hE E L) S := by
  obtain ⟨h1, h2⟩ := all_runs nd hn
  exact spans_of hs (hp.nodup_iff.2 h2) (fun p => hp.mem_iff.trans (h1 p))
theorem runs_few (C : List SpV) (nm : ByteArray) : (runsL C nm (cutsL C)).length ≤ 2 * C.length := by
  have h1 := runsN_len C nm (cutsL C) ((cutsL C).length - 1)
  have h2 := cuts_len C
  unfold runsL
  omega
theorem parts_no (X : List SpV) (c : SpV) : ∀ {ns : List ByteArray}, c.nm ∉ ns → (ns.map fun nm => ((c :: X).filter fun c => decide (c.nm = nm)).length).sum = (ns.map fun nm => (X.filter fun c => decide (c.nm = nm)).length).sum
  | [], _ => rfl
  | a :: ns, h => by
    have ih := parts_no X c (ns := ns) (fun q => h (by simp [q]))
    have q : ¬ c.nm = a := fun q => h (by simp [q])
    rw [List.map_cons, List.map_cons, List.sum_cons, List.sum_cons, ih, List.filter_cons, if_neg (by simpa using q)]
theorem parts_one (X : List SpV) (c : SpV) : ∀ {ns : List ByteArray}, ns.Nodup → (ns.map fun nm => ((c :: X).filter fun c => decide (c.nm = nm)).length).sum ≤ (ns.map fun nm => (X.filter fun c => decide (c.nm = nm)).length).sum + 1
  | [], _ => by simp
  | a :: ns, nd => by
    have n2 := List.nodup_cons.1 nd
    rw [List.map_cons, List.map_cons, List.sum_cons, List.sum_cons]
    by_cases q : c.nm = a
    · subst q
      rw [parts_no X c n2.1, List.filter_cons, if_pos (by simp), List.length_cons]
      omega
    · have ih := parts_one X c n2.2
      rw [List.filter_cons, if_neg (by simpa using q)]
      omega
theorem parts_nil : ∀ (ns : List ByteArray), (ns.map fun nm => (([] : List SpV).filter fun c => decide (c.nm = nm)).length).sum = 0
  | [] => rfl
  | a :: ns => by rw [List.map_cons, List.sum_cons, parts_nil ns]; rfl
theorem parts_len : ∀ (X : List SpV) {ns : List ByteArray}, ns.Nodup → (ns.map fun nm => (X.filter fun c => decide (c.nm = nm)).length).sum ≤ X.length
  | [], ns, _ => by rw [parts_nil]; exact Nat.le_refl _
  | c :: X, ns, nd => by
    have h1 := parts_one X c nd
    have h2 := parts_len X nd
    rw [List.length_cons]
    omega
theorem flat_few {E : List Elt} {L : List MkV} {ns : List ByteArray} (nd : ns.Nodup) : (ns.flatMap fun nm => runsL (cvN E L nm) nm (cutsL (cvN E L nm))).length ≤ 2 * L.length := by
  have h1 := parts_len (cvL E L) nd
  have h2 : (cvL E L).length ≤ L.length := by
    unfold cvL
    have := List.length_filter_le (fun c : SpV => decide (c.fr < c.to)) (L.map (cvE E))
    simpa using this
  have h3 : ∀ ns : List ByteArray, (ns.flatMap fun nm => runsL (cvN E L nm) nm (cutsL (cvN E L nm))).length ≤ 2 * (ns.map fun nm => ((cvL E L).filter fun c => decide (c.nm = nm)).length).sum := fun ns => by
    induction ns with
    | nil => simp
    | cons a ns ih =>
      rw [List.flatMap_cons, List.length_append, List.map_cons, List.sum_cons]
      have := runs_few (cvN E L a) a
      have e : (cvN E L a).length = ((cvL E L).filter fun c => decide (c.nm = a)).length := rfl
      omega
  have := h3 ns
  omega
end Go.Proofs.YtifendlpeebofaaGreatDoor
namespace Go.Proofs.YtifendlpeebofaaGreatDoor
open Go.Shelf
def sortLays_ren : Go.Shelf.Ren := ⟨fun | 6 => 82 | 15 => 105 | 14 => 104 | 28 => 137 | 29 => 138 | 20 => 129 | 21 => 130 | 22 => 131 | 23 => 132 | 24 => 133 | 25 => 134 | 26 => 135 | 27 => 136 | 46 => 153 | 47 => 154 | 48 => 155 | 49 => 156 | 50 => 157 | 57 => 173 | n => n, fun | 22 => 49 | 24 => 65 | 25 => 146 | 3 => 3 | 39 => 156 | 0 => 0 | 53 => 191 | 55 => 123 | 4 => 4 | 46 => 185 | 45 => 184 | 50 => 161 | 5 => 5 | 9 => 9 | 66 => 205 | 70 => 209 | 76 => 222 | 77 => 140 | n => n, fun | n => n⟩
theorem sortLays : Go.Proofs.SlLaysF0.n6 Tryz.prog sortLays_ren := {
  mixed := by kernel_rfl
  f6 := ⟨Tryz.f82.name, by decide, Tryz.func82.trans (congrArg some (by kernel_rfl))⟩
  f14 := ⟨Tryz.f104.name, by decide, Tryz.func104.trans (congrArg some (by kernel_rfl))⟩
  f15 := Tryz.func105.trans (congrArg some (by kernel_rfl))
  f20 := ⟨Tryz.f129.name, by decide, Tryz.func129.trans (congrArg some (by kernel_rfl))⟩
  f21 := ⟨Tryz.f130.name, by decide, Tryz.func130.trans (congrArg some (by kernel_rfl))⟩
  f22 := ⟨Tryz.f131.name, by decide, Tryz.func131.trans (congrArg some (by kernel_rfl))⟩
  f23 := ⟨Tryz.f132.name, by decide, Tryz.func132.trans (congrArg some (by kernel_rfl))⟩
  f24 := ⟨Tryz.f133.name, by decide, Tryz.func133.trans (congrArg some (by kernel_rfl))⟩
  f25 := ⟨Tryz.f134.name, by decide, Tryz.func134.trans (congrArg some (by kernel_rfl))⟩
  f26 := ⟨Tryz.f135.name, by decide, Tryz.func135.trans (congrArg some (by kernel_rfl))⟩
  f27 := ⟨Tryz.f136.name, by decide, Tryz.func136.trans (congrArg some (by kernel_rfl))⟩
  f28 := Tryz.func137.trans (congrArg some (by kernel_rfl))
  f29 := Tryz.func138.trans (congrArg some (by kernel_rfl))
  f46 := ⟨Tryz.f153.name, by decide, Tryz.func153.trans (congrArg some (by kernel_rfl))⟩
  f47 := Tryz.func154.trans (congrArg some (by kernel_rfl))
  f48 := Tryz.func155.trans (congrArg some (by kernel_rfl))
  f49 := ⟨Tryz.f156.name, by decide, Tryz.func156.trans (congrArg some (by kernel_rfl))⟩
  f50 := ⟨Tryz.f157.name, by decide, Tryz.func157.trans (congrArg some (by kernel_rfl))⟩
  f57 := ⟨Tryz.f173.name, by decide, Tryz.func173.trans (congrArg some (by kernel_rfl))⟩
  t0 := Tryz.underlying0
  a0 := Tryz.isAgg0
  z0 := Tryz.sizeOf0
  v0 := Tryz.zeroValue0
  t3 := Tryz.underlying3
  a3 := Tryz.isAgg3
  z3 := Tryz.sizeOf3
  v3 := Tryz.zeroValue3
  t4 := Tryz.underlying4
  a4 := Tryz.isAgg4
  z4 := Tryz.sizeOf4
  v4 := Tryz.zeroValue4
  t5 := Tryz.underlying5
  a5 := Tryz.isAgg5
  z5 := Tryz.sizeOf5
  v5 := Tryz.zeroValue5
  t9 := Tryz.underlying9
  a9 := Tryz.isAgg9
  z9 := Tryz.sizeOf9
  v9 := Tryz.zeroValue9
  t22 := Tryz.underlying49
  a22 := Tryz.isAgg49
  z22 := Tryz.sizeOf49
  v22 := Tryz.zeroValue49
  t25 := Tryz.underlying146
  a25 := Tryz.isAgg146
  z25 := Tryz.sizeOf146
  v25 := Tryz.zeroValue146
  t39 := Tryz.underlying156
  a39 := Tryz.isAgg156
  z39 := Tryz.sizeOf156
  v39 := Tryz.zeroValue156
  t45 := Tryz.underlying184
  a45 := Tryz.isAgg184
  z45 := Tryz.sizeOf184
  v45 := Tryz.zeroValue184
  t46 := Tryz.underlying185
  a46 := Tryz.isAgg185
  z46 := Tryz.sizeOf185
  v46 := Tryz.zeroValue185
  t50 := Tryz.underlying161
  a50 := Tryz.isAgg161
  z50 := Tryz.sizeOf161
  v50 := Tryz.zeroValue161
  t53 := Tryz.underlying191
  a53 := Tryz.isAgg191
  z53 := Tryz.sizeOf191
  v53 := Tryz.zeroValue191
  t55 := Tryz.underlying123
  a55 := Tryz.isAgg123
  z55 := Tryz.sizeOf123
  v55 := Tryz.zeroValue123
  t66 := Tryz.underlying205
  a66 := Tryz.isAgg205
  z66 := Tryz.sizeOf205
  v66 := Tryz.zeroValue205
  t70 := Tryz.underlying209
  a70 := Tryz.isAgg209
  z70 := Tryz.sizeOf209
  v70 := Tryz.zeroValue209
  t76 := Tryz.underlying222
  a76 := Tryz.isAgg222
  z76 := Tryz.sizeOf222
  v76 := Tryz.zeroValue222
  t77 := Tryz.underlying140
  a77 := Tryz.isAgg140
  z77 := Tryz.sizeOf140
  v77 := Tryz.zeroValue140 }
end Go.Proofs.YtifendlpeebofaaGreatDoor
namespace Go.Proofs.YtifendlpeebofaaGreatDoor
open Go.RowKit Go.Shelf
theorem TO.refl {α : Type} {c : α → α → Int} (h : TO c) (a : α) : c a a = 0 := by have := h.anti a a; omega
theorem TO.swo {α : Type} {c : α → α → Int} (h : TO c) : Go.Sort.SWO (ltOf c) := {
  irrefl := fun x => by unfold ltOf; rw [h.refl]; rfl
  trans := fun x y z h1 h2 => by
    unfold ltOf at *
    rw [decide_eq_true_eq] at *
    exact h.lt x y z (by omega) (by omega) (Or.inl h1)
  ntrans := fun x y z h1 h2 => by
    unfold ltOf at *
    rw [decide_eq_false_iff_not] at *
    have e1 := h.anti x y
    have e2 := h.anti y z
    have e3 := h.anti x z
    have := h.le z y x (by omega) (by omega)
    omega }
theorem grow_of {w w' : World} (h : Go.RowKit.Below w.heap.size w w') (hd : w.drawn ≤ w'.drawn) : ∃ q os, w' = Go.Sort.grow (w.drewN q) os := by
  refine ⟨w'.drawn - w.drawn, w'.heap.extract w.heap.size w'.heap.size, ?_⟩
  have e1 : w.heap ++ w'.heap.extract w.heap.size w'.heap.size = w'.heap := by
    apply Array.ext_getElem?
    intro i
    rw [Array.getElem?_append]
    split
    · next hi => exact (h.block i hi).symm
    · next hi =>
      rw [Array.getElem?_extract]
      split
      · rw [show w.heap.size + (i - w.heap.size) = i by omega]
      · next hj => rw [Array.getElem?_eq_none (by omega)]
  have e2 : w.drawn + (w'.drawn - w.drawn) = w'.drawn := by omega
  have h1 := h.os
  have h2 := h.tape
  have h3 := h.output
  cases w' with
  | mk hp tp dr oo ou =>
    simp only at *
    unfold Go.Sort.grow World.drewN
    simp only [e1, e2, h1, h2, h3]
theorem flatR_get {L : List SpV} (ok : ∀ x ∈ L, x.ok) {i : Nat} {h : SpV} (hi : L[i]? = some h) {j : Nat} {v : Value} (hj : h.c[j]? = some v) : (RSp.flat L)[7 * i + j]? = some v := RowT.flat_get RSp_is ok hi hj
theorem flatR_len {L : List SpV} (ok : ∀ x ∈ L, x.ok) : (RSp.flat L).length = 7 * L.length := RowT.flat_len RSp_is ok
section
variable [Inhabited SpV]
theorem cmpLaysS (blk off size : Nat) (w : World) : CmpLays Tryz.prog 83 #[] SpV.c 7 cSp blk off size w :=
  fun m os dk hdk x y => (cmpSp_any x y _).mono fun e w' ⟨he, hb, hd⟩ => ⟨he, grow_of hb hd⟩
theorem holdsR_own {w : World} {g : Nat} {cur : Array Value} {L : List SpV} (ok : ∀ x ∈ L, x.ok) (hg : w.heap[g]? = some (.cells cur 65 (0, 0))) (ht : cur.toList.take (L.length * 7) = RSp.flat L) : Go.Sort.HoldsK SpV.c 7 w g 0 L.toArray := fun j hj => by
  rw [Go.Sort.size_flatK] at hj
  simp only [List.size_toArray] at hj
  have hi : j / 7 < L.length := by omega
  have hx : L[j / 7]? = some L[j / 7] := List.getElem?_eq_getElem hi
  have hlen := SpV.len L[j / 7]
  have hc : (SpV.c L[j / 7])[j % 7]? = some ((SpV.c L[j / 7])[j % 7]'(by omega)) := List.getElem?_eq_getElem _
  have hf := flatR_get ok hx hc
  rw [show 7 * (j / 7) + j % 7 = j by omega, ← ht, List.getElem?_take, if_pos (by omega)] at hf
  rw [Go.Sort.get_flatK _ _ _ _ (by simpa using hj)]
  have e : L.toArray[j / 7]! = L[j / 7] := by simp [hi]
  rw [Nat.zero_add]
  refine ⟨?_, ?_⟩
  · rw [cell_of_row w g j cur 65 (0, 0) hg, e]
    rw [getElem!_pos (SpV.c L[j / 7]) (j % 7) (by omega)]
    simpa using hf
  · simp [World.frozen?, hg]
theorem own_holdsR {w : World} {g : Nat} {cur : Array Value} {L : List SpV} (ok : ∀ x ∈ L, x.ok) (hg : w.heap[g]? = some (.cells cur 65 (0, 0))) (hn : L.length * 7 ≤ cur.size) (h : Go.Sort.HoldsK SpV.c 7 w g 0 L.toArray) : cur.toList.take (L.length * 7) = RSp.flat L := by
  have hfl := flatR_len ok
  apply List.ext_getElem?
  intro p
  rw [List.getElem?_take]
  split
  · next hp =>
    have hi : p / 7 < L.length := by omega
    have hx : L[p / 7]? = some L[p / 7] := List.getElem?_eq_getElem hi
    have hlen := SpV.len L[p / 7]
    have hc : (SpV.c L[p / 7])[p % 7]? = some ((SpV.c L[p / 7])[p % 7]'(by omega)) := List.getElem?_eq_getElem _
    have hf := flatR_get ok hx hc
    rw [show 7 * (p / 7) + p % 7 = p by omega] at hf
    rw [hf]
    have h1 := (h p (by rw [Go.Sort.size_flatK]; simpa using hp)).1
    rw [Go.Sort.get_flatK _ _ _ _ (by simpa using hp), Nat.zero_add, cell_of_row w g p cur 65 (0, 0) hg] at h1
    have e : L.toArray[p / 7]! = L[p / 7] := by simp [hi]
    rw [e, getElem!_pos (SpV.c L[p / 7]) (p % 7) (by omega)] at h1
    simpa using h1
  · next hp => rw [List.getElem?_eq_none (by omega)]
theorem sortWS_block {w : World} {g n : Nat} {os : Array Obj} (d : Array SpV) {cur : Array Value} (hg : w.heap[g]? = some (.cells cur 65 (0, 0))) : ∃ cur', (sortWorldK SpV.c 7 w g 0 n d os).heap[g]? = some (.cells cur' 65 (0, 0)) ∧ cur'.size = cur.size := by
  have hlt := (Array.getElem?_eq_some_iff.1 hg).1
  have hv := (Array.getElem?_eq_some_iff.1 hg).2
  refine ⟨Go.Sort.putCells id 0 (Go.Sort.flatK SpV.c 7 d) cur, ?_, ?_⟩
  · simp only [sortWorldK, Go.Sort.grow, Go.Sort.putRowK, Go.Sort.putRow, Go.Sort.mapBlock, Go.Sort.ahead]
    rw [Array.getElem?_append_left (by simpa using hlt), Array.getElem?_modify, if_pos rfl, hg]
    rfl
  · simp [Go.Sort.putCells]
theorem sortWS_tch {w : World} {g n : Nat} {os : Array Obj} (d : Array SpV) (hg : g < w.heap.size) : Tch (fun j => some g = some j) w (sortWorldK SpV.c 7 w g 0 n d os) := by
  refine ⟨rfl, rfl, rfl, by simp [sortWorldK, Go.Sort.grow, Go.Sort.putRowK, Go.Sort.putRow, Go.Sort.mapBlock, Go.Sort.ahead], fun k hk hn => ?_⟩
  have hne : g ≠ k := fun e => hn (by rw [e])
  simp [sortWorldK, Go.Sort.grow, Go.Sort.putRowK, Go.Sort.putRow, Go.Sort.mapBlock, Go.Sort.ahead, Array.getElem?_append, Array.getElem?_modify, Array.getElem_modify, hk, hne]
theorem sortS_inh (W : World) (base : Nat) (v : Value) (L : List SpV) (own : RSp.Lo W base v L) (ok : ∀ x ∈ L, x.ok) (hL : L.length ≤ 2000000000000) : Calls Tryz.prog 82 #[v, .func (.func 83) #[] #[]] W (SrtS W base v L) := by
  rcases own with ⟨rfl, rfl⟩ | ⟨g, cap, cur, rfl, hbg, hg, hnc, hcm, hcs, htake⟩
  · have h := AnyF.slices_SortFunc_none sortLays none 0 (.func (.func 83) #[] #[]) W
    refine h.mono ?_
    rintro e w' ⟨he, rfl⟩
    exact ⟨he, [], List.Perm.refl _, List.Pairwise.nil, .inl ⟨rfl, rfl⟩, Tch.refl _ _⟩
  · have eg : ∀ args w, (callFunc 83 args).run Tryz.prog w = .ok (.enter 83 args) w := enters_of Tryz.func83 (by kernel_rfl) rfl
    have hlt := (Array.getElem?_eq_some_iff.1 hg).1
    have hH := holdsR_own ok hg htake
    have h := AnyQ.slices_SortFunc sortLays 7 Tryz.isAgg65 Tryz.sizeOf65 SpV.c SpV.len SpV.one cSp to_cSp.swo 83 #[] g 0 cap L.toArray W eg (cmpLaysS g 0 _ W) hH hlt (by simp; omega)
    change Calls Tryz.prog 82 _ _ _ at h
    simp only [List.size_toArray] at h
    refine h.mono ?_
    rintro e w' ⟨he, d', n, os, hp, hsrt, rfl⟩
    have hsz : d'.size = L.length := by simpa using hp.1
    have hperm : d'.toList.Perm L := by
      have := hp.2.2
      rw [← hsz, Array.extract_size] at this
      have e2 : L.toArray.extract 0 d'.size = L.toArray := by rw [hsz]; simp
      rw [e2] at this
      simpa using this
    have ok' : ∀ x ∈ d'.toList, x.ok := fun x hx => ok x (hperm.mem_iff.1 hx)
    have hh := holdsK_sortWorldK SpV.c 7 W g 0 n L.toArray d' os hlt hH (by simpa using hsz)
    obtain ⟨cur', hg', hs'⟩ := sortWS_block (n := n) (os := os) d' hg
    have hlen : d'.toList.length = L.length := by simpa using hsz
    refine ⟨he, d'.toList, hperm, ?_, Or.inr ⟨g, cap, cur', by rw [hlen], hbg, hg', by rw [hlen]; exact hnc, hcm, by rw [hs']; exact hcs, ?_⟩, sortWS_tch d' hlt⟩
    · unfold SdS
      rw [List.pairwise_iff_getElem]
      intro i j hi hj hij
      have hlt := hsrt i j (by omega) hij (by rw [← hsz]; simpa using hj)
      rw [getElem!_pos d' i (by simpa using hi), getElem!_pos d' j (by simpa using hj)] at hlt
      unfold ltOf at hlt
      rw [decide_eq_false_iff_not] at hlt
      have := to_cSp.anti d'[i] d'[j]
      simp only [Array.getElem_toList]
      omega
    · exact own_holdsR ok' hg' (by rw [hlen, hs']; exact Nat.le_trans (Nat.mul_le_mul_right _ hnc) hcs) (by simpa using hh)
end
theorem sortF_any (W : World) (base : Nat) (v : Value) (L : List SpV) (own : RSp.Lo W base v L) (ok : ∀ x ∈ L, x.ok) (hL : L.length ≤ 2000000000000) : Calls Tryz.prog 82 #[v, .func (.func 83) #[] #[]] W (SrtS W base v L) := @sortS_inh ⟨zSp7⟩ W base v L own ok hL
theorem sortSp_any (W : World) (base : Nat) (v : Value) (L : List SpV) (own : RSp.Lo W base v L) (ok : ∀ x ∈ L, x.ok) (hL : L.length ≤ 2000000000000) : Calls Tryz.prog 57 #[v] W (SrtS W base v L) := by
  have H := hidMk (sortF_any W base v L own ok hL)
  clear own ok hL
  go_enter Tryz.func57, Tryz.ntmps57
  go_wp2_with (go_at_call 82; refine H.out.mono ?_; rintro e w' ⟨rfl, q⟩)
  go_end0
  exact ⟨rfl, q⟩
end Go.Proofs.YtifendlpeebofaaGreatDoor
namespace Go.Proofs.YtifendlpeebofaaGreatDoor
open Go.RowKit Sq
def spL (f t : Int) (C : List MkV) : List SpV := (C.filter fun x => decide (x.v.k ≠ 0)).map fun x => ⟨f, t, x.nm, x.v⟩
def ovL (E : List Elt) (L : List MkV) (k : IdK) : List SpV := spL (idxE E (aheadE E false k)) (idxE E (aheadE E false k + 1)) (covL E L (aheadE E false k))
theorem spL_snoc (f t : Int) {C : List MkV} {i : Nat} {x : MkV} (hx : C[i]? = some x) : spL f t (C.take (i + 1)) = spL f t (C.take i) ++ (if decide (x.v.k ≠ 0) = true then [⟨f, t, x.nm, x.v⟩] else []) := by
  unfold spL
  rw [List.take_add_one, hx, List.filter_append, List.map_append]
  congr 1
  by_cases e : decide (x.v.k ≠ 0) = true
  · have e' : ¬ x.v.k = 0 := of_decide_eq_true e
    rw [if_pos e]; simp [List.filter_cons, e']
  · have e' : x.v.k = 0 := Decidable.byContradiction fun q => e (decide_eq_true q)
    rw [if_neg e]; simp [List.filter_cons, e']
theorem spL_ok {f t : Int} {C : List MkV} (hf : -9223372036854775808 ≤ f ∧ f ≤ 9223372036854775807) (ht : -9223372036854775808 ≤ t ∧ t ≤ 9223372036854775807) (ok : ∀ x ∈ C, x.ok) : ∀ y ∈ spL f t C, y.ok := fun y hy => by
  obtain ⟨x, hx, rfl⟩ := List.mem_map.1 hy
  have := ok x (List.mem_filter.1 hx).1
  exact ⟨hf.1, hf.2, ht.1, ht.2, this.nm, this.v⟩
theorem spL_len (f t : Int) (C : List MkV) : (spL f t C).length ≤ C.length := by
  unfold spL
  rw [List.length_map]
  exact List.length_filter_le _ _
theorem idx_bd (E : List Elt) (r : Int) : -1 ≤ idxE E r ∧ idxE E r ≤ (E.length : Int) := by
  unfold idxE
  split
  · exact ahead_bd _ _ _
  · have := List.length_filter_le (cE true) E
    unfold visE
    omega
theorem covL_len (E : List Elt) (L : List MkV) (r : Int) : (covL E L r).length ≤ L.length := by
  have := covP_len (E := E) (r := r) L.reverse []
  simpa [covL] using this
structure VB where
  v : Value
abbrev SortOk : Prop := ∀ (W : World) (base : Nat) (v : Value) (L : List SpV), RSp.Lo W base v L → (∀ x ∈ L, x.ok) → L.length ≤ 2000000000000 → Calls Tryz.prog 57 #[v] W (SrtS W base v L)
section
variable {w : World} {s : Sx} {E : List Elt} {base : Nat} {m : Mx}
def OvP (w : World) (E : List Elt) (m : Mx) (k : IdK) (e : Ending) (w' : World) : Prop := ∃ v S, e = .returned v ∧ RSp.Lo w' w.heap.size v S ∧ (if hasE E k = true then S.Perm (ovL E m.L k) ∧ SdS S else S = []) ∧ Below w.heap.size w w'
set_option maxHeartbeats 8000000 in
theorem over_of (HS : SortOk) (h : SeqAt w s E) (hm : MkAt w base m) {k : IdK} (hk : k.ok) : Calls Tryz.prog 23 #[.pointer (some ⟨m.mb, 0, none⟩), .pointer (some ⟨s.sb, 0, none⟩), k.v] w (OvP w E m k) := by
  have b0 : Below w.heap.size w (w.alloc (.cells k.c.toArray 36)) := (Below.refl _ _).alloc (Nat.le_refl _) _
  have i0 : IdAt (w.alloc (.cells k.c.toArray 36)) w.heap.size k := heap_alloc_new _ _
  obtain ⟨W, hW⟩ : ∃ W, w.alloc (.cells k.c.toArray 36) = W := ⟨_, rfl⟩
  rw [hW] at b0 i0
  have hfew := h.few
  have HH := hidMk (fun (X : World) (b : Below w.heap.size w X) => h.below b)
  have HM := hidMk (fun (X : World) (b : Below w.heap.size w X) => hm.below b)
  have HW := hidMk hW
  have HN := hidMk hm.n
  have OK := hidMk hm.ok
  have BD := hidMk (ahead_bd E false k)
  clear hW h hm
  unfold IdK.v
  go_enter Tryz.func23, Tryz.ntmps23
  go_upto_region 1 with fail
  rw [HW.out]
  clear HW
  obtain ⟨q, hq⟩ : ∃ q, hasE E k = q := ⟨_, rfl⟩
  refine ovr1 (mb := m.mb) (sb := s.sb) (ib := w.heap.size) (k := k) (q := q) (fun X => Below W.heap.size W X) _ W _ rfl rfl rfl rfl (fun X e => by rw [e]; exact load_id hk i0) ((has_any (HH.out W b0) hk).mono (fun e X ⟨h1, h2⟩ => ⟨by rw [h1, hq], h2⟩)) ?_
  intro a' W1 b1 ha
  subst ha
  simp only [Act.put, qsA, qsB, qsC]
  have b01 := b0.trans (b1.mono b0.size)
  cases q with
  | false =>
    have HB := hidMk b01
    have HQ := hidMk hq
    clear b01 b1 b0 i0 hq
    simp only [Bool.not_false]
    go_wp2
    go_ret
    exact ⟨_, [], rfl, RowT.lo_nil RSp _ _, by rw [HQ.out]; rfl, HB.out⟩
  | true =>
    simp only [Bool.not_true]
    have i1 : IdAt W1 w.heap.size k := i0.below b1
    have HQ := hidMk hq
    have HB1 := hidMk b01
    clear b01 b1 b0 i0 hq
    go_upto_region 3 with fail
    refine ovr3 (sb := s.sb) (ib := w.heap.size) (k := k) (rk := aheadE E false k) (fun X => Below W1.heap.size W1 X) _ W1 _ rfl rfl rfl (fun X e => by rw [e]; exact load_id hk i1) (rank_any (HH.out W1 HB1.out) hk) ?_
    intro a' W2 b2 ha
    subst ha
    simp only [Act.put, qsA, qsB, qsC]
    have HB2 := hidMk (HB1.out.trans (b2.mono HB1.out.size))
    clear b2 i1
    have hrk := BD.out
    have f2 : -9223372036854775808 ≤ aheadE E false k + 1 ∧ aheadE E false k + 1 ≤ 9223372036854775807 := by omega
    have FT := hidMk (And.intro (idx_bd E (aheadE E false k)) (idx_bd E (aheadE E false k + 1)))
    go_upto_region 4 with fail
    refine ovr4 (sb := s.sb) (rk := aheadE E false k) (f := idxE E (aheadE E false k)) (t := idxE E (aheadE E false k + 1)) (fun X => Below w.heap.size w X) _ W2 _ rfl rfl rfl f2 ((index_at_any (HH.out W2 HB2.out) (by omega)).mono ?_) ?_
    · rintro e X ⟨rfl, b3⟩
      have b3' := HB2.out.trans (b3.mono HB2.out.size)
      refine ⟨rfl, (index_at_any (HH.out X b3') f2).mono ?_⟩
      rintro e Y ⟨rfl, b4⟩
      exact ⟨rfl, b3'.trans (b4.mono b3'.size)⟩
    intro a' W3 b3 ha
    subst ha
    simp only [Act.put, qsA, qsB, qsC]
    have HB3 := hidMk b3
    clear b3 HB1 HB2 f2 hrk
    go_upto_region 6 with fail
    refine ovr6 (mb := m.mb) (sb := s.sb) (rk := aheadE E false k) (fun la n c X => n = (covL E m.L (aheadE E false k)).length ∧ RM.At X la (covL E m.L (aheadE E false k)) ∧ Below w.heap.size w X) _ W3 _ rfl rfl rfl rfl ((covering_any (HH.out W3 HB3.out) (HM.out W3 HB3.out) (aheadE E false k)).mono ?_) ?_
    · rintro e X ⟨v, rfl, lo, b4⟩
      have okc : ∀ y ∈ covL E m.L (aheadE E false k), y.ok := fun y hy => by
        rcases covP_mem hy with hy | hy
        · cases hy
        · exact (OK.out y (List.mem_reverse.1 hy)).1
      obtain ⟨la, c, rfl, hat, _⟩ := lo.open RM_is okc
      exact ⟨la, _, c, rfl, rfl, hat, HB3.out.trans (b4.mono HB3.out.size)⟩
    intro la n c a' W4 hf ha
    subst ha
    simp only [Act.put, qsA, qsB, qsC]
    obtain ⟨hn, hat, b4⟩ := hf
    have okc : ∀ y ∈ covL E m.L (aheadE E false k), y.ok := fun y hy => by
      rcases covP_mem hy with hy | hy
      · cases hy
      · exact (OK.out y (List.mem_reverse.1 hy)).1
    have lc := covL_len E m.L (aheadE E false k)
    have hn9 : n ≤ 900000000000 := by rw [hn]; have := HN.out; omega
    have HV : Hid (ovL E m.L k = spL (idxE E (aheadE E false k)) (idxE E (aheadE E false k + 1)) (covL E m.L (aheadE E false k))) := rfl
    have HF : Hid (-9223372036854775808 ≤ idxE E (aheadE E false k) ∧ idxE E (aheadE E false k) ≤ 9223372036854775807) := by have := FT.out; exact ⟨by omega, by omega⟩
    have HT : Hid (-9223372036854775808 ≤ idxE E (aheadE E false k + 1) ∧ idxE E (aheadE E false k + 1) ≤ 9223372036854775807) := by have := FT.out; exact ⟨by omega, by omega⟩
    have HC := hidMk okc
    have HA := hidMk hat
    have HB4 := hidMk b4
    have HL := hidMk hn
    clear hat b4 okc lc HB3 FT BD HN OK HM HH hn hfew
    generalize idxE E (aheadE E false k) = f at *
    generalize idxE E (aheadE E false k + 1) = t at *
    generalize covL E m.L (aheadE E false k) = C at *
    generalize aheadE E false k = rk at *
    go_wp2
    go_loopw [10, 36] (fun v10 v36 wr => ∃ (j : Nat) (u : VB), v36 = .int .i64 (j : Int) ∧ j ≤ n ∧ v10 = u.v ∧ Hid (RSp.Lo wr W4.heap.size u.v (spL f t (C.take j)) ∧ Below W4.heap.size W4 wr)) (fun _ v36 wr => n - (match v36 with | .int _ i => i.toNat | _ => 0))
    case atStart => exact ⟨0, ⟨_⟩, rfl, Nat.zero_le _, rfl, by rw [List.take_zero]; exact RowT.lo_nil RSp _ _, Below.refl _ _⟩
    case round =>
      obtain ⟨j, u, rfl, hjn, rfl, HI⟩ := hrel
      by_cases hj : j < n
      · have hjl : j < C.length := by rw [← HL.out]; exact hj
        have hx := List.getElem?_eq_getElem hjl
        obtain ⟨g, o, rfl, lg, hr⟩ := HA.out.get hjl
        have okx := HC.out _ (List.getElem_mem hjl)
        obtain ⟨lo, bel4⟩ := HI.out
        have hr2 := rangeAt_keep hr (bel4.block _ lg)
        have SN := hidMk (spL_snoc f t hx)
        generalize C[j] = x at *
        obtain ⟨bx, bb⟩ := RowT.bx_is RM wr x
        have ez := RowT.bx_zero RM_is wr
        have en := RowT.bx_new RM_is wr okx
        have ll := RowT.ld RM_is okx hr2
        obtain ⟨W5, hW5⟩ : ∃ W5, wr.alloc (.cells (RM.c x).toArray RM.e) = W5 := ⟨_, rfl⟩
        rw [hW5] at bx bb en
        go_upto_region 8 with fail
        refine ovr8 (g := g) (o := o) (n := n) (c := c) (i := j) (eb := wr.heap.size) (x := x) _ wr _ rfl rfl rfl hj (by omega) ll ez en ?_
        intro a' W6 hw ha
        obtain rfl : W5 = W6 := hw.symm
        subst ha
        simp only [Act.put, qsA, qsB, qsC]
        have bel45 := bel4.trans (bb.mono bel4.size)
        have lo5 := lo.below bb
        have ck := mk_kc okx bx.rng
        have lk : (Instr.loadAt 37 (.pointer (some ⟨wr.heap.size, 0 + 34 + 0, none⟩))).run Tryz.prog W5 = .ok (.int .u8 x.v.k) W5 := by
          rw [Nat.add_zero]
          go_simp
        obtain ⟨z, hz⟩ : ∃ z, decide (x.v.k ≠ 0) = z := ⟨_, rfl⟩
        go_upto_region 9 with fail
        refine ovr9 (eb := wr.heap.size) (x := x) (z := z) _ W5 _ rfl rfl hz lk ?_
        intro a' W6 hw ha
        obtain rfl : W5 = W6 := hw.symm
        subst ha
        simp only [Act.put, qsA, qsB, qsC]
        cases z with
        | false =>
          have NX : Hid (RSp.Lo W5 W4.heap.size u.v (spL f t (C.take (j + 1))) ∧ Below W4.heap.size W4 W5) := ⟨by rw [SN.out, hz, if_neg (by decide), List.append_nil]; exact lo5, bel45⟩
          clear lo5 bel45 ck lk hz SN en ez ll bx bb hW5 lo bel4 hr hr2 HI
          go_wp2
          rw [show ((j : Int) + 1) = ((j + 1 : Nat) : Int) by omega]
          refine ⟨⟨j + 1, u, rfl, hj, rfl, NX⟩, ?_⟩
          show n - ((j + 1 : Nat) : Int).toNat < n - (j : Int).toNat
          omega
        | true =>
          have okp : ∀ y ∈ spL f t (C.take j), y.ok := spL_ok HF.out HT.out (fun y hy => HC.out y (List.mem_of_mem_take hy))
          have lnp : (spL f t (C.take j)).length ≤ n := by
            have := spL_len f t (C.take j)
            have := HL.out
            rw [List.length_take] at *
            omega
          have okn : RSp.ok ⟨f, t, x.nm, x.v⟩ := (show SpV.ok _ from ⟨HF.out.1, HF.out.2, HT.out.1, HT.out.2, okx.nm, okx.v⟩)
          obtain ⟨sv, w1, v', w2, e1, e2, lo2, bl1, z1, gr, qo, _⟩ := RowT.lo_push RSp_is W5 W4.heap.size u.v (spL f t (C.take j)) okp ⟨f, t, x.nm, x.v⟩ lo5 okn (by unfold maxLen; omega) (by show _ * 72 ≤ _; omega) bel45.size
          have b41 : Below W4.heap.size W4 w1 := bel45.trans (bl1.mono bel45.size)
          have b42 : Below W4.heap.size W4 w2 := b41.grown gr b41.size (fun k hk => ((lo5.below bl1).cells hk).1)
          have NX : Hid (RSp.Lo w2 W4.heap.size v' (spL f t (C.take (j + 1))) ∧ Below W4.heap.size W4 w2) := ⟨by rw [SN.out, hz, if_pos rfl]; exact lo2, b42⟩
          have ln := mk_nm okx bx.rng
          have lv := mk_v okx bx.rng
          clear lo5 bel45 ck lk hz SN en ez ll bx bb hW5 lo bel4 hr hr2 HI b42 b41 lo2 bl1 gr qo okp okn lnp
          go_upto_region 10 with fail
          refine ovr10 (eb := wr.heap.size) (f := f) (t := t) (x := x) (u := u.v) (sv := sv) (u2 := v') (w1 := w1) (w2 := w2) _ W5 _ rfl rfl rfl rfl rfl ln lv e1 e2 ?_
          intro a' W6 hw ha
          obtain rfl : w2 = W6 := hw.symm
          subst ha
          simp only [Act.put, qsA, qsB, qsC]
          clear e1 e2 ln lv
          go_wp2
          rw [show ((j : Int) + 1) = ((j + 1 : Nat) : Int) by omega]
          refine ⟨⟨j + 1, ⟨v'⟩, rfl, hj, rfl, NX⟩, ?_⟩
          show n - ((j + 1 : Nat) : Int).toNat < n - (j : Int).toNat
          omega
      · obtain rfl : n = j := by omega
        obtain ⟨lo, bel4⟩ := HI.out
        rw [List.take_of_length_le (Nat.le_of_eq HL.out.symm)] at lo
        have bel := HB4.out.trans (bel4.mono HB4.out.size)
        replace lo := lo.mono HB4.out.size
        have SO := hidMk (HS wr w.heap.size u.v (spL f t C) lo (spL_ok HF.out HT.out HC.out) (by have := spL_len f t C; have := HL.out; omega))
        have LO := hidMk lo
        have BE := hidMk bel
        clear lo bel bel4 HI
        go_wp2_with (go_at_call 57; refine SO.out.mono ?_; rintro e W7 ⟨rfl, L', hp, hs, lo7, t7⟩)
        go_ret
        refine ⟨_, L', rfl, lo7, by rw [HQ.out, if_pos rfl, HV.out]; exact ⟨hp, hs⟩, ?_⟩
        have bel := BE.out
        exact ⟨t7.os.trans bel.os, t7.tape.trans bel.tape, t7.output.trans bel.output, Nat.le_trans bel.size t7.size, fun k hk => (t7.block k (by have := bel.size; omega) (fun e => by have := (LO.out.cells e).1; omega)).trans (bel.block k hk)⟩
end
theorem over_any {w : World} {s : Sx} {E : List Elt} {base : Nat} {m : Mx} (h : SeqAt w s E) (hm : MkAt w base m) {k : IdK} (hk : k.ok) : Calls Tryz.prog 23 #[.pointer (some ⟨m.mb, 0, none⟩), .pointer (some ⟨s.sb, 0, none⟩), k.v] w (OvP w E m k) :=
  over_of sortSp_any h hm hk
def Mx.bl (m : Mx) (j : Nat) : Prop := j = m.mb ∨ j = m.ib ∨ m.lv.ownBlock = some j
theorem Mx.lt {w : World} {base : Nat} {m : Mx} (h : MkAt w base m) {j : Nat} (hj : m.bl j) : j < w.heap.size := by
  rcases hj with rfl | rfl | hj
  · exact (Array.getElem?_eq_some_iff.1 h.cell).1
  · exact h.map.lt
  · exact h.lo.lt hj
theorem MkAt.keep {w w' : World} {base : Nat} {m : Mx} (h : MkAt w base m) (hk : ∀ j, m.bl j → w'.heap[j]? = w.heap[j]?) : MkAt w' base m :=
  ⟨(hk _ (.inl rfl)).trans h.cell, h.lo.keep (fun j hj => hk j (.inr (.inr hj))), h.ok, h.map.below (hk _ (.inr (.inl rfl))), h.n⟩
structure Gr (w : World) (sb mb : Nat) (E : List Elt) (L : List MkV) (W : World) : Prop where
  q : ∃ (s : Sx) (m : Mx), s.sb = sb ∧ m.mb = mb ∧ SeqAt W s E ∧ MkAt W w.heap.size m ∧ m.L = L ∧ (∀ j ∈ s.bl, w.heap.size ≤ j) ∧ (∀ j, m.bl j → w.heap.size ≤ j) ∧ (∀ j ∈ s.bl, ¬ m.bl j)
  bel : Below w.heap.size w W
section
variable {w W : World} {sb mb : Nat} {E : List Elt} {L : List MkV}
theorem Gr.below {W' : World} (h : Gr w sb mb E L W) (b : Below W.heap.size W W') : Gr w sb mb E L W' := by
  obtain ⟨⟨s, m, e1, e2, hs, hm, e3, c1, c2, d⟩, b'⟩ := h
  exact ⟨⟨s, m, e1, e2, hs.below b, hm.below b, e3, c1, c2, d⟩, b'.trans (b.mono b'.size)⟩
theorem Gr.ins (h : Gr w sb mb E L W) {k b : IdK} (hk : k.ok) (hb : b.ok) (hl : E.length + 2 ≤ 1400000000000) : Calls Tryz.prog 16 #[.pointer (some ⟨sb, 0, none⟩), k.v, b.v] W fun e w' => e = .returned (.int .i64 (insC E k b : Int)) ∧ Gr w sb mb (insR E k b) L w' := by
  obtain ⟨⟨s, m, rfl, rfl, hs, hm, rfl, c1, c2, d⟩, b'⟩ := h
  refine (insert_any hs hk hb hl).mono ?_
  rintro e w' ⟨rfl, s', nx⟩
  have bb : Below w.heap.size W w' := ⟨nx.tch.os, nx.tch.tape, nx.tch.output, nx.tch.size, fun j hj => nx.tch.block j (Nat.lt_of_lt_of_le hj b'.size) (fun q => by have := c1 j q; omega)⟩
  have inb : ∀ j ∈ s'.bl, j ∈ s.bl ∨ W.heap.size ≤ j := fun j hj => by
    simp only [Sx.bl, List.mem_cons, List.not_mem_nil, or_false, nx.sb, nx.mb] at hj ⊢
    rcases hj with q | q | q
    · exact .inl (.inl q)
    · exact .inl (.inr (.inl q))
    · rcases nx.own with e | e
      · exact .inl (.inr (.inr (q.trans e)))
      · exact .inr (by omega)
  refine ⟨rfl, ⟨s', m, nx.sb, rfl, nx.at', hm.keep (fun j hj => nx.tch.block j (Mx.lt hm hj) (fun q => d j q hj)), rfl, fun j hj => ?_, c2, fun j hj hq => ?_⟩, b'.trans bb⟩
  · rcases inb j hj with q | q
    · exact c1 j q
    · exact Nat.le_trans b'.size q
  · rcases inb j hj with q | q
    · exact d j q hq
    · have := Mx.lt hm hq; omega
theorem apart_id {base : Nat} {s : Sx} {m : Mx} (hs : SeqAt W s E) (hm : MkAt W base m) {b : Nat} {k : IdK} (hk : k.ok) (hb : IdAt W b k) : b ∉ s.bl ∧ ¬ m.bl b := by
  have h0 : ∃ u, W.cell? ⟨b, 0, none⟩ = some (.int .u8 u) := by
    rw [cell_of_row W b 0 _ _ _ hb]
    have l := hk.l
    cases e : k.h with
    | nil => rw [e] at l; cases l
    | cons u r => exact ⟨_, by simp [IdK.c, e, hcs]; rfl⟩
  refine ⟨fun h => ?_, fun h => ?_⟩
  · simp only [Sx.bl, List.mem_cons, List.not_mem_nil, or_false] at h
    rcases h with rfl | rfl | rfl
    · obtain ⟨u, hu⟩ := h0
      rw [hs.c0] at hu; cases hu
    · obtain ⟨⟨es, cc, hq, _⟩, _⟩ := hs.map
      rw [show W.heap[s.mb]? = _ from hb] at hq; cases hq
    · obtain ⟨cur, hg, _⟩ := hs.row.blk
      have := two_typesM hg hb
      revert this; decide
  · rcases h with rfl | rfl | h
    · have := two_typesM hm.cell hb
      revert this; decide
    · obtain ⟨⟨es, cc, hq, _⟩, _⟩ := hm.map
      rw [show W.heap[m.ib]? = _ from hb] at hq; cases hq
    · obtain ⟨_, c, hc⟩ := hm.lo.cells h
      have := two_typesM hc hb
      revert this; decide
theorem Gr.put {W' : World} (h : Gr w sb mb E L W) {b : Nat} {k : IdK} (hk : k.ok) (hb : IdAt W b k) (h0 : w.heap.size ≤ b) (t : Tch (fun j => j = b) W W') : Gr w sb mb E L W' := by
  obtain ⟨⟨s, m, e1, e2, hs, hm, e3, c1, c2, d⟩, b'⟩ := h
  obtain ⟨a1, a2⟩ := apart_id hs hm hk hb
  refine ⟨⟨s, m, e1, e2, hs.keep (fun j hj => t.block j (hs.lt j hj) (fun e => a1 (e ▸ hj))), hm.keep (fun j hj => t.block j (Mx.lt hm hj) (fun e => a2 (e ▸ hj))), e3, c1, c2, d⟩, b'.trans ?_⟩
  exact ⟨t.os, t.tape, t.output, t.size, fun j hj => t.block j (Nat.lt_of_lt_of_le hj b'.size) (fun e => by omega)⟩
theorem Gr.insI (h : Gr w sb mb E L W) {k b : IdK} (hk : k.ok) (hb : b.ok) (hl : E.length + 2 ≤ 1400000000000) {x y : Nat} {p q : IdK} (hp : p.ok) (hq : q.ok) (hx : IdAt W x p) (hy : IdAt W y q) : Calls Tryz.prog 16 #[.pointer (some ⟨sb, 0, none⟩), k.v, b.v] W fun e w' => e = .returned (.int .i64 (insC E k b : Int)) ∧ Gr w sb mb (insR E k b) L w' ∧ IdAt w' x p ∧ IdAt w' y q := by
  obtain ⟨⟨s, m, rfl, rfl, hs, hm, rfl, c1, c2, d⟩, b'⟩ := h
  have ax := (apart_id hs hm hp hx).1
  have ay := (apart_id hs hm hq hy).1
  have lx : x < W.heap.size := (Array.getElem?_eq_some_iff.1 hx).1
  have ly : y < W.heap.size := (Array.getElem?_eq_some_iff.1 hy).1
  refine (insert_any hs hk hb hl).mono ?_
  rintro e w' ⟨rfl, s', nx⟩
  have bb : Below w.heap.size W w' := ⟨nx.tch.os, nx.tch.tape, nx.tch.output, nx.tch.size, fun j hj => nx.tch.block j (Nat.lt_of_lt_of_le hj b'.size) (fun q => by have := c1 j q; omega)⟩
  have inb : ∀ j ∈ s'.bl, j ∈ s.bl ∨ W.heap.size ≤ j := fun j hj => by
    simp only [Sx.bl, List.mem_cons, List.not_mem_nil, or_false, nx.sb, nx.mb] at hj ⊢
    rcases hj with q | q | q
    · exact .inl (.inl q)
    · exact .inl (.inr (.inl q))
    · rcases nx.own with e | e
      · exact .inl (.inr (.inr (q.trans e)))
      · exact .inr (by omega)
  refine ⟨rfl, ⟨⟨s', m, nx.sb, rfl, nx.at', hm.keep (fun j hj => nx.tch.block j (Mx.lt hm hj) (fun q => d j q hj)), rfl, fun j hj => ?_, c2, fun j hj hq => ?_⟩, b'.trans bb⟩, (nx.tch.block x lx ax).trans hx, (nx.tch.block y ly ay).trans hy⟩
  · rcases inb j hj with q | q
    · exact c1 j q
    · exact Nat.le_trans b'.size q
  · rcases inb j hj with q | q
    · exact d j q hq
    · have := Mx.lt hm hq; omega
end
theorem mnew_any (w : World) : Calls Tryz.prog 10 #[] w fun e w' => ∃ m : Mx, e = .returned (.pointer (some ⟨m.mb, 0, none⟩)) ∧ MkAt w' w.heap.size m ∧ m.L = [] ∧ (∀ j, m.bl j → w.heap.size ≤ j) ∧ Below w.heap.size w w' := by
  have hm := M.MapAt.new w IdK.v IdK.ok
  have bm : Below w.heap.size w (w.alloc (.map #[] 0)) := (Below.refl _ _).alloc (Nat.le_refl _) _
  have zm : (w.alloc (.map #[] 0)).heap.size = w.heap.size + 1 := by simp
  go_enter Tryz.func10, Tryz.ntmps10
  have MK : Hid (∀ W : World, (Instr.makeMap 84 none).run Tryz.prog W = .ok (.map (some W.heap.size)) (W.alloc (.map #[] 0))) := fun W => by kernel_rfl
  go_wp2_with (first
    | (refine wpList_run rfl (exec_makeMap rfl (MK.out _)) ?_)
    | fail)
  go_ret
  generalize w.alloc (.map #[] 0) = wm at *
  have hq := heap_alloc_new wm (.cells #[.slice none 0 0, .map (some w.heap.size)] 87)
  have bq : Below wm.heap.size wm (wm.alloc (.cells #[.slice none 0 0, .map (some w.heap.size)] 87)) := (Below.refl _ _).alloc (Nat.le_refl _) _
  rw [zm] at hq bq
  refine ⟨⟨w.heap.size + 1, .slice none 0 0, w.heap.size, []⟩, rfl, ⟨hq, RowT.lo_nil RM _ _, (fun x hx => by cases hx), hm.below (bq.block _ (by show w.heap.size < _; omega)), by show (0 : Nat) ≤ 900000000000; omega⟩, rfl, ?_, bm.trans (bq.mono (by omega))⟩
  rintro j (rfl | rfl | hj)
  · show _ ≤ w.heap.size + 1; omega
  · exact Nat.le_refl _
  · cases hj
end Go.Proofs.YtifendlpeebofaaGreatDoor
namespace Go.Proofs.YtifendlpeebofaaGreatDoor.K
open Go.RowKit
namespace V
theorem right_nz {k n : Int} {f : Nat} {s : ByteArray} (h : rightV k n f s = true) : f ≠ 9223372036854775808 := by
  unfold rightV at h
  split at h
  · unfold rightF finB at h
    simp at h
    omega
  · have h0 : f = 0 := by
      split at h
      · unfold rightT at h
        simp at h
        omega
      · unfold rightB at h
        split at h
        · simp at h; omega
        · split at h
          · simp at h; omega
          · split at h
            · simp at h; omega
            · split at h
              · simp at h; omega
              · split at h
                · simp at h; omega
                · cases h
    omega
theorem fkey_inj {a b : Nat} (ha : a < 18446744073709551616) (hb : b < 18446744073709551616) (na : a ≠ 9223372036854775808) (nb : b ≠ 9223372036854775808) (h : fkey a = fkey b) : a = b := by
  unfold fkey at h
  rw [show (2 : Nat) ^ 63 = 9223372036854775808 from by decide] at h
  split at h <;> split at h <;> omega
end V
end Go.Proofs.YtifendlpeebofaaGreatDoor.K
namespace Go.Proofs.YtifendlpeebofaaGreatDoor
open Go.RowKit Sq
def VaV.cmp (a b : VaV) : Int := K.V.cmpV a.k a.n a.f a.s b.k b.n b.f b.s
theorem cmp_zero {a b : VaV} (oa : a.ok) (ob : b.ok) (ra : a.right = true) (rb : b.right = true) : a.cmp b = 0 ↔ a = b := by
  unfold VaV.cmp K.V.cmpV
  unfold VaV.right at ra rb
  rw [if_pos ⟨ra, rb⟩]
  constructor
  · intro h
    obtain ⟨h1, h2, h3, h4⟩ := K.V.or4_zero h
    have e3 := K.V.fkey_inj oa.ff ob.ff (K.V.right_nz ra) (K.V.right_nz rb) (cI_zero h3)
    have e1 := cI_zero h1
    have e2 := cI_zero h2
    have e4 := cS_zero h4
    cases a; cases b
    simp only at e1 e2 e3 e4
    subst e1 e2 e3 e4
    rfl
  · rintro rfl
    have c0 : ∀ x : Int, cI x x = 0 := fun x => by have := to_cI.anti x x; omega
    have s0 : ∀ x, cS x x = 0 := fun x => by have := to_cS.anti x x; omega
    rw [c0, c0, c0, s0]
    rfl
theorem compare_va {a b : VaV} (oa : a.ok) (ob : b.ok) {w : World} (hT : K.V.Tabs w) : Calls Tryz.prog 114 #[a.v, b.v] w fun e w' => e = .returned (.int .i64 (a.cmp b)) ∧ Below w.heap.size w w' :=
  K.V.compare_any a.k a.n a.f a.s b.k b.n b.f b.s w oa.k0 oa.ff (Nat.le_trans oa.ss (by decide)) ob.k0 ob.ff (Nat.le_trans ob.ss (by decide)) hT
section
variable {W : World} {b o : Nat} {x : SpV}
theorem sp_v (h : W.rangeAt b o x.c) : (Instr.loadAt 40 (.pointer (some ⟨b, o + 3, none⟩))).run Tryz.prog W = .ok x.v.v W :=
  run_loadAt_mid (P := Tryz.prog) W b (o + 3) 40 x.v.c _ (rng_sub (A := [.int .i64 x.fr, .int .i64 x.to, .string x.nm]) (C := []) (by simpa [SpV.c] using h) rfl) Tryz.underlying40 rfl (by rw [VaV.len]; exact szVa)
theorem sp_kind (h : W.rangeAt b o x.c) : (Instr.loadAt 37 (.pointer (some ⟨b, o + 3 + 0, none⟩))).run Tryz.prog W = .ok (.int .u8 x.v.k) W := by
  have hc : W.cell? ⟨b, o + 3, none⟩ = some (.int .u8 x.v.k) := h 3 _ rfl
  rw [Nat.add_zero]
  go_simp
end
theorem goes_any {p q : SpV} (hp : p.ok) (hq : q.ok) (rp : p.v.right = true) (rq : q.v.right = true) {w : World} (hT : K.V.Tabs w) : Calls Tryz.prog 90 #[p.a, q.a] w fun e w' => e = .returned (.bool (decide (p.to = q.fr ∧ p.v = q.v))) ∧ Below w.heap.size w w' := by
  obtain ⟨w1, hw1⟩ : ∃ w1, w.alloc (.cells p.c.toArray 65) = w1 := ⟨_, rfl⟩
  obtain ⟨w2, hw2⟩ : ∃ w2, w1.alloc (.cells q.c.toArray 65) = w2 := ⟨_, rfl⟩
  obtain ⟨p1, b1⟩ := RowT.bx_is RSp w p
  obtain ⟨q2, b2⟩ := RowT.bx_is RSp w1 q
  change RSp.Bx (w.alloc (.cells p.c.toArray 65)) _ _ at p1
  change Below _ _ (w.alloc (.cells p.c.toArray 65)) at b1
  change RSp.Bx (w1.alloc (.cells q.c.toArray 65)) _ _ at q2
  change Below _ _ (w1.alloc (.cells q.c.toArray 65)) at b2
  rw [hw1] at p1 b1
  rw [hw2] at q2 b2
  have p2 := p1.below b2
  have b02 := b1.trans (b2.mono b1.size)
  have z1 : w1.heap.size = w.heap.size + 1 := by rw [← hw1]; simp
  rw [z1] at q2
  have L1 := hidMk (sp_to p2)
  have L2 := hidMk (sp_fr q2)
  have L3 := hidMk (sp_v p2.rng)
  have L4 := hidMk (sp_v q2.rng)
  have CC := hidMk (compare_va hp.v hq.v (hT.below b02))
  have CZ := hidMk (cmp_zero hp.v hq.v rp rq)
  have HW := hidMk (And.intro hw1 hw2)
  have B2 := hidMk b02
  obtain ⟨z, hz⟩ : ∃ z, p.v.cmp q.v = z := ⟨_, rfl⟩
  rw [hz] at CC CZ
  obtain ⟨r, hr⟩ : ∃ r, decide (p.to = q.fr ∧ p.v = q.v) = r := ⟨_, rfl⟩
  rw [hr]
  have HR := hidMk hr
  clear hz hr p1 b1 p2 q2 b2 b02 z1 hp hq rp rq hT hw1 hw2
  show Calls Tryz.prog 90 #[.agg p.c.toArray, .agg q.c.toArray] w _
  go_enter Tryz.func90, Tryz.ntmps90
  go_upto_region 1 with fail
  rw [HW.out.1, HW.out.2]
  cases hq : decide (p.to = q.fr) with
  | false =>
    refine goe1f (ab := w.heap.size) (bb := w.heap.size + 1) _ w2 _ rfl rfl rfl hq L1.out L2.out ?_
    intro a' w3 hw ha
    obtain rfl : w2 = w3 := hw.symm
    subst ha
    have e : r = false := by rw [← HR.out]; exact decide_eq_false (fun h => of_decide_eq_false hq h.1)
    subst e
    simp only [Act.put, qsA, qsB, qsC]
    clear hq L1 L2 L3 L4 CC CZ
    go_wp2
    go_ret
    exact ⟨rfl, B2.out⟩
  | true =>
    have HQ := hidMk hq
    refine goe1t (ab := w.heap.size) (bb := w.heap.size + 1) (z := z) (r := decide (z = 0)) (fun W => Below w2.heap.size w2 W) _ w2 _ rfl rfl rfl hq rfl L1.out L2.out L3.out L4.out CC.out ?_
    intro a' w3 hw ha
    subst ha
    have e : r = decide (z = 0) := by
      rw [← HR.out, Bool.eq_iff_iff]
      simp only [decide_eq_true_eq]
      rw [CZ.out]
      exact ⟨fun h => h.2, fun h => ⟨of_decide_eq_true HQ.out, h⟩⟩
    have HF := hidMk hw
    have HE := hidMk e
    clear hq hw e L1 L2 L3 L4 CC CZ
    generalize decide (z = 0) = r2 at *
    simp only [Act.put, qsA, qsB, qsC]
    go_wp2
    go_ret
    exact ⟨by rw [HE.out]; rfl, B2.out.trans (HF.out.mono B2.out.size)⟩
structure PcV where
  kv : Value
  hv : Value
  xv : Value
def zN (X : List Nat) : List Int := X.map fun (n : Nat) => (n : Int)
theorem zN_len (X : List Nat) : (zN X).length = X.length := by simp [zN]
theorem zN_get {X : List Nat} {i x : Nat} (h : X[i]? = some x) : (zN X)[i]? = some (x : Int) := by simp [zN, h]
theorem zN_set (X : List Nat) (i x : Nat) : (zN X).set i (x : Int) = zN (X.set i x) := by simp [zN, List.map_set]
structure PcAt (w : World) (base pb : Nat) (P : PcV) (K H : List Int) (X : List Nat) : Prop where
  cell : w.heap[pb]? = some (.cells #[P.kv, P.hv, P.xv] 152 (0, 0))
  k : OwnZ w base P.kv K
  h : OwnZ w base P.hv H
  x : OwnZ w base P.xv (zN X)
  dk : ∀ j, P.kv.ownBlock = some j → P.hv.ownBlock ≠ some j ∧ P.xv.ownBlock ≠ some j
  dh : ∀ j, P.hv.ownBlock = some j → P.xv.ownBlock ≠ some j
  b : base ≤ pb
def PcV.bl (P : PcV) (pb j : Nat) : Prop := j = pb ∨ P.kv.ownBlock = some j ∨ P.hv.ownBlock = some j ∨ P.xv.ownBlock = some j
theorem ld_z {w : World} {g i : Nat} {x : Int} (hc : w.cell? ⟨g, i, none⟩ = some (iz x)) : (Instr.loadAt 3 (.pointer (some ⟨g, i, none⟩))).run Tryz.prog w = .ok (.int .i64 x) w := by
  have hc' : w.cell? ⟨g, i, none⟩ = some (.int .i64 x) := hc
  go_simp
section
variable {w w' : World} {base pb : Nat} {P : PcV} {K H : List Int} {X : List Nat}
theorem PcAt.keep (h : PcAt w base pb P K H X) (hk : ∀ j, P.bl pb j → w'.heap[j]? = w.heap[j]?) : PcAt w' base pb P K H X :=
  ⟨(hk _ (.inl rfl)).trans h.cell, h.k.keep (fun j hj => hk j (.inr (.inl hj))), h.h.keep (fun j hj => hk j (.inr (.inr (.inl hj)))), h.x.keep (fun j hj => hk j (.inr (.inr (.inr hj)))), h.dk, h.dh, h.b⟩
theorem PcAt.lt (h : PcAt w base pb P K H X) {j : Nat} (hj : P.bl pb j) : j < w.heap.size := by
  rcases hj with rfl | hj | hj | hj
  · exact (Array.getElem?_eq_some_iff.1 h.cell).1
  · exact h.k.lt hj
  · exact h.h.lt hj
  · exact h.x.lt hj
theorem PcAt.below (h : PcAt w base pb P K H X) (b : Below w.heap.size w w') : PcAt w' base pb P K H X := h.keep (fun j hj => b.block j (h.lt hj))
theorem PcAt.drew (h : PcAt w base pb P K H X) : PcAt w.drew base pb P K H X := h.keep (fun _ _ => rfl)
theorem PcAt.ge (h : PcAt w base pb P K H X) {j : Nat} (hj : P.bl pb j) : base ≤ j := by
  rcases hj with rfl | hj | hj | hj
  · exact h.b
  · exact (h.k.ge j hj).1
  · exact (h.h.ge j hj).1
  · exact (h.x.ge j hj).1
theorem PcAt.npb (h : PcAt w base pb P K H X) : P.kv.ownBlock ≠ some pb ∧ P.hv.ownBlock ≠ some pb ∧ P.xv.ownBlock ≠ some pb := by
  have no : ∀ {v : Value} {L : List Int}, OwnZ w base v L → v.ownBlock ≠ some pb := fun o e => by
    obtain ⟨_, c, hc⟩ := o.ge pb e
    have := two_typesM hc h.cell
    revert this; decide
  exact ⟨no h.k, no h.h, no h.x⟩
theorem PcAt.ldk (h : PcAt w base pb P K H X) : (Instr.loadAt 150 (.pointer (some ⟨pb, 0 + 0, none⟩))).run Tryz.prog w = .ok P.kv w := by
  obtain ⟨a, c, e, _⟩ := h.k.form
  have hc : w.cell? ⟨pb, 0, none⟩ = some (.slice a K.length c) := by rw [← e]; exact (cell_of_row w pb 0 _ _ _ h.cell).trans rfl
  rw [e]
  go_simp
theorem PcAt.ldh (h : PcAt w base pb P K H X) : (Instr.loadAt 150 (.pointer (some ⟨pb, 0 + 1, none⟩))).run Tryz.prog w = .ok P.hv w := by
  obtain ⟨a, c, e, _⟩ := h.h.form
  have hc : w.cell? ⟨pb, 1, none⟩ = some (.slice a H.length c) := by rw [← e]; exact (cell_of_row w pb 1 _ _ _ h.cell).trans rfl
  rw [e]
  go_simp
theorem PcAt.ldx (h : PcAt w base pb P K H X) : (Instr.loadAt 150 (.pointer (some ⟨pb, 0 + 2, none⟩))).run Tryz.prog w = .ok P.xv w := by
  obtain ⟨a, c, e, _⟩ := h.x.form
  have hc : w.cell? ⟨pb, 2, none⟩ = some (.slice a (zN X).length c) := by rw [← e]; exact (cell_of_row w pb 2 _ _ _ h.cell).trans rfl
  rw [e]
  go_simp
theorem PcAt.setx (h : PcAt w base pb P K H X) {i : Nat} (hi : i < X.length) (x : Nat) : ∃ g cap, P.xv = .slice (some ⟨g, 0, none⟩) X.length cap ∧ (Instr.storeAt 3 (.pointer (some ⟨g, i, none⟩)) (.int .i64 (x : Int))).run Tryz.prog w = .ok () (w.setCell ⟨g, i, none⟩ (.int .i64 (x : Int))) ∧ PcAt (w.setCell ⟨g, i, none⟩ (.int .i64 (x : Int))) base pb P K H (X.set i x) ∧ Tch (fun j => P.xv.ownBlock = some j) w (w.setCell ⟨g, i, none⟩ (.int .i64 (x : Int))) := by
  obtain ⟨g, cap, e, hg, es, o, t⟩ := h.x.set (i := i) (by rw [zN_len]; exact hi) (x : Int)
  rw [zN_len] at e
  rw [zN_set] at o
  have ob : P.xv.ownBlock = some g := by rw [e]; rfl
  have kb : ∀ j, j < w.heap.size → P.xv.ownBlock ≠ some j → (w.setCell ⟨g, i, none⟩ (iz (x : Int))).heap[j]? = w.heap[j]? := fun j hj hn => t.block j hj hn
  refine ⟨g, cap, e, es, ⟨(kb pb (h.lt (.inl rfl)) h.npb.2.2).trans h.cell, h.k.keep (fun j hj => kb j (h.lt (.inr (.inl hj))) (h.dk j hj).2), h.h.keep (fun j hj => kb j (h.lt (.inr (.inr (.inl hj)))) (h.dh j hj)), o, h.dk, h.dh, h.b⟩, t⟩
def OpI (w : World) (base pb : Nat) (P : PcV) (K H : List Int) (n s i : Nat) (W : World) : Prop :=
  ∃ X, PcAt W base pb P K H X ∧ NX H X ∧ X.length = n ∧ s ≤ i ∧ i < n ∧ (∀ b, s ≤ b → b < i → H[b]? ≠ some (-1)) ∧ Tch (fun j => P.xv.ownBlock = some j) w W
theorem open_any (h : PcAt w base pb P K H X) (n : NX H X) {s : Nat} (hs : s < X.length) (hm : X.length ≤ 9223372036854775807) : Calls Tryz.prog 113 #[.pointer (some ⟨pb, 0, none⟩), .int .i64 (s : Int)] w fun e w' => ∃ (r : Nat), e = .returned (.int .i64 (r : Int)) ∧ ∃ X' : List Nat, PcAt w' base pb P K H X' ∧ NX H X' ∧ X'.length = X.length ∧ s ≤ r ∧ X'[r]? = some r ∧ (∀ b, s ≤ b → b < r → H[b]? ≠ some (-1)) ∧ Tch (fun j => P.xv.ownBlock = some j) w w' := by
  obtain ⟨m, hml⟩ : ∃ m, X.length = m := ⟨_, rfl⟩
  rw [hml] at hm hs ⊢
  have I0 := hidMk (show OpI w base pb P K H m s s w from ⟨X, h, n, hml, Nat.le_refl _, hs, fun b h1 h2 => by omega, Tch.refl _ _⟩)
  have HM := hidMk hm
  clear h n hml hs hm
  go_enter Tryz.func113, Tryz.ntmps113
  go_wp2
  go_loopw [1] (fun v1 wr => ∃ i : Nat, v1 = .int .i64 (i : Int) ∧ i ≤ m ∧ Hid (OpI w base pb P K H m s i wr)) (fun v1 _ => m - (intOf v1).toNat)
  case atStart => exact ⟨s, rfl, Nat.le_of_lt I0.out.choose_spec.2.2.2.2.1, I0⟩
  case round =>
    clear I0
    obtain ⟨i, rfl, him, HI⟩ := hrel
    obtain ⟨Y, hp, n, hl, h1, h2, hcl, t⟩ := HI.out
    obtain ⟨x, hx⟩ : ∃ x, Y[i]? = some x := ⟨_, List.getElem?_eq_getElem (by omega)⟩
    have bd := n.le i x hx
    have hxl : x < m := by have := n.len; omega
    obtain ⟨g, cap, ex, hg0, hg, hget, ob⟩ := hp.x.at (by intro e; have := zN_len Y; rw [e] at this; simp at this; omega)
    rw [zN_len, hl] at ex
    have LX := hp.ldx
    rw [ex] at LX
    have LA := ld_z (hget i _ (zN_get hx))
    obtain ⟨r, hr⟩ : ∃ r, decide ((x : Int) ≠ (i : Int)) = r := ⟨_, rfl⟩
    clear HI
    go_upto_region 1 with fail
    refine opn1 (pb := pb) (g := g) (n := m) (c := cap) (ai := i) (x := x) (r := r) _ wr _ rfl rfl rfl h2 HM.out hr LX LA ?_
    intro a' w3 hw ha
    obtain rfl : wr = w3 := hw.symm
    subst ha
    simp only [Act.put, qsA, qsB, qsC]
    cases r with
    | false =>
      have e : x = i := by have := of_decide_eq_false hr; omega
      subst e
      have RES := hidMk (And.intro hp (And.intro n (And.intro hl (And.intro h1 (And.intro hx (And.intro hcl t))))))
      clear hp n hl h1 hx hcl t LX LA hget ob ex hg hg0 hr bd
      go_wp2
      go_ret
      obtain ⟨q1, q2, q3, q4, q5, q6, q7⟩ := RES.out
      exact ⟨x, rfl, Y, q1, q2, q3, q4, q5, q6, q7⟩
    | true =>
      have hne : x ≠ i := by have := of_decide_eq_true hr; omega
      obtain ⟨y, hy⟩ : ∃ y, Y[x]? = some y := ⟨_, List.getElem?_eq_getElem (by omega)⟩
      have by' := n.le x y hy
      have hyl : y < m := by have := n.len; omega
      have LY := ld_z (hget x _ (zN_get hy))
      obtain ⟨g2, cap2, e2, es, hp2, t2⟩ := (hp.drew).setx (i := i) (by omega) y
      rw [hl, ex] at e2
      injection e2 with e3 _ e4
      injection e3 with e3
      injection e3 with e3
      subst e3
      subst e4
      obtain ⟨w2, hw2⟩ : ∃ w2, wr.drew.setCell ⟨g, i, none⟩ (.int .i64 (y : Int)) = w2 := ⟨_, rfl⟩
      rw [hw2] at es hp2 t2
      have n2 := n.half hx hy hne
      have NI : OpI w base pb P K H m s y w2 := ⟨_, hp2, n2, by simp [hl], by omega, hyl, fun b q1 q2 => by
        by_cases c1 : b < i
        · exact hcl b q1 c1
        · by_cases c2 : b < x
          · exact n.cl i x b hx (by omega) c2
          · exact n.cl x y b hy (by omega) q2, (t.trans (Tch.refl _ _).drew).trans t2⟩
      have LX2 := hp2.ldx
      rw [ex] at LX2
      have LA2 : (Instr.loadAt 3 (.pointer (some ⟨g, i, none⟩))).run Tryz.prog w2 = .ok (.int .i64 (y : Int)) w2 := by
        obtain ⟨g3, cap3, ex3, _, _, hget3, _⟩ := hp2.x.at (by intro e; have := zN_len (Y.set i y); rw [e] at this; simp at this; omega)
        rw [ex] at ex3
        injection ex3 with e5
        injection e5 with e5
        injection e5 with e5
        subst e5
        exact ld_z (hget3 i _ (zN_get (by rw [List.getElem?_set_self (by omega)])))
      have NI2 := hidMk NI
      have lx : ∀ W, W = wr.drew → (Instr.loadAt 150 (.pointer (some ⟨pb, 0 + 2, none⟩))).run Tryz.prog W = .ok (.slice (some ⟨g, 0, none⟩) m cap) W := fun W e => by
        have := hp.drew.ldx
        rw [ex] at this
        rw [e]; exact this
      have gd := hget
      have la : ∀ W, W = wr.drew → (Instr.loadAt 3 (.pointer (some ⟨g, i, none⟩))).run Tryz.prog W = .ok (.int .i64 (x : Int)) W := fun W e => by rw [e]; exact ld_z (gd i _ (zN_get hx))
      have ly : ∀ W, W = wr.drew → (Instr.loadAt 3 (.pointer (some ⟨g, x, none⟩))).run Tryz.prog W = .ok (.int .i64 (y : Int)) W := fun W e => by rw [e]; exact ld_z (gd x _ (zN_get hy))
      have HB := hidMk (And.intro hxl (And.intro hyl (And.intro bd (And.intro by' hne))))
      have MS : m - (((y : Nat) : Int)).toNat < m - ((i : Nat) : Int).toNat := by
        simp only [Int.toNat_natCast]; omega
      clear hp n hl h1 hcl t LX LA LY hget gd ob ex hg hg0 hr bd by' hne NI hp2 t2 n2 hw2 hx hy
      go_upto_region 2 with fail
      refine opn2 (pb := pb) (g := g) (n := m) (c := cap) (ai := i) (x := x) (y := y) (w2 := w2) _ wr _ rfl rfl rfl h2 HB.out.1 HM.out lx la ly es ?_
      intro a' w3 hw ha
      obtain rfl : w2 = w3 := hw.symm
      subst ha
      simp only [Act.put, qsA, qsB, qsC]
      clear lx la ly es
      go_upto_region 3 with fail
      refine opn3 (pb := pb) (g := g) (n := m) (c := cap) (ai := i) (x := y) _ w2 _ rfl rfl rfl h2 HM.out LX2 LA2 ?_
      intro a' w3 hw ha
      obtain rfl : w2 = w3 := hw.symm
      subst ha
      simp only [Act.put, qsA, qsB, qsC]
      clear LX2 LA2
      go_wp2
      exact ⟨⟨y, rfl, Nat.le_of_lt HB.out.2.1, NI2⟩, MS⟩
end
theorem and32 (n : Nat) (hn : n < 18446744073709551616) : bits .and .u64 (n : Int) 4294967295 = ((n % 4294967296 : Nat) : Int) := by
  have h := u64_and_nat n 4294967295 hn (by omega)
  rw [show ((4294967295 : Nat) : Int) = 4294967295 from rfl] at h
  rw [h, show (4294967295 : Nat) = 2 ^ 32 - 1 by decide, Nat.and_two_pow_sub_one_eq_mod]
theorem wrapU {n : Int} (h0 : 0 ≤ n) (h1 : n < 18446744073709551616) : IntKind.u64.wrap n = n := by
  have : IntKind.u64.wrap n = n % 18446744073709551616 := by simp [IntKind.wrap, IntKind.bits, IntKind.signed]
  rw [this]; omega
theorem mul64_one (c : Nat) (hc : c < 4398046511104) (w : World) : Calls Tryz.prog 167 #[.int .u64 1, .int .u64 (c : Int)] w fun e w' => e = .returned (.tuple #[.int .u64 0, .int .u64 (c : Int)]) ∧ w' = w := by
  have h1 : bits .and .u64 1 4294967295 = 1 := and32 1 (by omega)
  have h2 := and32 c (by omega)
  obtain ⟨y, hy⟩ : ∃ y, c % 4294967296 = y := ⟨_, rfl⟩
  obtain ⟨z, hz⟩ : ∃ z, c / 4294967296 = z := ⟨_, rfl⟩
  rw [hy] at h2
  have hyl : y < 4294967296 := by omega
  have hzl : z < 1024 := by omega
  have h3 : (c : Int) / 4294967296 = (z : Int) := by omega
  have h4 : IntKind.u64.wrap (1 * (y : Int)) = (y : Int) := by rw [wrapU] <;> omega
  have h5 : (y : Int) / 4294967296 = 0 := by omega
  have h6 : IntKind.u64.wrap 0 = 0 := wrapU (by omega) (by omega)
  have h7 : bits .and .u64 0 4294967295 = 0 := and32 0 (by omega)
  have h8 : IntKind.u64.wrap (1 * (z : Int)) = (z : Int) := by rw [wrapU] <;> omega
  have h9 : (0 : Int) + (z : Int) = (z : Int) := by omega
  have h10 : IntKind.u64.wrap (z : Int) = (z : Int) := by rw [wrapU] <;> omega
  have h11 : (z : Int) / 4294967296 = 0 := by omega
  have h12 : (0 : Int) / 4294967296 = 0 := by omega
  have HH := hidMk (And.intro h1 (And.intro h2 (And.intro h3 (And.intro h4 (And.intro h5 (And.intro h6 (And.intro h7 (And.intro h8 (And.intro h9 (And.intro h10 (And.intro h11 h12)))))))))))
  clear h1 h2 h3 h4 h5 h6 h7 h8 h9 h10 h11 h12 hy hz hyl hzl
  go_enter Tryz.func167, Tryz.ntmps167
  go_wp2
  refine bodyPost_ret (results_tmp2 rfl _ _ _) rfl ?_
  obtain ⟨h1, h2, h3, h4, h5, h6, h7, h8, h9, h10, h11, h12⟩ := HH.out
  refine ⟨?_, rfl⟩
  show Ending.returned (.tuple #[.int .u64 _, .int .u64 _]) = _
  rw [h1, h2, h3, h4, h5, h6, h7, h8, h9, h10, h11, h12]
  rfl
end Go.Proofs.YtifendlpeebofaaGreatDoor
namespace Go.Proofs.YtifendlpeebofaaGreatDoor
open Go.RowKit
theorem exec_conv {P : Program} {w : World} {a : Act} {o : Oper} {s d : TypeId} {x : Operand} {xv v : Value} (ho : o.op = .convert s d x) (hx : a.eval x = xv) (hl : (convert s d xv).run P w = .ok v w) : (execOp a.eval o).run P w = .ok (.value v) w := by
  unfold execOp; simp only [ho, hx, Sem.run_bind, hl, Result.andThen_ok, Sem.run_pure]
theorem conv_iu {n : Int} (h : IntKind.u64.wrap n = n) (w : World) : (convert 3 156 (.int .i64 n)).run Tryz.prog w = .ok (.int .u64 n) w := by
  go_simp
theorem conv_ui {n : Int} (h : IntKind.i64.wrap n = n) (w : World) : (convert 156 3 (.int .u64 n)).run Tryz.prog w = .ok (.int .i64 n) w := by
  go_simp
theorem gtr_u {p q : Int} {r : Bool} {w : World} {a : Act} {o : Oper} {x y : Operand} (ho : o.op = .binOp .gtr 156 x y 156) (hx : a.eval x = .int .u64 p) (hy : a.eval y = .int .u64 q) (h : decide (p > q) = r) : (execOp a.eval o).run Tryz.prog w = .ok (.value (.bool r)) w := by
  subst h
  unfold execOp
  rw [ho]
  simp only [hx, hy]
  go_simp
theorem exec_copyZ {w w2 : World} {a : Act} {o : Oper} {x y : Operand} {xv yv v : Value} {ts : Array TypeId} (ho : o.op = .call { callee := .builtin .copy, args := #[x, y], argTypes := ts }) (hx : a.eval x = xv) (hy : a.eval y = yv) (hl : (Builtin.copy_ ts o.type #[xv, yv]).run Tryz.prog w = .ok v w2) : (execOp a.eval o).run Tryz.prog w = .ok (.value v) w2 := by
  unfold execOp
  simp only [ho, resolve, invoke, builtin, List.map_toArray, List.map_cons, List.map_nil, hx, hy, Sem.run_bind, Sem.run_pure, hl, Result.andThen_ok]
theorem ex_addZ {w : World} {a : Act} {o : Oper} {x y : Operand} {p q k : Nat} (ho : o.op = .binOp .add 3 x y 3) (hx : a.eval x = .int .i64 p) (hy : a.eval y = .int .i64 q) (h : (p : Int) + (q : Int) = (k : Int)) (hb : (k : Int) ≤ 9223372036854775807) : (execOp a.eval o).run Tryz.prog w = .ok (.value (.int .i64 (k : Int))) w := by
  rw [← h]
  exact ex_add ho hx hy (by omega)
def rep1_ops : Array Oper := (⟨_, rfl⟩ : {o // some o = rgB Tryz.f110 1}).1
theorem rep1 {c : Nat} (a : Act) (w : World) (Q : Exit → Act → World → Prop) (zz : a.tmps.size = 48)
    (t1 : a.tmps.getD 1 undef = .int .i64 (c : Int))
    (hc : decide ((c : Int) < 0) = false)
    (h : ∀ a' w', w' = w → a' = (a.put (some 9) (.int .i64 (c : Int))).put (some 10) (.bool false) → Q .normal a' w') :
    (Code.region 1 rep1_ops false).wp Tryz.prog Q a w := by
  refine z0 rfl ?_
  refine zv rfl (xmv rfl (zi t1 rfl)) ?_
  refine zv (v := .bool false) rfl (ex_lss rfl (zg zz rfl) rfl hc) ?_
  exact ze rfl (h _ _ (rfl) rfl)
def rep3_ops : Array Oper := (⟨_, rfl⟩ : {o // some o = rgB Tryz.f110 3}).1
theorem rep3 {c cp : Nat} {la : Option Addr} (Fin : World → Prop) (a : Act) (w : World) (Q : Exit → Act → World → Prop) (zz : a.tmps.size = 48)
    (t0 : a.tmps.getD 0 undef = .slice la 1 cp)
    (t1 : a.tmps.getD 1 undef = .int .i64 (c : Int))
    (w1 : IntKind.u64.wrap 1 = 1) (wc : IntKind.u64.wrap (c : Int) = (c : Int)) (CM : Calls Tryz.prog 141 #[.int .u64 1, .int .u64 (c : Int)] w fun e w' => e = .returned (.tuple #[.int .u64 0, .int .u64 (c : Int)]) ∧ Fin w')
    (h : ∀ a' w', Fin w' → a' = ((((((((((a.put (some 13) (.slice la 1 cp)).put (some 14) (.int .i64 (1 : Int))).put (some 15) (.int .u64 1)).put (some 16) (.int .i64 (c : Int))).put (some 17) (.int .u64 (c : Int))).put (some 18) (.tuple #[.int .u64 0, .int .u64 (c : Int)])).put (some 12) (.tuple #[.int .u64 0, .int .u64 (c : Int)])).put (some 19) (.int .u64 0)).put (some 20) (.int .u64 (c : Int))).put (some 5) (.int .u64 0)).put (some 6) (.int .u64 (c : Int)) → Q .normal a' w') :
    (Code.region 3 rep3_ops false).wp Tryz.prog Q a w := by
  refine z0 rfl ?_
  refine zv rfl (xmv rfl (zi t0 rfl)) ?_
  refine zv rfl (exec_len rfl (zg zz rfl) (len_z _ _ _ _)) ?_
  refine zv (v := .int .u64 1) rfl (exec_conv rfl (zg zz rfl) (conv_iu w1 _)) ?_
  refine zv rfl (xmv rfl (zi t1 rfl)) ?_
  refine zv (v := .int .u64 (c : Int)) rfl (exec_conv rfl (zg zz rfl) (conv_iu wc _)) ?_
  refine zc rfl (exec_c2 rfl (zg zz rfl) (zg zz rfl)) (CM) (fun e x5 hx => ?_)
  obtain ⟨rfl, HF⟩ := hx
  refine ⟨_, rfl, ?_⟩
  refine zv rfl (xmv rfl (zg zz rfl)) ?_
  iterate 2 refine zv rfl (exec_extract rfl (zg zz rfl) rfl) ?_
  iterate 2 refine zv rfl (xas rfl (zg zz rfl)) ?_
  exact ze rfl (h _ _ (HF) rfl)
def rep4_ops : Array Oper := (⟨_, rfl⟩ : {o // some o = rgB Tryz.f110 4}).1
theorem rep4 {c : Nat} (a : Act) (w : World) (Q : Exit → Act → World → Prop) (zz : a.tmps.size = 48)
    (t5 : a.tmps.getD 5 undef = .int .u64 0)
    (t6 : a.tmps.getD 6 undef = .int .u64 (c : Int))
    (hc : decide ((c : Int) > 9223372036854775807) = false)
    (h : ∀ a' w', w' = w → a' = (((((a.put (some 21) (.int .u64 0)).put (some 22) (.bool false)).put (some 23) (.bool false)).put (some 24) (.int .u64 (c : Int))).put (some 25) (.bool false)).put (some 26) (.bool false) → Q .normal a' w') :
    (Code.region 4 rep4_ops false).wp Tryz.prog Q a w := by
  refine z0 rfl ?_
  refine zv rfl (xmv rfl (zi t5 rfl)) ?_
  refine zv (v := .bool false) rfl (gtr_u rfl (zg zz rfl) rfl (by decide)) ?_
  refine zv rfl (xmv rfl (zg zz rfl)) ?_
  refine zv (zw zz rfl rfl rfl (zg zz rfl)) (xmv rfl (zi t6 rfl)) ?_
  refine zv (v := .bool false) (zw zz rfl rfl rfl (zg zz rfl)) (gtr_u rfl (zg zz rfl) rfl hc) ?_
  refine zv rfl (exec_pickF rfl (zg zz rfl) (zg zz rfl)) ?_
  exact ze rfl (h _ _ (rfl) rfl)
def rep6_ops : Array Oper := (⟨_, rfl⟩ : {o // some o = rgB Tryz.f110 6}).1
theorem rep6 {c g : Nat} {w1 : World} (a : Act) (w : World) (Q : Exit → Act → World → Prop) (zz : a.tmps.size = 48)
    (t6 : a.tmps.getD 6 undef = .int .u64 (c : Int))
    (wc : IntKind.i64.wrap (c : Int) = (c : Int)) (EM : (Instr.makeSlice 150 (.int .i64 (c : Int)) (.int .i64 (c : Int))).run Tryz.prog w = .ok (.slice (some ⟨g, 0, none⟩) c c) w1)
    (h : ∀ a' w', w' = w1 → a' = (((a.put (some 28) (.int .u64 (c : Int))).put (some 29) (.int .i64 (c : Int))).put (some 30) (.slice (some ⟨g, 0, none⟩) c c)).put (some 7) (.slice (some ⟨g, 0, none⟩) c c) → Q .normal a' w') :
    (Code.region 6 rep6_ops false).wp Tryz.prog Q a w := by
  refine z0 rfl ?_
  refine zv rfl (xmv rfl (zi t6 rfl)) ?_
  refine zv (v := .int .i64 (c : Int)) rfl (exec_conv rfl (zg zz rfl) (conv_ui wc _)) ?_
  refine zv (v := .slice (some ⟨g, 0, none⟩) c c) rfl (exec_makeSlice rfl (zg zz rfl) (zg zz rfl) EM) ?_
  refine zv rfl (xas rfl (zg zz rfl)) ?_
  exact ze rfl (h _ _ (rfl) rfl)
def rep7_ops : Array Oper := (⟨_, rfl⟩ : {o // some o = rgB Tryz.f110 7}).1
theorem rep7 {g c : Nat} {xv : Value} {w1 : World} (a : Act) (w : World) (Q : Exit → Act → World → Prop) (zz : a.tmps.size = 48)
    (t0 : a.tmps.getD 0 undef = xv)
    (t7 : a.tmps.getD 7 undef = .slice (some ⟨g, 0, none⟩) c c)
    (EC : (Builtin.copy_ #[150, 150] 3 #[.slice (some ⟨g, 0, none⟩) c c, xv]).run Tryz.prog w = .ok (.int .i64 1) w1)
    (h : ∀ a' w', w' = w1 → a' = (((a.put (some 31) (.slice (some ⟨g, 0, none⟩) c c)).put (some 32) (xv)).put (some 33) (.int .i64 1)).put (some 8) (.int .i64 1) → Q .normal a' w') :
    (Code.region 7 rep7_ops false).wp Tryz.prog Q a w := by
  refine z0 rfl ?_
  refine zv rfl (xmv rfl (zi t7 rfl)) ?_
  refine zv rfl (xmv rfl (zi t0 rfl)) ?_
  refine zv (v := .int .i64 1) rfl (exec_copyZ rfl (zg zz rfl) (zg zz rfl) EC) ?_
  refine zv rfl (xas rfl (zg zz rfl)) ?_
  exact ze rfl (h _ _ (rfl) rfl)
def rep9_ops : Array Oper := (⟨_, rfl⟩ : {o // some o = rgB Tryz.f110 9}).1
theorem rep9 {g c d k m k2 : Nat} {w1 : World} (S : World → Prop) (a : Act) (w : World) (Q : Exit → Act → World → Prop) (zz : a.tmps.size = 48)
    (t7 : a.tmps.getD 7 undef = .slice (some ⟨g, 0, none⟩) c c)
    (t8 : a.tmps.getD 8 undef = .int .i64 (k : Int))
    (h0 : S w.drew) (E1 : ∀ W, (Instr.sliceAt 150 (.slice (some ⟨g, 0, none⟩) c c) (some (.int .i64 (k : Int))) none none).run Tryz.prog W = .ok (.slice (some ⟨g, k, none⟩) d d) W) (E2 : ∀ W, (Instr.sliceAt 150 (.slice (some ⟨g, 0, none⟩) c c) none (some (.int .i64 (k : Int))) none).run Tryz.prog W = .ok (.slice (some ⟨g, 0, none⟩) k c) W) (EC : (Builtin.copy_ #[150, 150] 3 #[.slice (some ⟨g, k, none⟩) d d, .slice (some ⟨g, 0, none⟩) k c]).run Tryz.prog w.drew = .ok (.int .i64 (m : Int)) w1) (S1 : S w1) (hk : (k : Int) + (m : Int) = (k2 : Int)) (hb : (k2 : Int) ≤ 9223372036854775807)
    (h : ∀ a' w', w' = w1 → a' = (((((((((a.put (some 38) (.int .i64 (k : Int))).put (some 39) (.slice (some ⟨g, 0, none⟩) c c)).put (some 40) (.int .i64 (k : Int))).put (some 41) (.slice (some ⟨g, k, none⟩) d d)).put (some 42) (.slice (some ⟨g, 0, none⟩) c c)).put (some 43) (.int .i64 (k : Int))).put (some 44) (.slice (some ⟨g, 0, none⟩) k c)).put (some 45) (.int .i64 (m : Int))).put (some 46) (.int .i64 (k2 : Int))).put (some 8) (.int .i64 (k2 : Int)) → Q .normal a' w') :
    (Code.region 9 rep9_ops true).wp Tryz.prog Q a w := by
  refine y0 (fun w' => S w') (h0) (fun hHeld => ?_)
  refine yv 0 rfl rfl (fun w1 hw => xmv rfl (zi t8 rfl)) hHeld ?_
  refine yv 1 rfl rfl (fun w1 hw => xmv rfl (zi t7 rfl)) hHeld ?_
  refine yv 2 rfl rfl (fun w1 hw => xmv rfl (zi t8 rfl)) hHeld ?_
  refine yv (v := .slice (some ⟨g, k, none⟩) d d) 3 rfl rfl (fun w1 hw => exec_slice rfl (zg zz rfl) (congrArg some (zg zz rfl)) rfl rfl (E1 _)) hHeld ?_
  refine yv 4 rfl rfl (fun w1 hw => xmv rfl (zi t7 rfl)) hHeld ?_
  refine yv 5 rfl rfl (fun w1 hw => xmv rfl (zi t8 rfl)) hHeld ?_
  refine yv (v := .slice (some ⟨g, 0, none⟩) k c) 6 rfl rfl (fun w1 hw => exec_slice rfl (zg zz rfl) rfl (congrArg some (zg zz rfl)) rfl (E2 _)) hHeld ?_
  refine yr (v := .int .i64 (m : Int)) 7 rfl rfl (exec_copyZ rfl (zg zz rfl) (zg zz rfl) EC) (S1) (fun hHeld => ?_)
  refine yv (v := .int .i64 (k2 : Int)) 8 rfl rfl (fun w1 hw => ex_addZ rfl (zg zz rfl) (zg zz rfl) hk hb) hHeld ?_
  refine yv 9 rfl rfl (fun w1 hw => xas rfl (zg zz rfl)) hHeld ?_
  exact ye rfl (h _ _ (rfl) rfl)
end Go.Proofs.YtifendlpeebofaaGreatDoor
namespace Go.Proofs.YtifendlpeebofaaGreatDoor
open Go.RowKit Sq
theorem mul_one (c : Nat) (hc : c < 4398046511104) (w : World) : Calls Tryz.prog 141 #[.int .u64 1, .int .u64 (c : Int)] w fun e w' => e = .returned (.tuple #[.int .u64 0, .int .u64 (c : Int)]) ∧ w' = w := by
  have H := hidMk (mul64_one c hc)
  clear hc
  go_enter Tryz.func141, Tryz.ntmps141
  go_wp2_with (first
    | (go_at_call 167; refine (H.out _).mono ?_; rintro e _ ⟨rfl, rfl⟩)
    | fail)
  refine bodyPost_ret (results_tmp2 rfl _ _ _) rfl ?_
  exact ⟨rfl, rfl⟩
structure RepI (w : World) (x : Int) (g c k : Nat) (W : World) : Prop where
  row : ∃ cur, W.heap[g]? = some (.cells cur 3 (0, 0)) ∧ cur.size = c ∧ cur.toList.take k = List.replicate k (iz x)
  k1 : 1 ≤ k
  kc : k ≤ c
  bel : Below w.heap.size w W
  gg : w.heap.size ≤ g
theorem szI : (Tryz.prog.info? 3).map (·.size) = some 1 := by kernel_rfl
theorem sl_fromZ {g c k : Nat} (hk : k < c) (hc : c ≤ 9223372036854775807) (W : World) : (Instr.sliceAt 150 (.slice (some ⟨g, 0, none⟩) c c) (some (.int .i64 (k : Int))) none none).run Tryz.prog W = .ok (.slice (some ⟨g, k, none⟩) (c - k) (c - k)) W := by
  have h2 : (0 : Int) ≤ (k : Int) ∧ (k : Int) ≤ (c : Int) := by omega
  have sz : (sizeOf 3).run Tryz.prog W = .ok 1 W := m_sz szI W
  simp only [Instr.sliceAt, Instr.slice, Instr.sliceBounds, Instr.sliceBound, run_underlying undZ, asIntOf, Sem.run_bind, Sem.run_pure, Result.andThen_ok, sz]
  rw [if_pos h2]
  simp only [Sem.run_bind, Sem.run_pure, Result.andThen_ok, Int.toNat_natCast]
  have hne : ¬ c = k := by omega
  simp [sz, hne, Addr.add]
  omega
theorem sl_uptoZ {g c k : Nat} (hk : k ≤ c) (W : World) : (Instr.sliceAt 150 (.slice (some ⟨g, 0, none⟩) c c) none (some (.int .i64 (k : Int))) none).run Tryz.prog W = .ok (.slice (some ⟨g, 0, none⟩) k c) W := by
  have h1 : (0 : Int) ≤ (k : Int) ∧ (k : Int) ≤ (c : Int) := by omega
  have sz : (sizeOf 3).run Tryz.prog W = .ok 1 W := m_sz szI W
  simp only [Instr.sliceAt, Instr.slice, Instr.sliceBounds, Instr.sliceBound, run_underlying undZ, asIntOf, Sem.run_bind, Sem.run_pure, Result.andThen_ok, sz]
  rw [if_pos h1]
  simp only [Sem.run_bind, Sem.run_pure, Result.andThen_ok, Int.toNat_natCast]
  simp [Addr.add]
theorem repl_seg (cur : List Value) (v : Value) {k m : Nat} (h : cur.take k = List.replicate k v) (hl : k + m ≤ cur.length) : (cur.take k ++ List.replicate m v ++ cur.drop (k + (List.replicate m v).length)).take (k + m) = List.replicate (k + m) v := by
  rw [h, List.replicate_append_replicate]
  rw [List.take_left' (by simp)]
theorem repl_len (cur : List Value) (v : Value) {k m : Nat} (hl : k + m ≤ cur.length) : (cur.take k ++ List.replicate m v ++ cur.drop (k + (List.replicate m v).length)).length = cur.length := by
  simp; omega
theorem RepI.more {w W : World} {x : Int} {g c k : Nat} (h : RepI w x g c k W) (hk : k < c) : ∃ m w1, 1 ≤ m ∧ k + m ≤ c ∧ (Builtin.copy_ #[150, 150] 3 #[.slice (some ⟨g, k, none⟩) (c - k) (c - k), .slice (some ⟨g, 0, none⟩) k c]).run Tryz.prog W = .ok (.int .i64 (m : Int)) w1 ∧ RepI w x g c (k + m) w1 := by
  obtain ⟨⟨cur, hg, hs, ht⟩, k1, kc, b, gg⟩ := h
  obtain ⟨m, hm⟩ : ∃ m, Nat.min k (c - k) = m := ⟨_, rfl⟩
  have m1 : 1 ≤ m := by rw [← hm]; unfold Nat.min; simp [Nat.min_def]; split <;> omega
  have m2 : m ≤ k := by rw [← hm]; exact Nat.min_le_left _ _
  have m3 : m ≤ c - k := by rw [← hm]; exact Nat.min_le_right _ _
  have r := run_copy_row (P := Tryz.prog) W 150 150 3 3 g k (c - k) (c - k) ⟨g, 0, none⟩ k c cur 3 (List.replicate m (iz x)) undZ szI hg (by simp [hm]) (fun j v hj => by
    rw [List.getElem?_replicate] at hj
    split at hj
    · next hj2 =>
      cases hj
      rw [Addr.add_mid, Nat.zero_add, cell_of_row W g j cur 3 (0, 0) hg]
      have : (cur.toList.take k)[j]? = some (iz x) := by rw [ht, List.getElem?_replicate, if_pos (by omega)]
      rw [List.getElem?_take, if_pos (by omega)] at this
      simpa using this
    · cases hj) (by simp; omega) (fun v hv => by rw [List.eq_of_mem_replicate hv]; rfl)
  rw [List.length_replicate] at r
  have hl : k + m ≤ cur.toList.length := by simp; omega
  have e1 := repl_seg cur.toList (iz x) ht hl
  have e2 := repl_len cur.toList (iz x) (k := k) (m := m) hl
  rw [List.length_replicate] at e1 e2
  refine ⟨m, _, m1, by omega, r, ⟨⟨_, setRow_heap W g _ _ 3 _ hg, ?_, ?_⟩, by omega, by omega, b.trans (below_setRow (Below.refl _ _) gg _), gg⟩⟩
  · rw [List.size_toArray, e2]; simpa using hs
  · rw [List.toList_toArray]; exact e1
theorem RepI.own {w W : World} {x : Int} {g c : Nat} (h : RepI w x g c c W) (hc : c ≤ maxLen) : OwnZ W w.heap.size (.slice (some ⟨g, 0, none⟩) c c) (List.replicate c x) := by
  obtain ⟨⟨cur, hg, hs, ht⟩, k1, kc, b, gg⟩ := h
  refine ⟨by simp, .inr ⟨g, c, cur, by simp, gg, hg, by simp, hc, by simpa using hs, ?_⟩⟩
  simpa using ht
theorem madeZ (c : Nat) : madeCells (Value.int .i64 0).cells c = Array.replicate c (iz 0) := by
  apply Array.ext
  · simp [madeCells]
  · intro i h1 h2
    simp [madeCells, Value.cells, Nat.mod_one]
theorem run_makeZ (c : Nat) (hc : c ≤ 2000000000000) (w : World) : (Instr.makeSlice 150 (.int .i64 (c : Int)) (.int .i64 (c : Int))).run Tryz.prog w = .ok (.slice (some ⟨w.heap.size, 0, none⟩) c c) (w.alloc (.cells (Array.replicate c (iz 0)) 3)) := by
  obtain ⟨ie, hi, hz0, hs, hby⟩ := info_parts infoZ
  have hb : (ie.bytes : Int) * (c : Int) ≤ 281474976710656 := by rw [hby]; omega
  have r := run_make (P := Tryz.prog) w 150 3 ie _ undZ hi hz0 .i64 .i64 (c : Int) (c : Int) (by omega) (by omega) hb (by omega)
  rw [hs, Nat.mul_one, Int.toNat_natCast, madeZ] at r
  exact r
theorem repeat_any {w : World} {base : Nat} {xv : Value} {x : Int} (h : OwnZ w base xv [x]) {c : Nat} (h1 : 1 ≤ c) (hc : c ≤ 2000000000000) : Calls Tryz.prog 110 #[xv, .int .i64 (c : Int)] w fun e w' => ∃ v, e = .returned v ∧ OwnZ w' w.heap.size v (List.replicate c x) ∧ Below w.heap.size w w' := by
  obtain ⟨gx, capx, ex, _, hgx, _, obx⟩ := h.at (by simp)
  have b1 : Below w.heap.size w (w.alloc (.cells (Array.replicate c (iz 0)) 3)) := (Below.refl _ _).alloc (Nat.le_refl _) _
  have hx1 : OwnZ (w.alloc (.cells (Array.replicate c (iz 0)) 3)) 0 xv [x] := (h.below b1).mono (Nat.zero_le _)
  have MK := hidMk (run_makeZ c hc w)
  have MU := hidMk (mul_one c (by omega) w)
  have hn := heap_alloc_new w (.cells (Array.replicate c (iz 0)) 3)
  obtain ⟨w1, hw1⟩ : ∃ w1, w.alloc (.cells (Array.replicate c (iz 0)) 3) = w1 := ⟨_, rfl⟩
  rw [hw1] at MK hn b1 hx1
  have CP : ∃ w2, (Builtin.copy_ #[150, 150] 3 #[.slice (some ⟨w.heap.size, 0, none⟩) c c, xv]).run Tryz.prog w1 = .ok (.int .i64 1) w2 ∧ RepI w x w.heap.size c 1 w2 := by
    have hx2 : OwnZ w1 w.heap.size xv [x] ∨ True := .inr trivial
    obtain ⟨g', cap', e', _, _, hget, _⟩ := hx1.at (by simp)
    rw [ex] at e'
    injection e' with e1 _ e3
    injection e1 with e1
    injection e1 with e1
    subst e1
    have r := run_copy_row (P := Tryz.prog) w1 150 150 3 3 w.heap.size 0 c c ⟨gx, 0, none⟩ 1 capx _ 3 [iz x] undZ szI hn (by show 1 = Nat.min 1 c; exact (Nat.min_eq_left h1).symm) (fun j v hj => by
      have hl := (List.getElem?_eq_some_iff.1 hj).1
      obtain rfl : j = 0 := by simp at hl; omega
      simp at hj
      subst hj
      exact hget 0 x rfl) (by simp; omega) (fun v hv => by rw [List.mem_singleton.1 hv]; rfl)
    rw [ex]
    refine ⟨_, r, ⟨⟨_, setRow_heap w1 _ _ _ 3 _ hn, ?_, ?_⟩, Nat.le_refl _, h1, b1.trans (below_setRow (Below.refl _ _) (Nat.le_refl _) _), Nat.le_refl _⟩⟩
    · simp; omega
    · simp
  obtain ⟨w2, ec, RI⟩ := CP
  have wc : IntKind.u64.wrap (c : Int) = (c : Int) := wrapU (by omega) (by omega)
  have wi : IntKind.i64.wrap (c : Int) = (c : Int) := by rw [IntKind.wrap_i64]; omega
  have w1' : IntKind.u64.wrap 1 = 1 := wrapU (by omega) (by omega)
  have q1 : decide ((c : Int) < 0) = false := decide_eq_false (by omega)
  have q2 : decide ((c : Int) > 9223372036854775807) = false := decide_eq_false (by omega)
  have FX := hidMk (And.intro wc (And.intro wi (And.intro w1' (And.intro q1 (And.intro q2 hc)))))
  have RI0 := hidMk RI
  have EC := hidMk ec
  clear hx1 hn b1 h hgx obx ec RI hw1 h1 hc wc wi w1' q1 q2
  rw [show ([x] : List Int).length = 1 from rfl] at ex
  subst ex
  go_enter Tryz.func110, Tryz.ntmps110
  go_upto_region 1 with fail
  refine rep1 (c := c) _ w _ rfl rfl FX.out.2.2.2.1 ?_
  intro a' w3 hw ha
  obtain rfl : w = w3 := hw.symm
  subst ha
  simp only [Act.put, qsA, qsB, qsC]
  go_upto_region 3 with fail
  refine rep3 (c := c) (cp := capx) (la := some ⟨gx, 0, none⟩) (fun W => W = w) _ w _ rfl rfl rfl FX.out.2.2.1 FX.out.1 MU.out ?_
  intro a' w3 hw ha
  obtain rfl : w = w3 := hw.symm
  subst ha
  simp only [Act.put, qsA, qsB, qsC]
  go_upto_region 4 with fail
  refine rep4 (c := c) _ w _ rfl rfl rfl FX.out.2.2.2.2.1 ?_
  intro a' w3 hw ha
  obtain rfl : w = w3 := hw.symm
  subst ha
  simp only [Act.put, qsA, qsB, qsC]
  go_upto_region 6 with fail
  refine rep6 (c := c) (g := w.heap.size) (w1 := w1) _ w _ rfl rfl FX.out.2.1 MK.out ?_
  intro a' w3 hw ha
  obtain rfl : w1 = w3 := hw.symm
  subst ha
  simp only [Act.put, qsA, qsB, qsC]
  go_upto_region 7 with fail
  refine rep7 (g := w.heap.size) (c := c) (xv := .slice (some ⟨gx, 0, none⟩) 1 capx) (w1 := w2) _ w1 _ rfl rfl rfl EC.out ?_
  intro a' w3 hw ha
  obtain rfl : w2 = w3 := hw.symm
  subst ha
  simp only [Act.put, qsA, qsB, qsC]
  clear MU MK EC
  obtain ⟨g, hg⟩ : ∃ g, w.heap.size = g := ⟨_, rfl⟩
  rw [hg] at RI0 ⊢
  have HG := hidMk hg
  clear hg
  go_wp2
  go_loopw [8] (fun v8 wr => ∃ k : Nat, v8 = .int .i64 (k : Int) ∧ k ≤ c ∧ Hid (RepI w x g c k wr)) (fun v8 _ => c - (intOf v8).toNat)
  case atStart => exact ⟨1, rfl, RI0.out.kc, RI0⟩
  case round =>
    clear RI0
    obtain ⟨k, rfl, hk, HI⟩ := hrel
    by_cases h : k < c
    · have h' : (k : Int) < (c : Int) := by omega
      obtain ⟨m, w4, m1, m2, ec, r4⟩ := RepI.more (W := wr.drew) ⟨HI.out.row, HI.out.k1, HI.out.kc, HI.out.bel.drew, HI.out.gg⟩ h
      have R4 := hidMk r4
      have HB := hidMk (And.intro m1 m2)
      have MS : c - (((k + m : Nat) : Int)).toNat < c - ((k : Nat) : Int).toNat := by simp only [Int.toNat_natCast]; omega
      clear r4 m1 m2 HI
      go_upto_region 9 with fail
      refine rep9 (g := g) (c := c) (d := c - k) (k := k) (m := m) (k2 := k + m) (w1 := w4) (fun W => W = wr.drew ∨ W = w4) _ wr _ rfl rfl rfl (.inl rfl) (fun W => sl_fromZ h (by have := FX.out.2.2.2.2.2; omega) W) (fun W => sl_uptoZ hk W) ec (.inr rfl) (by omega) (by have := FX.out.2.2.2.2.2; have := HB.out; omega) ?_
      intro a' w5 hw ha
      obtain rfl : w4 = w5 := hw.symm
      subst ha
      simp only [Act.put, qsA, qsB, qsC]
      clear ec
      go_wp2
      exact ⟨⟨k + m, rfl, HB.out.2, R4⟩, MS⟩
    · have h' : ¬ ((k : Int) < (c : Int)) := by omega
      obtain rfl : k = c := by omega
      have RE := hidMk HI.out
      clear HI hk h
      go_wp2
      go_ret
      have o := RE.out.own (by have := FX.out.2.2.2.2.2; unfold maxLen; omega)
      exact ⟨_, rfl, HG.out ▸ o, HG.out ▸ RE.out.bel⟩
structure PcB (w : World) (base pb : Nat) (kv xv : Value) (K X : List Int) : Prop where
  cell : w.heap[pb]? = some (.cells #[kv, .slice none 0 0, xv] 152 (0, 0))
  k : OwnZ w base kv K
  x : OwnZ w base xv X
  d : ∀ j, kv.ownBlock = some j → xv.ownBlock ≠ some j
  b : base ≤ pb
def KT (pb : Nat) (W W' : World) : Prop := ∀ (j : Nat) (c : Array Value) (t : TypeId) (z : Nat × Nat), W.heap[j]? = some (.cells c t z) → t ≠ 3 → j ≠ pb → W'.heap[j]? = W.heap[j]?
theorem KT.trans {pb : Nat} {A B C : World} (h : KT pb A B) (k : KT pb B C) : KT pb A C := fun j c t z hj ht hp => (k j c t z ((h j c t z hj ht hp).trans hj) ht hp).trans (h j c t z hj ht hp)
theorem KT.tch {pb : Nat} {W W' : World} {base : Nat} {v : Value} {L : List Int} (o : OwnZ W base v L) (t : Tch (fun j => v.ownBlock = some j) W W') : KT pb W W' := fun j c ty z hj ht _ => t.block j (Array.getElem?_eq_some_iff.1 hj).1 (fun e => by
  obtain ⟨_, c2, hc2⟩ := o.ge j e
  exact ht (two_typesM hj hc2))
theorem st_pc {W : World} {pb : Nat} {x0 x1 x2 : Option Addr × Nat × Nat} (h : W.heap[pb]? = some (.cells #[.slice x0.1 x0.2.1 x0.2.2, .slice x1.1 x1.2.1 x1.2.2, .slice x2.1 x2.2.1 x2.2.2] 152 (0, 0))) (a : Option Addr) (n c : Nat) :
    ((Instr.storeAt 150 (.pointer (some ⟨pb, 0 + 0, none⟩)) (.slice a n c)).run Tryz.prog W = .ok () (W.setCell ⟨pb, 0, none⟩ (.slice a n c)) ∧ (W.setCell ⟨pb, 0, none⟩ (.slice a n c)).heap[pb]? = some (.cells #[.slice a n c, .slice x1.1 x1.2.1 x1.2.2, .slice x2.1 x2.2.1 x2.2.2] 152 (0, 0))) ∧
    ((Instr.storeAt 150 (.pointer (some ⟨pb, 0 + 1, none⟩)) (.slice a n c)).run Tryz.prog W = .ok () (W.setCell ⟨pb, 1, none⟩ (.slice a n c)) ∧ (W.setCell ⟨pb, 1, none⟩ (.slice a n c)).heap[pb]? = some (.cells #[.slice x0.1 x0.2.1 x0.2.2, .slice a n c, .slice x2.1 x2.2.1 x2.2.2] 152 (0, 0))) ∧
    ((Instr.storeAt 150 (.pointer (some ⟨pb, 0 + 2, none⟩)) (.slice a n c)).run Tryz.prog W = .ok () (W.setCell ⟨pb, 2, none⟩ (.slice a n c)) ∧ (W.setCell ⟨pb, 2, none⟩ (.slice a n c)).heap[pb]? = some (.cells #[.slice x0.1 x0.2.1 x0.2.2, .slice x1.1 x1.2.1 x1.2.2, .slice a n c] 152 (0, 0))) := by
  obtain ⟨a0, n0, c0⟩ := x0
  obtain ⟨a1, n1, c1⟩ := x1
  obtain ⟨a2, n2, c2⟩ := x2
  have h0 : W.cell? ⟨pb, 0, none⟩ = some (.slice a0 n0 c0) := (cell_of_row W pb 0 _ _ _ h).trans rfl
  have h1 : W.cell? ⟨pb, 1, none⟩ = some (.slice a1 n1 c1) := (cell_of_row W pb 1 _ _ _ h).trans rfl
  have h2 : W.cell? ⟨pb, 2, none⟩ = some (.slice a2 n2 c2) := (cell_of_row W pb 2 _ _ _ h).trans rfl
  have f0 := frozen_of_row W pb 0 _ _ h
  have f1 := frozen_of_row W pb 1 _ _ h
  have f2 := frozen_of_row W pb 2 _ _ h
  exact ⟨⟨by clear h1 h2 f1 f2; go_simp, Go.heap_setCell_same _ _ 0 _ _ _ h⟩, ⟨by clear h0 h2 f0 f2; go_simp, Go.heap_setCell_same _ _ 1 _ _ _ h⟩, ⟨by clear h1 h0 f1 f0; go_simp, Go.heap_setCell_same _ _ 2 _ _ _ h⟩⟩
theorem set_other {W : World} {b i : Nat} {v : Value} {j : Nat} (hj : j ≠ b) : (W.setCell ⟨b, i, none⟩ v).heap[j]? = W.heap[j]? := Below.heap_setCell _ _ _ _ hj
theorem set_size {W : World} {b i : Nat} {v : Value} : (W.setCell ⟨b, i, none⟩ v).heap.size = W.heap.size := by simp [World.setCell]
theorem set_bel {W : World} {b i : Nat} {v : Value} {base : Nat} (hb : base ≤ b) : Below base W (W.setCell ⟨b, i, none⟩ v) := ⟨rfl, rfl, rfl, by rw [set_size]; exact Nat.le_refl _, fun k hk => set_other (by omega)⟩
section
variable {W W' : World} {base pb : Nat} {kv xv : Value} {K X : List Int}
theorem PcB.npb (h : PcB W base pb kv xv K X) {v : Value} {L : List Int} (o : OwnZ W base v L) : v.ownBlock ≠ some pb := fun e => by
  obtain ⟨_, c, hc⟩ := o.ge pb e
  have := two_typesM hc h.cell
  revert this; decide
theorem PcB.ldk (h : PcB W base pb kv xv K X) : (Instr.loadAt 150 (.pointer (some ⟨pb, 0 + 0, none⟩))).run Tryz.prog W = .ok kv W := by
  obtain ⟨a, c, e, _⟩ := h.k.form
  have hc : W.cell? ⟨pb, 0, none⟩ = some (.slice a K.length c) := by rw [← e]; exact (cell_of_row W pb 0 _ _ _ h.cell).trans rfl
  rw [e]
  go_simp
theorem PcB.ldx (h : PcB W base pb kv xv K X) : (Instr.loadAt 150 (.pointer (some ⟨pb, 0 + 2, none⟩))).run Tryz.prog W = .ok xv W := by
  obtain ⟨a, c, e, _⟩ := h.x.form
  have hc : W.cell? ⟨pb, 2, none⟩ = some (.slice a X.length c) := by rw [← e]; exact (cell_of_row W pb 2 _ _ _ h.cell).trans rfl
  rw [e]
  go_simp
theorem PcB.below (h : PcB W base pb kv xv K X) (b : Below W.heap.size W W') : PcB W' base pb kv xv K X :=
  ⟨(b.block _ (Array.getElem?_eq_some_iff.1 h.cell).1).trans h.cell, h.k.below b, h.x.below b, h.d, h.b⟩
theorem PcB.putk (h : PcB W base pb kv xv K X) {W2 : World} {v2 : Value} {K2 : List Int} (o : OwnZ W2 base v2 K2) (t : Tch (fun j => kv.ownBlock = some j) W W2) (q : v2.ownBlock = kv.ownBlock ∨ ∀ j, v2.ownBlock = some j → W.heap.size ≤ j) (bw : base ≤ W.heap.size) : ∃ W3, (Instr.storeAt 150 (.pointer (some ⟨pb, 0 + 0, none⟩)) v2).run Tryz.prog W2 = .ok () W3 ∧ PcB W3 base pb v2 xv K2 X ∧ Below base W W3 ∧ KT pb W W3 := by
  have hlt := (Array.getElem?_eq_some_iff.1 h.cell).1
  have c2 := (t.block pb hlt (h.npb h.k)).trans h.cell
  obtain ⟨a0, d0, e0, _⟩ := h.k.form
  obtain ⟨ax, dx, ex, _⟩ := h.x.form
  obtain ⟨a, c, e, _⟩ := o.form
  have c2' := c2
  rw [e0, ex] at c2'
  obtain ⟨⟨es, hc⟩, _⟩ := st_pc (x0 := (a0, _, d0)) (x1 := (none, 0, 0)) (x2 := (ax, _, dx)) c2' a K2.length c
  have n2 : v2.ownBlock ≠ some pb := fun q => by
    obtain ⟨_, c3, hc3⟩ := o.ge pb q
    have := two_typesM hc3 c2
    revert this; decide
  have nx : xv.ownBlock ≠ some pb := h.npb h.x
  refine ⟨W2.setCell ⟨pb, 0, none⟩ (.slice a K2.length c), by rw [e]; exact es, ⟨by rw [e, ex]; exact hc, o.keep (fun j hj => set_other (fun q => n2 (by rw [← q]; exact hj))), h.x.keep (fun j hj => ?_), fun j hj hx => ?_, h.b⟩, (t.below bw (fun j hj => (h.k.ge j hj).1)).trans (set_bel h.b), (KT.tch h.k t).trans (fun j c t z hj _ hp => set_other hp)⟩
  · rw [set_other (fun q => nx (by rw [← q]; exact hj))]
    exact t.block j (h.x.lt hj) (fun q => h.d j q hj)
  · rcases q with q | q
    · exact h.d j (by rw [← q]; exact hj) hx
    · have := q j hj; have := h.x.lt hx; omega
theorem PcB.putx (h : PcB W base pb kv xv K X) {W2 : World} {v2 : Value} {X2 : List Int} (o : OwnZ W2 base v2 X2) (t : Tch (fun j => xv.ownBlock = some j) W W2) (q : v2.ownBlock = xv.ownBlock ∨ ∀ j, v2.ownBlock = some j → W.heap.size ≤ j) (bw : base ≤ W.heap.size) : ∃ W3, (Instr.storeAt 150 (.pointer (some ⟨pb, 0 + 2, none⟩)) v2).run Tryz.prog W2 = .ok () W3 ∧ PcB W3 base pb kv v2 K X2 ∧ Below base W W3 ∧ KT pb W W3 := by
  have hlt := (Array.getElem?_eq_some_iff.1 h.cell).1
  have c2 := (t.block pb hlt (h.npb h.x)).trans h.cell
  obtain ⟨a0, d0, e0, _⟩ := h.k.form
  obtain ⟨ax, dx, ex, _⟩ := h.x.form
  obtain ⟨a, c, e, _⟩ := o.form
  have c2' := c2
  rw [e0, ex] at c2'
  obtain ⟨_, _, ⟨es, hc⟩⟩ := st_pc (x0 := (a0, _, d0)) (x1 := (none, 0, 0)) (x2 := (ax, _, dx)) c2' a X2.length c
  have n2 : v2.ownBlock ≠ some pb := fun q => by
    obtain ⟨_, c3, hc3⟩ := o.ge pb q
    have := two_typesM hc3 c2
    revert this; decide
  have nk : kv.ownBlock ≠ some pb := h.npb h.k
  refine ⟨W2.setCell ⟨pb, 2, none⟩ (.slice a X2.length c), by rw [e]; exact es, ⟨by rw [e, e0]; exact hc, h.k.keep (fun j hj => ?_), o.keep (fun j hj => set_other (fun q => n2 (by rw [← q]; exact hj))), fun j hj hx => ?_, h.b⟩, (t.below bw (fun j hj => (h.x.ge j hj).1)).trans (set_bel h.b), (KT.tch h.x t).trans (fun j c t z hj _ hp => set_other hp)⟩
  · rw [set_other (fun q => nk (by rw [← q]; exact hj))]
    exact t.block j (h.k.lt hj) (fun q => h.d j hj q)
  · rcases q with q | q
    · exact h.d j hj (by rw [← q]; exact hx)
    · have := q j hx; have := h.k.lt hj; omega
theorem PcB.puth (h : PcB W base pb kv xv K X) {W2 : World} {v2 : Value} {H : List Int} (o : OwnZ W2 W.heap.size v2 H) (b : Below W.heap.size W W2) (bw : base ≤ W.heap.size) {Y : List Nat} (hY : X = zN Y) : ∃ W3, (Instr.storeAt 150 (.pointer (some ⟨pb, 0 + 1, none⟩)) v2).run Tryz.prog W2 = .ok () W3 ∧ PcAt W3 base pb ⟨kv, v2, xv⟩ K H Y ∧ Below base W W3 := by
  have h2 := h.below b
  obtain ⟨a0, d0, e0, _⟩ := h.k.form
  obtain ⟨ax, dx, ex, _⟩ := h.x.form
  obtain ⟨a, c, e, _⟩ := o.form
  have c2' := h2.cell
  rw [e0, ex] at c2'
  obtain ⟨_, ⟨es, hc⟩, _⟩ := st_pc (x0 := (a0, _, d0)) (x1 := (none, 0, 0)) (x2 := (ax, _, dx)) c2' a H.length c
  have n2 : v2.ownBlock ≠ some pb := fun q => by
    obtain ⟨_, c3, hc3⟩ := o.ge pb q
    have := two_typesM hc3 h2.cell
    revert this; decide
  have k3 : ∀ {v : Value} {L : List Int}, OwnZ W2 base v L → v.ownBlock ≠ some pb → OwnZ (W2.setCell ⟨pb, 1, none⟩ (.slice a H.length c)) base v L := fun q nq => q.keep (fun j hj => set_other (fun e => nq (by rw [← e]; exact hj)))
  refine ⟨W2.setCell ⟨pb, 1, none⟩ (.slice a H.length c), by rw [e]; exact es, ⟨by rw [e, e0, ex]; exact hc, k3 h2.k (h.npb h.k), k3 (o.mono bw) n2, hY ▸ k3 h2.x (h.npb h.x), fun j hj => ⟨fun q => ?_, h.d j hj⟩, fun j hj q => ?_, h.b⟩, (b.mono bw).trans (set_bel h.b)⟩
  · have := (o.ge j q).1; have := h.k.lt hj; omega
  · have := (o.ge j hj).1; have := h.x.lt q; omega
end
theorem PcB.keepk {W W' : World} {base pb : Nat} {kv xv : Value} {K X K2 : List Int} (h : PcB W base pb kv xv K X) (o : OwnZ W' base kv K2) (t : Tch (fun j => kv.ownBlock = some j) W W') : PcB W' base pb kv xv K2 X :=
  ⟨(t.block pb (Array.getElem?_eq_some_iff.1 h.cell).1 (h.npb h.k)).trans h.cell, o, h.x.keep (fun j hj => t.block j (h.x.lt hj) (fun q => h.d j q hj)), h.d, h.b⟩
theorem oz_one (w : World) (x : Int) : OwnZ (w.alloc (.cells #[.int .i64 x] 3)) w.heap.size (.slice (some ⟨w.heap.size, 0, none⟩) 1 1) [x] :=
  ⟨by simp, .inr ⟨w.heap.size, 1, #[.int .i64 x], rfl, Nat.le_refl _, heap_alloc_new _ _, by simp, by decide, by simp, rfl⟩⟩
theorem ld_pc0 {W : World} {pb : Nat} {kv hv xv : Value} (h : W.heap[pb]? = some (.cells #[kv, hv, xv] 152 (0, 0))) (hk : ∃ a n c, kv = .slice a n c) : (Instr.loadAt 150 (.pointer (some ⟨pb, 0 + 0, none⟩))).run Tryz.prog W = .ok kv W := by
  obtain ⟨a, n, c, rfl⟩ := hk
  have hc : W.cell? ⟨pb, 0, none⟩ = some (.slice a n c) := (cell_of_row W pb 0 _ _ _ h).trans rfl
  go_simp
theorem OwnZ.sl {w : World} {base : Nat} {v : Value} {L : List Int} (h : OwnZ w base v L) : ∃ a n c, v = .slice a n c := by
  obtain ⟨a, c, e, _⟩ := h.form
  exact ⟨a, _, c, e⟩
theorem PcB.ends {W : World} {base pb eb : Nat} {kv xv : Value} {K X : List Int} (h : PcB W base pb kv xv K X) (bw : base ≤ W.heap.size) (hn : K.length + 2 ≤ 2000000000000) {x : SpV} (hb : RSp.Bx W eb x) (he : base ≤ eb) :
    ∃ sv v2 w1 w2 w3, (Instr.buildSlice 150 2 #[(0, .int .i64 x.fr), (1, .int .i64 x.to)]).run Tryz.prog W.drew = .ok sv w1 ∧ (Builtin.append_ #[150, 150] 150 #[kv, sv]).run Tryz.prog w1 = .ok v2 w2 ∧ (Instr.storeAt 150 (.pointer (some ⟨pb, 0 + 0, none⟩)) v2).run Tryz.prog w2 = .ok () w3 ∧ PcB w3 base pb v2 xv (K ++ [x.fr, x.to]) X ∧ Below base W w3 ∧
      (w1.heap[pb]? = some (.cells #[kv, .slice none 0 0, xv] 152 (0, 0)) ∧ RSp.Bx w1 eb x) ∧ (w2.heap[pb]? = some (.cells #[kv, .slice none 0 0, xv] 152 (0, 0)) ∧ RSp.Bx w2 eb x) := by
  have h' : PcB W.drew base pb kv xv K X := h.below (Below.refl _ _).drew
  obtain ⟨sv, w1, v2, w2, e1, b1, e2, o2, t2, q2⟩ := h'.k.app bw [x.fr, x.to] (run_bsZ2 x.fr x.to W.drew) (by simpa using hn)
  obtain ⟨w3, e3, h3, b3, _⟩ := h'.putk o2 t2 q2 bw
  have hlt := (Array.getElem?_eq_some_iff.1 h'.cell).1
  have elt := (Array.getElem?_eq_some_iff.1 hb).1
  have ne : kv.ownBlock ≠ some eb := fun e => by
    obtain ⟨_, c, hc⟩ := h.k.ge eb e
    have := two_typesM hc hb
    revert this; decide
  exact ⟨sv, v2, w1, w2, w3, e1, e2, e3, h3, ⟨b3.os, b3.tape, b3.output, b3.size, b3.block⟩, ⟨(b1.block pb hlt).trans h'.cell, (b1.block eb elt).trans hb⟩, ⟨(t2.block pb hlt (h'.npb h'.k)).trans h'.cell, (t2.block eb elt ne).trans hb⟩⟩
def CuI (w : World) (pb : Nat) (L : List Int) (W : World) : Prop := ∃ kv, PcB W w.heap.size pb kv (.slice none 0 0) L [] ∧ Below w.heap.size w W
def CuX (w : World) (pb : Nat) (K : List Int) (i : Nat) (W : World) : Prop := ∃ kv xv, PcB W w.heap.size pb kv xv K (zN (List.range i)) ∧ Below w.heap.size w W
theorem endsL_snoc {C : List SpV} {i : Nat} {x : SpV} (hx : C[i]? = some x) : endsL (C.take (i + 1)) = endsL (C.take i) ++ [x.fr, x.to] := by
  unfold endsL
  rw [List.take_add_one, hx, List.flatMap_append]
  rfl
theorem zN_range (i : Nat) : zN (List.range (i + 1)) = zN (List.range i) ++ [(i : Int)] := by
  unfold zN
  rw [List.range_succ, List.map_append]
  rfl
set_option maxHeartbeats 8000000 in
theorem cutUp_any {w : World} {la : Option Addr} {lc : Nat} {C : List SpV} (hat : RSp.At w la C) (ok : ∀ x ∈ C, x.ok) (hlt : ∀ c ∈ C, c.fr < c.to) (hne : C ≠ []) (hn : C.length ≤ 900000000000) :
    Calls Tryz.prog 88 #[.slice la C.length lc] w fun e w' => ∃ pb, e = .returned (.pointer (some ⟨pb, 0, none⟩)) ∧ ∃ P, PcAt w' w.heap.size pb P (cutsL C) (List.replicate ((cutsL C).length - 1) (-1)) (List.range (cutsL C).length) ∧ Below w.heap.size w w' := by
  have k2 : 2 ≤ (cutsL C).length := by obtain ⟨c, hc⟩ := List.exists_mem_of_ne_nil C hne; exact cuts_two hc (hlt c hc)
  have kn := cuts_len C
  have b1 : Below w.heap.size w (w.alloc (.cells #[.slice none 0 0, .slice none 0 0, .slice none 0 0] 152)) := (Below.refl _ _).alloc (Nat.le_refl _) _
  have c1 := heap_alloc_new w (.cells #[.slice none 0 0, .slice none 0 0, .slice none 0 0] 152)
  have e1 : (Instr.box 152 pcZ).run Tryz.prog w = .ok (.pointer (some ⟨w.heap.size, 0, none⟩)) (w.alloc (.cells #[.slice none 0 0, .slice none 0 0, .slice none 0 0] 152)) := by kernel_rfl
  obtain ⟨w1, hw1⟩ : ∃ w1, w.alloc (.cells #[.slice none 0 0, .slice none 0 0, .slice none 0 0] 152) = w1 := ⟨_, rfl⟩
  rw [hw1] at b1 c1 e1
  have P1 : PcB w1 w.heap.size w.heap.size (.slice none 0 0) (.slice none 0 0) [] [] := ⟨c1, oz_nil _ _, oz_nil _ _, (fun j hj => by cases hj), Nat.le_refl _⟩
  have I0 := hidMk (show CuI w w.heap.size (endsL (C.take 0)) w1 from ⟨_, P1, b1⟩)
  have HAT := hidMk (fun (W : World) (b : Below w.heap.size w W) => hat.below b)
  have HOK := hidMk ok
  obtain ⟨n, hnn⟩ : ∃ n, C.length = n := ⟨_, rfl⟩
  rw [hnn] at hn ⊢
  have HN := hidMk (And.intro hn hnn)
  have HK := hidMk (And.intro k2 kn)
  have HNE := hidMk hne
  obtain ⟨pb, hpb⟩ : ∃ pb, w.heap.size = pb := ⟨_, rfl⟩
  have HPB := hidMk hpb
  rw [hpb] at e1
  rw [show CuI w w.heap.size = CuI w pb by rw [hpb]] at I0
  clear hat ok hlt hne hn hnn k2 kn b1 c1 hw1 P1 hpb
  go_enter Tryz.func88, Tryz.ntmps88
  go_upto_region 1 with fail
  refine cut1 (pb := pb) (w1 := w1) _ w _ rfl e1 ?_
  intro a' w3 hw ha
  obtain rfl : w1 = w3 := hw.symm
  subst ha
  simp only [Act.put, qsA, qsB, qsC]
  clear e1
  go_wp2
  go_loopw [11] (fun v11 wr => ∃ i : Nat, v11 = .int .i64 (i : Int) ∧ i ≤ n ∧ Hid (CuI w pb (endsL (C.take i)) wr)) (fun v11 _ => n - (intOf v11).toNat)
  case atStart => exact ⟨0, rfl, Nat.zero_le _, I0⟩
  case round =>
    clear I0
    obtain ⟨i, rfl, hi, HI⟩ := hrel
    by_cases h : i < n
    · have h' : (i : Int) < (n : Int) := by omega
      obtain ⟨kv, hp, bl⟩ := HI.out
      obtain ⟨x, hx⟩ : ∃ x, C[i]? = some x := ⟨_, List.getElem?_eq_getElem (by have := HN.out; omega)⟩
      have okx := HOK.out x (List.mem_of_getElem? hx)
      obtain ⟨g, o, rfl, _, hr⟩ := (HAT.out wr bl).get (i := i) (by have := HN.out; omega)
      have hr' : wr.rangeAt g (o + 7 * i) x.c := by
        have e : C[i]'(by have := HN.out; omega) = x := (List.getElem?_eq_some_iff.1 hx).2
        rw [e] at hr; exact hr
      have LX := RowT.ld RSp_is okx hr'
      have EA := RowT.bx_zero RSp_is wr
      have ES := RowT.bx_new RSp_is wr okx
      obtain ⟨hbx, hbl⟩ := RowT.bx_is RSp wr x
      have hp2 := hp.below hbl
      have en := endsL_snoc hx
      have bwr : w.heap.size ≤ wr.heap.size := bl.size
      have klen : (endsL (C.take i)).length + 2 ≤ 2000000000000 := by
        rw [endsL_len, List.length_take]
        have := HN.out
        omega
      obtain ⟨sv, v2, y1, y2, y3, f1, f2, f3, hp3, b3, s1, s2⟩ := hp2.ends (Nat.le_trans bwr hbl.size) klen hbx bwr
      have hks := hp2.k.sl
      have c0 := hp2.cell
      have NI := hidMk (show CuI w pb (endsL (C.take (i + 1))) y3 from ⟨v2, by rw [en]; exact hp3, (bl.trans (hbl.mono bwr)).trans b3⟩)
      have hm : n ≤ 9223372036854775807 := by have := HN.out; omega
      have MS : n - (((i + 1 : Nat) : Int)).toNat < n - ((i : Nat) : Int).toNat := by simp only [Int.toNat_natCast]; omega
      clear HI hp hp2 hp3 en klen bl hr hr' b3
      go_upto_region 4 with fail
      refine cut4 (g := g) (o := o) (n := n) (c := lc) (i := i) (eb := wr.heap.size) (x := x) _ wr _ rfl rfl rfl h hm LX EA ES ?_
      intro a' w3 hw ha
      subst ha
      rw [← hw] at f1 hbx c0
      obtain ⟨w4, hw4⟩ : ∃ w4, w3 = w4 := ⟨_, rfl⟩
      rw [hw4] at f1 hbx c0 ⊢
      simp only [Act.put, qsA, qsB, qsC]
      clear LX EA ES hbl hw hw4
      go_upto_region 5 with fail
      refine cut5 (pb := pb) (eb := wr.heap.size) (x := x) (kv := kv) (sv := sv) (v2 := v2) (w1 := y1) (w2 := y2) (w3 := y3) (fun W => W.heap[pb]? = some (.cells #[kv, .slice none 0 0, .slice none 0 0] 152 (0, 0)) ∧ RSp.Bx W wr.heap.size x) _ w4 _ rfl rfl rfl ⟨c0, hbx⟩ (fun W hS => ld_pc0 hS.1 hks) (fun W hS => sp_fr hS.2) (fun W hS => sp_to hS.2) f1 s1 f2 s2 f3 ?_
      intro a' w5 hw ha
      obtain rfl : y3 = w5 := hw.symm
      subst ha
      simp only [Act.put, qsA, qsB, qsC]
      clear f1 f2 f3 s1 s2 hbx c0 hks
      go_wp2
      rw [show ((i : Int) + 1) = ((i + 1 : Nat) : Int) by omega]
      exact ⟨⟨i + 1, rfl, h, NI⟩, MS⟩
    · have h' : ¬ ((i : Int) < (n : Int)) := by omega
      obtain rfl : i = n := by omega
      obtain ⟨kv, hp, bl⟩ := HI.out
      rw [List.take_of_length_le (by have := HN.out; omega)] at hp
      have zne : endsL C ≠ [] := fun e => by have := endsL_len C; rw [e] at this; have := HN.out; have := List.length_pos_iff.2 HNE.out; simp at *; omega
      have zlen : (endsL C).length ≤ 2000000000000 := by rw [endsL_len]; have := HN.out; omega
      have LK := hp.ldk
      have bw := bl.size
      have CS := hidMk ((hp.k.sort zne zlen).mono (fun e W q => (⟨q.1, hp.keepk q.2.1 q.2.2, bl.trans (q.2.2.below bw (fun j hj => (hp.k.ge j hj).1))⟩ : e = .returned (.tuple #[]) ∧ PcB W w.heap.size pb kv (.slice none 0 0) (srtZ (endsL C)) [] ∧ Below w.heap.size w W)))
      have ZL := hidMk (And.intro zne zlen)
      clear HI hp bl zne zlen bw
      go_upto_region 7 with fail
      refine cut7 (pb := pb) (kv := kv) _ _ wr _ rfl rfl LK CS.out ?_
      rintro a' w4 ⟨hp, bl⟩ ha
      subst ha
      simp only [Act.put, qsA, qsB, qsC]
      clear LK CS
      have LK := hp.ldk
      have bw := bl.size
      have zne : srtZ (endsL C) ≠ [] := fun e => by have := srtZ_len (endsL C); rw [e] at this; exact ZL.out.1 (List.eq_nil_of_length_eq_zero this.symm)
      have CS : Calls Tryz.prog 109 #[kv] w4 fun e w1 => ∃ u2, e = .returned u2 ∧ ∃ w2, (Instr.storeAt 150 (.pointer (some ⟨pb, 0 + 0, none⟩)) u2).run Tryz.prog w1 = .ok () w2 ∧ (PcB w2 w.heap.size pb u2 (.slice none 0 0) (cutsL C) [] ∧ Below w.heap.size w w2) := by
        refine (hp.k.compact zne (by rw [srtZ_len]; exact ZL.out.2)).mono ?_
        rintro e W ⟨v', rfl, o, q, t⟩
        obtain ⟨W3, es, hp3, b3, _⟩ := hp.putk o t (.inl q) bw
        exact ⟨v', rfl, W3, es, hp3, bl.trans b3⟩
      have CC := hidMk CS
      clear CS hp bl zne bw ZL
      go_upto_region 8 with fail
      refine cut8 (pb := pb) (kv := kv) (fun u2 W => PcB W w.heap.size pb u2 (.slice none 0 0) (cutsL C) [] ∧ Below w.heap.size w W) _ w4 _ rfl rfl LK CC.out ?_
      rintro u2 a' w5 ⟨hp, bl⟩ ha
      subst ha
      simp only [Act.put, qsA, qsB, qsC]
      clear LK CC
      obtain ⟨a2, c2, e2, _⟩ := hp.k.form
      have LK := hp.ldk
      obtain ⟨m, hmm⟩ : ∃ m, (cutsL C).length = m := ⟨_, rfl⟩
      rw [hmm] at e2 HK
      rw [e2] at LK
      have HM := hidMk hmm
      have hmb : m ≤ 2000000000000 := by have := HK.out; have := HN.out; omega
      have X0 := hidMk (show CuX w pb (cutsL C) 0 w5 from ⟨u2, _, hp, bl⟩)
      clear hp bl hmm e2
      go_upto_region 9 with fail
      refine cut9 (pb := pb) (n := m) (c := c2) (la := a2) _ w5 _ rfl rfl LK ?_
      intro a' w6 hw ha
      obtain rfl : w5 = w6 := hw.symm
      subst ha
      simp only [Act.put, qsA, qsB, qsC]
      clear LK
      go_wp2
      go_loopw [47] (fun v47 wr => ∃ j : Nat, v47 = .int .i64 (j : Int) ∧ j ≤ m ∧ Hid (CuX w pb (cutsL C) j wr)) (fun v47 _ => m - (intOf v47).toNat)
      case atStart => exact ⟨0, rfl, Nat.zero_le _, X0⟩
      case round =>
        clear X0
        obtain ⟨j, rfl, hj, HJ⟩ := hrel
        by_cases g : j < m
        · have g' : (j : Int) < (m : Int) := by omega
          obtain ⟨kv2, xv2, hp, bl⟩ := HJ.out
          have LX := hp.ldx
          have bw := bl.size
          obtain ⟨sv, y1, v2, y2, f1, b1, f2, o2, t2, q2⟩ := hp.x.app bw [(j : Int)] (run_bsZ1 (j : Int) _) (by rw [zN_len, List.length_range]; have := HK.out; have := HN.out; simp; omega)
          obtain ⟨y3, f3, hp3, b3, _⟩ := hp.putx o2 t2 q2 bw
          have NI := hidMk (show CuX w pb (cutsL C) (j + 1) y3 from ⟨kv2, v2, by rw [zN_range]; exact hp3, bl.trans b3⟩)
          have MS : m - (((j + 1 : Nat) : Int)).toNat < m - ((j : Nat) : Int).toNat := by simp only [Int.toNat_natCast]; omega
          clear HJ hp bl bw b1 o2 t2 q2 hp3 b3
          go_upto_region 12 with fail
          refine cut12 (pb := pb) (i := (j : Int)) (xv := xv2) (sv := sv) (v2 := v2) (w1 := y1) (w2 := y2) (w3 := y3) _ _ _ rfl rfl rfl LX f1 f2 f3 ?_
          intro a' w6 hw ha
          obtain rfl : y3 = w6 := hw.symm
          subst ha
          simp only [Act.put, qsA, qsB, qsC]
          clear LX f1 f2 f3
          go_wp2
          rw [show ((j : Int) + 1) = ((j + 1 : Nat) : Int) by omega]
          exact ⟨⟨j + 1, rfl, g, NI⟩, MS⟩
        · have g' : ¬ ((j : Int) < (m : Int)) := by omega
          obtain rfl : j = m := by omega
          obtain ⟨kv2, xv2, hp, bl⟩ := HJ.out
          have bw := bl.size
          have EB := run_bsZ1 (-1) wr
          have O1 := oz_one wr (-1)
          have b1 : Below wr.heap.size wr (wr.alloc (.cells #[.int .i64 (-1)] 3)) := (Below.refl _ _).alloc (Nat.le_refl _) _
          obtain ⟨y1, hy1⟩ : ∃ y1, wr.alloc (.cells #[.int .i64 (-1)] 3) = y1 := ⟨_, rfl⟩
          rw [hy1] at EB O1 b1
          have hp1 := hp.below b1
          obtain ⟨a3, c3, e3, _⟩ := hp1.k.form
          rw [HM.out] at e3
          have LK := hp1.ldk
          rw [e3] at LK
          have bl1 := bl.trans (b1.mono bw)
          have CR : Calls Tryz.prog 110 #[.slice (some ⟨wr.heap.size, 0, none⟩) 1 1, .int .i64 ((j - 1 : Nat) : Int)] y1 fun e w1 => ∃ u2, e = .returned u2 ∧ ∃ w2, (Instr.storeAt 150 (.pointer (some ⟨pb, 0 + 1, none⟩)) u2).run Tryz.prog w1 = .ok () w2 ∧ ∃ P, PcAt w2 w.heap.size pb P (cutsL C) (List.replicate (j - 1) (-1)) (List.range j) ∧ Below w.heap.size w w2 := by
            refine (repeat_any O1 (c := j - 1) (by have := HK.out; omega) (by have := HK.out; have := HN.out; omega)).mono ?_
            rintro e W ⟨v, rfl, o, b⟩
            obtain ⟨W3, es, hp3, b3⟩ := hp1.puth o b (Nat.le_trans bw b1.size) rfl
            exact ⟨v, rfl, W3, es, _, hp3, bl1.trans b3⟩
          have CC := hidMk CR
          have hsub : (j : Int) - 1 = ((j - 1 : Nat) : Int) := by have := HK.out; omega
          have hsb : -9223372036854775808 ≤ (j : Int) - 1 ∧ (j : Int) - 1 ≤ 9223372036854775807 := by have := HK.out; have := HN.out; omega
          have HS := hidMk hsub
          have HT := hidMk hsb
          clear HJ hp hp1 bl bl1 bw b1 O1 hy1 CR e3 hsub hsb
          obtain ⟨q, hq⟩ : ∃ q, j - 1 = q := ⟨_, rfl⟩
          rw [hq] at CC HS
          have HQ := hidMk hq
          clear hq
          go_upto_region 14 with fail
          refine cut14 (pb := pb) (n := j) (c := c3) (m := (q : Int)) (la := a3) (sv := .slice (some ⟨wr.heap.size, 0, none⟩) 1 1) (w1 := y1) (fun u2 W => ∃ P, PcAt W w.heap.size pb P (cutsL C) (List.replicate q (-1)) (List.range j) ∧ Below w.heap.size w W) _ _ _ rfl rfl HS.out HT.out EB LK CC.out ?_
          rintro u2 a' w6 hf ha
          have HF := hidMk hf
          subst ha
          simp only [Act.put, qsA, qsB, qsC]
          clear EB LK CC hf
          go_wp2
          go_ret
          refine ⟨pb, rfl, ?_⟩
          have := HF.out
          rw [← HQ.out, ← HM.out] at this
          obtain ⟨P, q1, q2⟩ := this
          exact ⟨⟨P, q1⟩, q2⟩
end Go.Proofs.YtifendlpeebofaaGreatDoor
namespace Go.Proofs.YtifendlpeebofaaGreatDoor
open Go.RowKit
/-! ### regions that draw, within a round of a range over a function -/
theorem wp_round {P : Program} {o : Oper} {a : Act} {w : World} {K : Act → World → Prop} {Q : Exit → Act → World → Prop} {l n : Nat} (hp : ∀ c, o.op ≠ .defer c) (h : o.wp P a w K Q) : Oper.wpIn (Fence.wide.inRound l) n P o a w K Q := by
  refine ⟨fun f _ => trivial, ?_⟩
  rw [Oper.semAt_plain _ _ _ hp]
  unfold Oper.wp at h
  generalize (execOp a.eval o).run P w = r at *
  cases r with
  | ok x w' =>
    cases x <;> simp only [Oper.upon, Oper.uponIn] at h ⊢
    case value v => exact h
    case skip => exact h
    case defer d => exact h
    case enter f args => exact ⟨fun q => (by cases q), CallsIn.inRound l (callsIn_wide.2 h)⟩
    case row r args => exact ⟨fun q => (by cases q), fun c cs _ => by
      obtain ⟨v, w2, hr, s⟩ := h c cs
      exact ⟨v, w2, hr, stepsIn_wide.2 s⟩⟩
  | halt x w' => cases x <;> simp only [Oper.upon, Oper.uponIn] at h ⊢ <;> exact h
def plainOp (o : Oper) : Bool := match o.op with | .defer _ => false | _ => true
theorem any_round {P : Program} {md : Region.Mode} {ops : Array Oper} {Q : Exit → Act → World → Prop} {l n : Nat} (hp : ∀ (i : Nat) (o : Oper), ops[i]? = some o → plainOp o = true) (hL : ¬ LetsOut Q) : ∀ (fuel : Nat) (listed : Array Bool) (a : Act) (w : World), wpAny P md ops Q fuel listed a w → wpAnyIn (Fence.wide.inRound l) n P md ops Q fuel listed a w
  | 0, _, _, _, h => h
  | fuel + 1, listed, a, w, h => ⟨h.1, fun i hi => by
    have h1 := h.2 i hi
    unfold wpOp at h1
    unfold wpOpIn
    cases ho : ops[i]? with
    | none => rw [ho] at h1; exact any_round hp hL fuel _ a w h1
    | some o =>
      rw [ho] at h1
      simp only at h1 ⊢
      have hpl : ∀ c, o.op ≠ .defer c := fun c e => by
        have := hp i o ho
        unfold plainOp at this
        rw [e] at this
        cases this
      split
      · next hw =>
        rw [if_pos hw] at h1
        rcases h1 with h1 | h1
        · exact Oper.wpIn_mono (fun a' w' q => any_round hp hL fuel _ a' w' q) (wp_round hpl h1)
        · exact absurd h1.2 hL
      · next hw =>
        rw [if_neg hw] at h1
        exact ⟨fun f _ => trivial, any_round hp hL fuel _ _ w h1⟩⟩
theorem plain_all {ops : Array Oper} (h : ops.all plainOp = true) : ∀ (i : Nat) (o : Oper), ops[i]? = some o → plainOp o = true := fun i o ho => by
  obtain ⟨hi, rfl⟩ := Array.getElem?_eq_some_iff.1 ho
  exact (Array.all_eq_true.1 h) i hi
theorem noPanic_out {Q : Exit → Act → World → Prop} (h : ¬ LetsOut Q) : ¬ LetsOut (NoPanic Q) := fun q => h (by
  obtain ⟨a, w, q⟩ := q
  exact ⟨a, w, q⟩)
theorem region_round {P : Program} {ops : Array Oper} {Q : Exit → Act → World → Prop} {a : Act} {w : World} {l n id : Nat} (hL : ¬ LetsOut Q) (hm : P.follows .mixedOrders = true) (hp : ops.all plainOp = true) (h : wpAny P .any ops (NoPanic Q) ops.size (Array.replicate ops.size false) a w.drew) : (Code.region id ops true).wpIn (Fence.wide.inRound l) n P Q a w :=
  Code.wpIn_mono NoPanic.imp (wpIn_region_any hm (any_round (plain_all hp) (noPanic_out hL) _ _ _ _ h))
theorem y0R {P : Program} {ops : Array Oper} {a : Act} {w : World} {Q : Exit → Act → World → Prop} {l n' : Nat} {id n : Nat} {rep : Array Bool} (hL : ¬ LetsOut Q) (S : World → Prop) (hS : S w.drew) (h : S w.drew → YL P .any ops Q S n rep a [] w.drew) (hn : ops.size = n := by rfl) (hr : Array.replicate n false = rep := by rfl) (hm : P.follows .mixedOrders = true := by kernel_rfl) (hp : ops.all plainOp = true := by kernel_rfl) : (Code.region id ops true).wpIn (Fence.wide.inRound l) n' P Q a w :=
  region_round hL hm hp (by rw [hn, hr]; exact wpAny_of_held _ _ _ _ (h hS).out)
end Go.Proofs.YtifendlpeebofaaGreatDoor
