import Derived.Test.YtldlljobofnmmaaDoorP0
import Derived.Test.YtldlljobofnmmaaDoorP3
set_option maxRecDepth 100000
set_option maxHeartbeats 4000000
namespace Go.Proofs.YtldlljobofnmmaaDoor
open Go.RowKit
set_option linter.unusedVariables false
set_option linter.unusedSimpArgs false
theorem fg_33_0 (b o : Nat) (w : World) : (Instr.fieldAt 33 (.pointer (some ⟨b, o, none⟩)) 0).run Tryd.prog w = .ok (.pointer (some ⟨b, o + 0, none⟩)) w := by go_simp
theorem fg_33_1 (b o : Nat) (w : World) : (Instr.fieldAt 33 (.pointer (some ⟨b, o, none⟩)) 1).run Tryd.prog w = .ok (.pointer (some ⟨b, o + 1, none⟩)) w := by go_simp
theorem fg_33_2 (b o : Nat) (w : World) : (Instr.fieldAt 33 (.pointer (some ⟨b, o, none⟩)) 2).run Tryd.prog w = .ok (.pointer (some ⟨b, o + 2, none⟩)) w := by go_simp
theorem fg_33_3 (b o : Nat) (w : World) : (Instr.fieldAt 33 (.pointer (some ⟨b, o, none⟩)) 3).run Tryd.prog w = .ok (.pointer (some ⟨b, o + 3, none⟩)) w := by go_simp
theorem ix_bkl {b o m c i : Nat} (hi : i < m) (hm : m ≤ 9223372036854775807) (W : World) : (Instr.indexAt 30 (.slice (some ⟨b, o, none⟩) m c) (.int .i64 (i : Int))).run Tryd.prog W = .ok (.pointer (some ⟨b, o + i, none⟩)) W := by go_simp
theorem ix_inl {b o m c i : Nat} (hi : i < m) (hm : m ≤ 9223372036854775807) (W : World) : (Instr.indexAt 31 (.slice (some ⟨b, o, none⟩) m c) (.int .i64 (i : Int))).run Tryd.prog W = .ok (.pointer (some ⟨b, o + i, none⟩)) W := by go_simp
theorem ex_gti {w : World} {a : Act} {o : Oper} {x y : Operand} {z : Int} {r : Bool} (hr : decide (z > 0) = r) (ho : o.op = .binOp .gtr 3 x y 3) (hx : a.eval x = .int .i64 z) (hy : a.eval y = .int .i64 0) : (execOp a.eval o).run Tryd.prog w = .ok (.value (.bool r)) w := by
  subst hr
  refine exec_binOp ho hx hy ?_ ?_
  · kernel_rfl
  · go_simp
theorem ex_eqi {w : World} {a : Act} {o : Oper} {x y : Operand} {z u : Int} {r : Bool} (hr : (z == u) = r) (ho : o.op = .binOp .eql 3 x y 3) (hx : a.eval x = .int .i64 z) (hy : a.eval y = .int .i64 u) : (execOp a.eval o).run Tryd.prog w = .ok (.value (.bool r)) w := by
  subst hr
  refine exec_binOp ho hx hy ?_ ?_
  · kernel_rfl
  · go_simp
def _root_.Go.Proofs.YtldlljobofnmmaaDoor.OpR.a (o : OpR) : Value := .agg o.c.toArray
def alk6_o0 : Oper := ⟨some 24, .move (.tmp 2), 22, "law.go:115", #[], none⟩
def alk6_o1 : Oper := ⟨some 25, .move (.tmp 7), 3, "law.go:115", #[], none⟩
def alk6_o2 : Oper := ⟨some 26, .call { callee := Callee.value (Operand.func 15), args := #[.tmp 24, .tmp 25], argTypes := #[22, 3] }, 52, "law.go:115", #[⟨0, .data⟩, ⟨1, .data⟩], none⟩
def alk6_o3 : Oper := ⟨some 8, .alloc 52, 0, "law.go:115", #[], none⟩
def alk6_o4 : Oper := ⟨none, .store 52 (.tmp 8) (.tmp 26), 0, "law.go:115", #[⟨3, .data⟩, ⟨2, .data⟩, ⟨2, .chain⟩, ⟨0, .phase⟩, ⟨1, .phase⟩, ⟨2, .phase⟩, ⟨3, .phase⟩], none⟩
def alk6_ops : Array Oper := #[alk6_o0, alk6_o1, alk6_o2, alk6_o3, alk6_o4]
theorem alk6 {m pn pc : Nat} {pa : Option Addr} {p : PlK} (Fin : Nat → World → Prop) (a : Act) (w : World) (Q : Exit → Act → World → Prop) (zz : a.tmps.size = 77)
    (t2 : a.tmps.getD 2 undef = .slice pa pn pc)
    (t7 : a.tmps.getD 7 undef = .int .i64 (m : Int))
    (CA : Calls Tryd.prog 15 #[.slice pa pn pc, .int .i64 (m : Int)] w fun e w' => e = .returned p.v ∧ ∃ pb w1 w2, (Instr.alloc 52 true (.tuple #[])).run Tryd.prog w' = .ok (.pointer (some ⟨pb, 0, none⟩)) w1 ∧ (Instr.storeAt 52 (.pointer (some ⟨pb, 0, none⟩)) p.v).run Tryd.prog w1 = .ok () w2 ∧ Fin pb w2)
    (h : ∀ (pb : Nat) (a' : Act) (w' : World), Fin pb w' → a' = ((((a).put (some 24) (.slice pa pn pc)).put (some 25) (.int .i64 (m : Int))).put (some 26) (p.v)).put (some 8) (.pointer (some ⟨pb, 0, none⟩)) → Q .normal a' w') :
    (Code.region 6 alk6_ops false).wp Tryd.prog Q a w := by
  refine z0 rfl ?_
  refine zv rfl (exec_move rfl (zi t2 rfl)) ?_
  refine zv rfl (exec_move rfl (zi t7 rfl)) ?_
  refine zc rfl (exec_c2 rfl (zg zz rfl) (zg zz rfl)) (CA) (fun e x2 hx => ?_)
  obtain ⟨rfl, pb, w1, w2, EA, ES, HF⟩ := hx
  replace h := h pb
  refine ⟨_, rfl, ?_⟩
  refine zv (v := .pointer (some ⟨pb, 0, none⟩)) rfl (exec_alloc rfl EA) ?_
  refine zs rfl (exec_store rfl (zg zz rfl) (zg zz rfl) ES) ?_
  exact ze rfl (h _ _ (HF) rfl)
def alk7_o0 : Oper := ⟨some 27, .move (.tmp 0), 26, "law.go:116", #[], none⟩
def alk7_o1 : Oper := ⟨some 28, .load 52 (.tmp 8), 52, "law.go:116", #[], none⟩
def alk7_o2 : Oper := ⟨some 29, .call { callee := Callee.value (Operand.func 20), args := #[.tmp 27, .tmp 28], argTypes := #[26, 52] }, 60, "law.go:116", #[⟨0, .data⟩, ⟨1, .data⟩], none⟩
def alk7_o3 : Oper := ⟨some 30, .move (.tmp 1), 28, "law.go:116", #[], none⟩
def alk7_o4 : Oper := ⟨some 31, .load 52 (.tmp 8), 52, "law.go:116", #[], none⟩
def alk7_o5 : Oper := ⟨some 32, .call { callee := Callee.value (Operand.func 40), args := #[.tmp 30, .tmp 31], argTypes := #[28, 52] }, 60, "law.go:116", #[⟨3, .data⟩, ⟨4, .data⟩, ⟨2, .chain⟩], none⟩
def alk7_o6 : Oper := ⟨some 33, .call { callee := Callee.value (Operand.func 30), args := #[.tmp 29, .tmp 32], argTypes := #[60, 60] }, 4, "law.go:116", #[⟨2, .data⟩, ⟨5, .data⟩, ⟨5, .chain⟩], none⟩
def alk7_o7 : Oper := ⟨some 34, .unOp UnOp.not 4 (.tmp 33), 4, "law.go:116", #[⟨6, .data⟩], none⟩
def alk7_o8 : Oper := ⟨some 35, .move (.tmp 34), 4, "law.go:116", #[⟨7, .data⟩, ⟨6, .chain⟩], none⟩
def alk7_o9 : Oper := ⟨some 36, .move (.tmp 0), 26, "law.go:116", #[⟨8, .guard⟩], some (8, false)⟩
def alk7_o10 : Oper := ⟨some 37, .fieldAddr 52 (.tmp 8) 0, 0, "law.go:116", #[⟨8, .guard⟩], some (8, false)⟩
def alk7_o11 : Oper := ⟨some 38, .load 38 (.tmp 37), 38, "law.go:116", #[⟨10, .data⟩, ⟨8, .guard⟩], some (8, false)⟩
def alk7_o12 : Oper := ⟨some 39, .call { callee := Callee.value (Operand.func 23), args := #[.tmp 36, .tmp 38], argTypes := #[26, 38] }, 67, "law.go:116", #[⟨9, .data⟩, ⟨11, .data⟩, ⟨8, .chain⟩, ⟨8, .guard⟩], some (8, false)⟩
def alk7_o13 : Oper := ⟨some 40, .move (.tmp 1), 28, "law.go:116", #[⟨8, .guard⟩], some (8, false)⟩
def alk7_o14 : Oper := ⟨some 41, .fieldAddr 52 (.tmp 8) 0, 0, "law.go:116", #[⟨8, .guard⟩], some (8, false)⟩
def alk7_o15 : Oper := ⟨some 42, .load 38 (.tmp 41), 38, "law.go:116", #[⟨14, .data⟩, ⟨8, .guard⟩], some (8, false)⟩
def alk7_o16 : Oper := ⟨some 43, .call { callee := Callee.value (Operand.func 42), args := #[.tmp 40, .tmp 42], argTypes := #[28, 38] }, 67, "law.go:116", #[⟨13, .data⟩, ⟨15, .data⟩, ⟨12, .chain⟩, ⟨8, .guard⟩], some (8, false)⟩
def alk7_o17 : Oper := ⟨some 44, .call { callee := Callee.value (Operand.func 41), args := #[.tmp 39, .tmp 43], argTypes := #[67, 67] }, 4, "law.go:116", #[⟨12, .data⟩, ⟨16, .data⟩, ⟨16, .chain⟩, ⟨8, .guard⟩], some (8, false)⟩
def alk7_o18 : Oper := ⟨some 45, .unOp UnOp.not 4 (.tmp 44), 4, "law.go:116", #[⟨17, .data⟩, ⟨8, .guard⟩], some (8, false)⟩
def alk7_o19 : Oper := ⟨some 46, .pick (.tmp 35) (Operand.const (Value.bool true)) (.tmp 45), 4, "law.go:116", #[⟨8, .data⟩, ⟨18, .data⟩], none⟩
def alk7_ops : Array Oper := #[alk7_o0, alk7_o1, alk7_o2, alk7_o3, alk7_o4, alk7_o5, alk7_o6, alk7_o7, alk7_o8, alk7_o9, alk7_o10, alk7_o11, alk7_o12, alk7_o13, alk7_o14, alk7_o15, alk7_o16, alk7_o17, alk7_o18, alk7_o19]
theorem alk7 {rb d pb : Nat} {p : PlK} (S : World → Prop) (a : Act) (w : World) (Q : Exit → Act → World → Prop) (zz : a.tmps.size = 77)
    (t0 : a.tmps.getD 0 undef = .pointer (some ⟨rb, 0, none⟩))
    (t1 : a.tmps.getD 1 undef = .pointer (some ⟨d, 0, none⟩))
    (t8 : a.tmps.getD 8 undef = .pointer (some ⟨pb, 0, none⟩))
    (h0 : S w.drew) (LP : ∀ W, S W → (Instr.loadAt 52 (.pointer (some ⟨pb, 0, none⟩))).run Tryd.prog W = .ok (p.v) W) (LO : ∀ W, S W → (Instr.loadAt 38 (.pointer (some ⟨pb, 0 + 0, none⟩))).run Tryd.prog W = .ok (p.o.v) W) (C1 : Calls Tryd.prog 20 #[.pointer (some ⟨rb, 0, none⟩), p.v] w.drew fun e w1 => ∃ u1, e = .returned u1 ∧ S w1 ∧ Calls Tryd.prog 40 #[.pointer (some ⟨d, 0, none⟩), p.v] w1 fun e w2 => ∃ u2, e = .returned u2 ∧ S w2 ∧ Calls Tryd.prog 30 #[u1, u2] w2 fun e w3 => e = .returned (.bool true) ∧ S w3 ∧ Calls Tryd.prog 23 #[.pointer (some ⟨rb, 0, none⟩), p.o.v] w3 fun e w4 => ∃ u4, e = .returned u4 ∧ S w4 ∧ Calls Tryd.prog 42 #[.pointer (some ⟨d, 0, none⟩), p.o.v] w4 fun e w5 => ∃ u5, e = .returned u5 ∧ S w5 ∧ Calls Tryd.prog 41 #[u4, u5] w5 fun e w6 => e = .returned (.bool true) ∧ S w6)
    (h : ∀ (u1 u2 u4 u5 : Value) (a' : Act) (w' : World), S w' → a' = ((((((((((((((((((((a).put (some 27) (.pointer (some ⟨rb, 0, none⟩))).put (some 28) (p.v)).put (some 30) (.pointer (some ⟨d, 0, none⟩))).put (some 31) (p.v)).put (some 29) (u1)).put (some 32) (u2)).put (some 33) (.bool true)).put (some 34) (.bool false)).put (some 35) (.bool false)).put (some 36) (.pointer (some ⟨rb, 0, none⟩))).put (some 37) (.pointer (some ⟨pb, 0 + 0, none⟩))).put (some 38) (p.o.v)).put (some 40) (.pointer (some ⟨d, 0, none⟩))).put (some 41) (.pointer (some ⟨pb, 0 + 0, none⟩))).put (some 42) (p.o.v)).put (some 39) (u4)).put (some 43) (u5)).put (some 44) (.bool true)).put (some 45) (.bool false)).put (some 46) (.bool false) → Q .normal a' w') :
    (Code.region 7 alk7_ops true).wp Tryd.prog Q a w := by
  refine y0 (fun w' => S w') (h0) (fun hHeld => ?_)
  refine yv 0 rfl rfl (fun w1 hw => exec_move rfl (zi t0 rfl)) hHeld ?_
  refine yv 1 rfl rfl (fun w1 hw => exec_load rfl (zi t8 rfl) (LP _ hw)) hHeld ?_
  refine yv 3 rfl rfl (fun w1 hw => exec_move rfl (zi t1 rfl)) hHeld ?_
  refine yv 4 rfl rfl (fun w1 hw => exec_load rfl (zi t8 rfl) (LP _ hw)) hHeld ?_
  refine yc 2 rfl rfl (exec_c2 rfl (zg zz rfl) (zg zz rfl)) (C1) (fun e x2 hx => ?_)
  obtain ⟨u1, rfl, S1, C2⟩ := hx
  replace h := h u1
  refine ⟨_, rfl, S1, fun hHeld => ?_⟩
  refine yc 5 rfl rfl (exec_c2 rfl (zg zz rfl) (zg zz rfl)) (C2) (fun e x5 hx => ?_)
  obtain ⟨u2, rfl, S2, C3⟩ := hx
  replace h := h u2
  refine ⟨_, rfl, S2, fun hHeld => ?_⟩
  refine yc 6 rfl rfl (exec_c2 rfl (zg zz rfl) (zg zz rfl)) (C3) (fun e x6 hx => ?_)
  obtain ⟨rfl, S3, C4⟩ := hx
  refine ⟨_, rfl, S3, fun hHeld => ?_⟩
  refine yv 7 rfl rfl (fun w1 hw => exec_not rfl (zg zz rfl)) hHeld ?_
  refine yv 8 rfl rfl (fun w1 hw => exec_move rfl (zg zz rfl)) hHeld ?_
  refine yv 9 rfl (zw zz rfl rfl rfl (zg zz rfl)) (fun w1 hw => exec_move rfl (zi t0 rfl)) hHeld ?_
  refine yv 10 rfl (zw zz rfl rfl rfl (zg zz rfl)) (fun w1 hw => exec_fieldAt rfl (zi t8 rfl) (fg_52_0 _ _ _)) hHeld ?_
  refine yv 11 rfl (zw zz rfl rfl rfl (zg zz rfl)) (fun w1 hw => exec_load rfl (zg zz rfl) (LO _ hw)) hHeld ?_
  refine yv 13 rfl (zw zz rfl rfl rfl (zg zz rfl)) (fun w1 hw => exec_move rfl (zi t1 rfl)) hHeld ?_
  refine yv 14 rfl (zw zz rfl rfl rfl (zg zz rfl)) (fun w1 hw => exec_fieldAt rfl (zi t8 rfl) (fg_52_0 _ _ _)) hHeld ?_
  refine yv 15 rfl (zw zz rfl rfl rfl (zg zz rfl)) (fun w1 hw => exec_load rfl (zg zz rfl) (LO _ hw)) hHeld ?_
  refine yc 12 rfl (zw zz rfl rfl rfl (zg zz rfl)) (exec_c2 rfl (zg zz rfl) (zg zz rfl)) (C4) (fun e x12 hx => ?_)
  obtain ⟨u4, rfl, S4, C5⟩ := hx
  replace h := h u4
  refine ⟨_, rfl, S4, fun hHeld => ?_⟩
  refine yc 16 rfl (zw zz rfl rfl rfl (zg zz rfl)) (exec_c2 rfl (zg zz rfl) (zg zz rfl)) (C5) (fun e x16 hx => ?_)
  obtain ⟨u5, rfl, S5, C6⟩ := hx
  replace h := h u5
  refine ⟨_, rfl, S5, fun hHeld => ?_⟩
  refine yc 17 rfl (zw zz rfl rfl rfl (zg zz rfl)) (exec_c2 rfl (zg zz rfl) (zg zz rfl)) (C6) (fun e x17 hx => ?_)
  obtain ⟨rfl, S6⟩ := hx
  refine ⟨_, rfl, S6, fun hHeld => ?_⟩
  refine yv 18 rfl (zw zz rfl rfl rfl (zg zz rfl)) (fun w1 hw => exec_not rfl (zg zz rfl)) hHeld ?_
  refine yv 19 rfl rfl (fun w1 hw => exec_pickF rfl (zg zz rfl) (zg zz rfl)) hHeld ?_
  exact ye rfl (h _ _ (S6) rfl)
def alk9_o0 : Oper := ⟨some 48, .move (.tmp 0), 26, "law.go:119", #[], none⟩
def alk9_o1 : Oper := ⟨some 49, .load 52 (.tmp 8), 52, "law.go:119", #[], none⟩
def alk9_o2 : Oper := ⟨some 50, .call { callee := Callee.value (Operand.func 21), args := #[.tmp 48, .tmp 49], argTypes := #[26, 52] }, 64, "law.go:119", #[⟨0, .data⟩, ⟨1, .data⟩], none⟩
def alk9_o3 : Oper := ⟨some 47, .move (.tmp 50), 64, "law.go:119", #[⟨2, .data⟩], none⟩
def alk9_o4 : Oper := ⟨some 51, .extract (.tmp 47) 0, 63, "law.go:119", #[⟨3, .data⟩], none⟩
def alk9_o5 : Oper := ⟨some 52, .extract (.tmp 47) 1, 4, "law.go:119", #[⟨3, .data⟩, { on := 7, ground := Ground.gcOnly Departure.lateStores }], none⟩
def alk9_o6 : Oper := ⟨some 9, .alloc 63, 0, "law.go:119", #[], none⟩
def alk9_o7 : Oper := ⟨none, .store 63 (.tmp 9) (.tmp 51), 0, "law.go:119", #[⟨6, .data⟩, ⟨4, .data⟩, ⟨2, .chain⟩, ⟨0, .phase⟩, ⟨1, .phase⟩, ⟨2, .phase⟩, ⟨3, .phase⟩, ⟨4, .phase⟩, { on := 5, ground := Ground.textOnly Departure.lateStores }, ⟨6, .phase⟩], none⟩
def alk9_o8 : Oper := ⟨some 10, .assign (.tmp 52), 4, "law.go:119", #[⟨5, .data⟩, ⟨7, .chain⟩, ⟨0, .phase⟩, ⟨1, .phase⟩, ⟨2, .phase⟩, ⟨3, .phase⟩, ⟨4, .phase⟩, ⟨5, .phase⟩, ⟨6, .phase⟩, ⟨7, .phase⟩], none⟩
def alk9_ops : Array Oper := #[alk9_o0, alk9_o1, alk9_o2, alk9_o3, alk9_o4, alk9_o5, alk9_o6, alk9_o7, alk9_o8]
theorem alk9 {rb pb : Nat} {p : PlK} {x : EnV} {r : Bool} (Fin : Nat → World → Prop) (a : Act) (w : World) (Q : Exit → Act → World → Prop) (zz : a.tmps.size = 77)
    (t0 : a.tmps.getD 0 undef = .pointer (some ⟨rb, 0, none⟩))
    (t8 : a.tmps.getD 8 undef = .pointer (some ⟨pb, 0, none⟩))
    (LP : ∀ W, W = w → (Instr.loadAt 52 (.pointer (some ⟨pb, 0, none⟩))).run Tryd.prog W = .ok (p.v) W) (CT : Calls Tryd.prog 21 #[.pointer (some ⟨rb, 0, none⟩), p.v] w fun e w' => e = .returned (.tuple #[x.a, .bool r]) ∧ ∃ eb w1 w2, (Instr.alloc 63 true (.tuple #[])).run Tryd.prog w' = .ok (.pointer (some ⟨eb, 0, none⟩)) w1 ∧ (Instr.storeAt 63 (.pointer (some ⟨eb, 0, none⟩)) x.a).run Tryd.prog w1 = .ok () w2 ∧ Fin eb w2)
    (h : ∀ (eb : Nat) (a' : Act) (w' : World), Fin eb w' → a' = ((((((((a).put (some 48) (.pointer (some ⟨rb, 0, none⟩))).put (some 49) (p.v)).put (some 50) (.tuple #[x.a, .bool r])).put (some 47) (.tuple #[x.a, .bool r])).put (some 51) (x.a)).put (some 52) (.bool r)).put (some 9) (.pointer (some ⟨eb, 0, none⟩))).put (some 10) (.bool r) → Q .normal a' w') :
    (Code.region 9 alk9_ops false).wp Tryd.prog Q a w := by
  refine z0 rfl ?_
  refine zv rfl (exec_move rfl (zi t0 rfl)) ?_
  refine zv rfl (exec_load rfl (zi t8 rfl) (LP _ rfl)) ?_
  refine zc rfl (exec_c2 rfl (zg zz rfl) (zg zz rfl)) (CT) (fun e x2 hx => ?_)
  obtain ⟨rfl, eb, w1, w2, EA, ES, HF⟩ := hx
  replace h := h eb
  refine ⟨_, rfl, ?_⟩
  refine zv rfl (exec_move rfl (zg zz rfl)) ?_
  refine zv rfl (exec_extract rfl (zg zz rfl) rfl) ?_
  refine zv rfl (exec_extract rfl (zg zz rfl) rfl) ?_
  refine zv (v := .pointer (some ⟨eb, 0, none⟩)) rfl (exec_alloc rfl EA) ?_
  refine zs rfl (exec_store rfl (zg zz rfl) (zg zz rfl) ES) ?_
  refine zv rfl (exec_assign rfl (zg zz rfl)) ?_
  exact ze rfl (h _ _ (HF) rfl)
def alk10_o0 : Oper := ⟨some 54, .move (.tmp 1), 28, "law.go:120", #[], none⟩
def alk10_o1 : Oper := ⟨some 55, .load 52 (.tmp 8), 52, "law.go:120", #[], none⟩
def alk10_o2 : Oper := ⟨some 56, .call { callee := Callee.value (Operand.func 43), args := #[.tmp 54, .tmp 55], argTypes := #[28, 52] }, 64, "law.go:120", #[⟨0, .data⟩, ⟨1, .data⟩], none⟩
def alk10_o3 : Oper := ⟨some 53, .move (.tmp 56), 64, "law.go:120", #[⟨2, .data⟩], none⟩
def alk10_o4 : Oper := ⟨some 57, .extract (.tmp 53) 0, 63, "law.go:120", #[⟨3, .data⟩], none⟩
def alk10_o5 : Oper := ⟨some 58, .extract (.tmp 53) 1, 4, "law.go:120", #[⟨3, .data⟩, { on := 7, ground := Ground.gcOnly Departure.lateStores }], none⟩
def alk10_o6 : Oper := ⟨some 11, .alloc 63, 0, "law.go:120", #[], none⟩
def alk10_o7 : Oper := ⟨none, .store 63 (.tmp 11) (.tmp 57), 0, "law.go:120", #[⟨6, .data⟩, ⟨4, .data⟩, ⟨2, .chain⟩, ⟨0, .phase⟩, ⟨1, .phase⟩, ⟨2, .phase⟩, ⟨3, .phase⟩, ⟨4, .phase⟩, { on := 5, ground := Ground.textOnly Departure.lateStores }, ⟨6, .phase⟩], none⟩
def alk10_o8 : Oper := ⟨some 12, .assign (.tmp 58), 4, "law.go:120", #[⟨5, .data⟩, ⟨7, .chain⟩, ⟨0, .phase⟩, ⟨1, .phase⟩, ⟨2, .phase⟩, ⟨3, .phase⟩, ⟨4, .phase⟩, ⟨5, .phase⟩, ⟨6, .phase⟩, ⟨7, .phase⟩], none⟩
def alk10_ops : Array Oper := #[alk10_o0, alk10_o1, alk10_o2, alk10_o3, alk10_o4, alk10_o5, alk10_o6, alk10_o7, alk10_o8]
theorem alk10 {rb pb : Nat} {p : PlK} {x : EnV} {r : Bool} (Fin : Nat → World → Prop) (a : Act) (w : World) (Q : Exit → Act → World → Prop) (zz : a.tmps.size = 77)
    (t1 : a.tmps.getD 1 undef = .pointer (some ⟨rb, 0, none⟩))
    (t8 : a.tmps.getD 8 undef = .pointer (some ⟨pb, 0, none⟩))
    (LP : ∀ W, W = w → (Instr.loadAt 52 (.pointer (some ⟨pb, 0, none⟩))).run Tryd.prog W = .ok (p.v) W) (CT : Calls Tryd.prog 43 #[.pointer (some ⟨rb, 0, none⟩), p.v] w fun e w' => e = .returned (.tuple #[x.a, .bool r]) ∧ ∃ eb w1 w2, (Instr.alloc 63 true (.tuple #[])).run Tryd.prog w' = .ok (.pointer (some ⟨eb, 0, none⟩)) w1 ∧ (Instr.storeAt 63 (.pointer (some ⟨eb, 0, none⟩)) x.a).run Tryd.prog w1 = .ok () w2 ∧ Fin eb w2)
    (h : ∀ (eb : Nat) (a' : Act) (w' : World), Fin eb w' → a' = ((((((((a).put (some 54) (.pointer (some ⟨rb, 0, none⟩))).put (some 55) (p.v)).put (some 56) (.tuple #[x.a, .bool r])).put (some 53) (.tuple #[x.a, .bool r])).put (some 57) (x.a)).put (some 58) (.bool r)).put (some 11) (.pointer (some ⟨eb, 0, none⟩))).put (some 12) (.bool r) → Q .normal a' w') :
    (Code.region 10 alk10_ops false).wp Tryd.prog Q a w := by
  refine z0 rfl ?_
  refine zv rfl (exec_move rfl (zi t1 rfl)) ?_
  refine zv rfl (exec_load rfl (zi t8 rfl) (LP _ rfl)) ?_
  refine zc rfl (exec_c2 rfl (zg zz rfl) (zg zz rfl)) (CT) (fun e x2 hx => ?_)
  obtain ⟨rfl, eb, w1, w2, EA, ES, HF⟩ := hx
  replace h := h eb
  refine ⟨_, rfl, ?_⟩
  refine zv rfl (exec_move rfl (zg zz rfl)) ?_
  refine zv rfl (exec_extract rfl (zg zz rfl) rfl) ?_
  refine zv rfl (exec_extract rfl (zg zz rfl) rfl) ?_
  refine zv (v := .pointer (some ⟨eb, 0, none⟩)) rfl (exec_alloc rfl EA) ?_
  refine zs rfl (exec_store rfl (zg zz rfl) (zg zz rfl) ES) ?_
  refine zv rfl (exec_assign rfl (zg zz rfl)) ?_
  exact ze rfl (h _ _ (HF) rfl)
def alk11_o0 : Oper := ⟨some 59, .move (.tmp 10), 4, "law.go:121", #[], none⟩
def alk11_o1 : Oper := ⟨some 60, .move (.tmp 12), 4, "law.go:121", #[], none⟩
def alk11_o2 : Oper := ⟨some 61, .binOp BinOp.neq 4 (.tmp 59) (.tmp 60) 4, 4, "law.go:121", #[⟨0, .data⟩, ⟨1, .data⟩], none⟩
def alk11_o3 : Oper := ⟨some 62, .move (.tmp 61), 4, "law.go:121", #[⟨2, .data⟩], none⟩
def alk11_o4 : Oper := ⟨some 63, .fieldAddr 63 (.tmp 9) 0, 0, "law.go:121", #[⟨3, .guard⟩], some (3, false)⟩
def alk11_o5 : Oper := ⟨some 64, .load 38 (.tmp 63), 38, "law.go:121", #[⟨4, .data⟩, ⟨3, .guard⟩], some (3, false)⟩
def alk11_o6 : Oper := ⟨some 65, .fieldAddr 63 (.tmp 11) 0, 0, "law.go:121", #[⟨3, .guard⟩], some (3, false)⟩
def alk11_o7 : Oper := ⟨some 66, .load 38 (.tmp 65), 38, "law.go:121", #[⟨6, .data⟩, ⟨3, .guard⟩], some (3, false)⟩
def alk11_o8 : Oper := ⟨some 67, .binOp BinOp.neq 38 (.tmp 64) (.tmp 66) 38, 4, "law.go:121", #[⟨5, .data⟩, ⟨7, .data⟩, ⟨3, .guard⟩], some (3, false)⟩
def alk11_o9 : Oper := ⟨some 68, .pick (.tmp 62) (Operand.const (Value.bool true)) (.tmp 67), 4, "law.go:121", #[⟨3, .data⟩, ⟨8, .data⟩], none⟩
def alk11_o10 : Oper := ⟨some 69, .move (.tmp 68), 4, "law.go:121", #[⟨9, .data⟩, ⟨3, .chain⟩], none⟩
def alk11_o11 : Oper := ⟨some 70, .fieldAddr 63 (.tmp 9) 1, 0, "law.go:121", #[⟨10, .guard⟩], some (10, false)⟩
def alk11_o12 : Oper := ⟨some 71, .load 42 (.tmp 70), 42, "law.go:121", #[⟨11, .data⟩, ⟨10, .guard⟩], some (10, false)⟩
def alk11_o13 : Oper := ⟨some 72, .fieldAddr 63 (.tmp 11) 1, 0, "law.go:121", #[⟨10, .guard⟩], some (10, false)⟩
def alk11_o14 : Oper := ⟨some 73, .load 42 (.tmp 72), 42, "law.go:121", #[⟨13, .data⟩, ⟨10, .guard⟩], some (10, false)⟩
def alk11_o15 : Oper := ⟨some 74, .call { callee := Callee.value (Operand.func 22), args := #[.tmp 71, .tmp 73], argTypes := #[42, 42] }, 4, "law.go:121", #[⟨12, .data⟩, ⟨14, .data⟩, ⟨10, .chain⟩, ⟨10, .guard⟩], some (10, false)⟩
def alk11_o16 : Oper := ⟨some 75, .unOp UnOp.not 4 (.tmp 74), 4, "law.go:121", #[⟨15, .data⟩, ⟨10, .guard⟩], some (10, false)⟩
def alk11_o17 : Oper := ⟨some 76, .pick (.tmp 69) (Operand.const (Value.bool true)) (.tmp 75), 4, "law.go:121", #[⟨10, .data⟩, ⟨16, .data⟩], none⟩
def alk11_ops : Array Oper := #[alk11_o0, alk11_o1, alk11_o2, alk11_o3, alk11_o4, alk11_o5, alk11_o6, alk11_o7, alk11_o8, alk11_o9, alk11_o10, alk11_o11, alk11_o12, alk11_o13, alk11_o14, alk11_o15, alk11_o16, alk11_o17]
theorem alk11 {eb fb : Nat} {r : Bool} {x : EnV} (Fin : World → Prop) (a : Act) (w : World) (Q : Exit → Act → World → Prop) (zz : a.tmps.size = 77)
    (t9 : a.tmps.getD 9 undef = .pointer (some ⟨eb, 0, none⟩))
    (t10 : a.tmps.getD 10 undef = .bool r)
    (t11 : a.tmps.getD 11 undef = .pointer (some ⟨fb, 0, none⟩))
    (t12 : a.tmps.getD 12 undef = .bool r)
    (hx : x.id.ok) (L1 : ∀ W, W = w → (Instr.loadAt 38 (.pointer (some ⟨eb, 0 + 0, none⟩))).run Tryd.prog W = .ok (x.id.v) W) (L2 : ∀ W, W = w → (Instr.loadAt 38 (.pointer (some ⟨fb, 0 + 0, none⟩))).run Tryd.prog W = .ok (x.id.v) W) (L3 : ∀ W, W = w → (Instr.loadAt 42 (.pointer (some ⟨eb, 0 + 33, none⟩))).run Tryd.prog W = .ok (x.v.v) W) (L4 : ∀ W, W = w → (Instr.loadAt 42 (.pointer (some ⟨fb, 0 + 33, none⟩))).run Tryd.prog W = .ok (x.v.v) W) (CS : Calls Tryd.prog 22 #[x.v.v, x.v.v] w fun e w' => e = .returned (.bool true) ∧ Fin w')
    (h : ∀ (a' : Act) (w' : World), Fin w' → a' = ((((((((((((((((((a).put (some 59) (.bool r)).put (some 60) (.bool r)).put (some 61) (.bool false)).put (some 62) (.bool false)).put (some 63) (.pointer (some ⟨eb, 0 + 0, none⟩))).put (some 64) (x.id.v)).put (some 65) (.pointer (some ⟨fb, 0 + 0, none⟩))).put (some 66) (x.id.v)).put (some 67) (.bool false)).put (some 68) (.bool false)).put (some 69) (.bool false)).put (some 70) (.pointer (some ⟨eb, 0 + 33, none⟩))).put (some 71) (x.v.v)).put (some 72) (.pointer (some ⟨fb, 0 + 33, none⟩))).put (some 73) (x.v.v)).put (some 74) (.bool true)).put (some 75) (.bool false)).put (some 76) (.bool false) → Q .normal a' w') :
    (Code.region 11 alk11_ops false).wp Tryd.prog Q a w := by
  refine z0 rfl ?_
  refine zv rfl (exec_move rfl (zi t10 rfl)) ?_
  refine zv rfl (exec_move rfl (zi t12 rfl)) ?_
  refine zv (v := .bool false) rfl (ex_neb rfl (zg zz rfl) (zg zz rfl)) ?_
  refine zv rfl (exec_move rfl (zg zz rfl)) ?_
  refine zv (zw zz rfl rfl rfl (zg zz rfl)) (exec_fieldAt rfl (zi t9 rfl) (fg_63_0 _ _ _)) ?_
  refine zv (zw zz rfl rfl rfl (zg zz rfl)) (exec_load rfl (zg zz rfl) (L1 _ rfl)) ?_
  refine zv (zw zz rfl rfl rfl (zg zz rfl)) (exec_fieldAt rfl (zi t11 rfl) (fg_63_0 _ _ _)) ?_
  refine zv (zw zz rfl rfl rfl (zg zz rfl)) (exec_load rfl (zg zz rfl) (L2 _ rfl)) ?_
  refine zv (v := .bool false) (zw zz rfl rfl rfl (zg zz rfl)) (ex_neqX hx rfl (zg zz rfl) (zg zz rfl)) ?_
  refine zv rfl (exec_pickF rfl (zg zz rfl) (zg zz rfl)) ?_
  refine zv rfl (exec_move rfl (zg zz rfl)) ?_
  refine zv (zw zz rfl rfl rfl (zg zz rfl)) (exec_fieldAt rfl (zi t9 rfl) (fg_63_1 _ _ _)) ?_
  refine zv (zw zz rfl rfl rfl (zg zz rfl)) (exec_load rfl (zg zz rfl) (L3 _ rfl)) ?_
  refine zv (zw zz rfl rfl rfl (zg zz rfl)) (exec_fieldAt rfl (zi t11 rfl) (fg_63_1 _ _ _)) ?_
  refine zv (zw zz rfl rfl rfl (zg zz rfl)) (exec_load rfl (zg zz rfl) (L4 _ rfl)) ?_
  refine zc (zw zz rfl rfl rfl (zg zz rfl)) (exec_c2 rfl (zg zz rfl) (zg zz rfl)) (CS) (fun e x15 hx => ?_)
  obtain ⟨rfl, HF⟩ := hx
  refine ⟨_, rfl, ?_⟩
  refine zv (zw zz rfl rfl rfl (zg zz rfl)) (exec_not rfl (zg zz rfl)) ?_
  refine zv rfl (exec_pickF rfl (zg zz rfl) (zg zz rfl)) ?_
  exact ze rfl (h _ _ (HF) rfl)
def stp1_o0 : Oper := ⟨some 11, .move (.tmp 2), 22, "law.go:56", #[], none⟩
def stp1_o1 : Oper := ⟨some 12, .fieldAddr 45 (.tmp 4) 1, 0, "law.go:56", #[], none⟩
def stp1_o2 : Oper := ⟨some 13, .load 3 (.tmp 12), 3, "law.go:56", #[⟨1, .data⟩], none⟩
def stp1_o3 : Oper := ⟨some 14, .call { callee := Callee.value (Operand.func 15), args := #[.tmp 11, .tmp 13], argTypes := #[22, 3] }, 52, "law.go:56", #[⟨0, .data⟩, ⟨2, .data⟩], none⟩
def stp1_o4 : Oper := ⟨some 7, .alloc 52, 0, "law.go:56", #[], none⟩
def stp1_o5 : Oper := ⟨none, .store 52 (.tmp 7) (.tmp 14), 0, "law.go:56", #[⟨4, .data⟩, ⟨3, .data⟩, ⟨3, .chain⟩, ⟨0, .phase⟩, ⟨1, .phase⟩, ⟨2, .phase⟩, ⟨3, .phase⟩, ⟨4, .phase⟩], none⟩
def stp1_ops : Array Oper := #[stp1_o0, stp1_o1, stp1_o2, stp1_o3, stp1_o4, stp1_o5]
theorem stp1 {ob pn pc : Nat} {pa : Option Addr} {o : OpR} {p : PlK} (Fin : Nat → World → Prop) (a : Act) (w : World) (Q : Exit → Act → World → Prop) (zz : a.tmps.size = 117)
    (t2 : a.tmps.getD 2 undef = .slice pa pn pc)
    (t4 : a.tmps.getD 4 undef = .pointer (some ⟨ob, 0, none⟩))
    (LQ : ∀ W, W = w → (Instr.loadAt 3 (.pointer (some ⟨ob, 0 + 1, none⟩))).run Tryd.prog W = .ok (.int .i64 o.pl) W) (CA : Calls Tryd.prog 15 #[.slice pa pn pc, .int .i64 o.pl] w fun e w' => e = .returned p.v ∧ ∃ pb w1 w2, (Instr.alloc 52 true (.tuple #[])).run Tryd.prog w' = .ok (.pointer (some ⟨pb, 0, none⟩)) w1 ∧ (Instr.storeAt 52 (.pointer (some ⟨pb, 0, none⟩)) p.v).run Tryd.prog w1 = .ok () w2 ∧ Fin pb w2)
    (h : ∀ (pb : Nat) (a' : Act) (w' : World), Fin pb w' → a' = (((((a).put (some 11) (.slice pa pn pc)).put (some 12) (.pointer (some ⟨ob, 0 + 1, none⟩))).put (some 13) (.int .i64 o.pl)).put (some 14) (p.v)).put (some 7) (.pointer (some ⟨pb, 0, none⟩)) → Q .normal a' w') :
    (Code.region 1 stp1_ops false).wp Tryd.prog Q a w := by
  refine z0 rfl ?_
  refine zv rfl (exec_move rfl (zi t2 rfl)) ?_
  refine zv rfl (exec_fieldAt rfl (zi t4 rfl) (fg_45_1 _ _ _)) ?_
  refine zv rfl (exec_load rfl (zg zz rfl) (LQ _ rfl)) ?_
  refine zc rfl (exec_c2 rfl (zg zz rfl) (zg zz rfl)) (CA) (fun e x3 hx => ?_)
  obtain ⟨rfl, pb, w1, w2, EA, ES, HF⟩ := hx
  replace h := h pb
  refine ⟨_, rfl, ?_⟩
  refine zv (v := .pointer (some ⟨pb, 0, none⟩)) rfl (exec_alloc rfl EA) ?_
  refine zs rfl (exec_store rfl (zg zz rfl) (zg zz rfl) ES) ?_
  exact ze rfl (h _ _ (HF) rfl)
def stp2_o0 : Oper := ⟨some 15, .buildSlice 43 0 #[], 43, "law.go:57", #[], none⟩
def stp2_o1 : Oper := ⟨some 16, .fieldAddr 45 (.tmp 4) 5, 0, "law.go:57", #[], none⟩
def stp2_o2 : Oper := ⟨some 17, .load 43 (.tmp 16), 43, "law.go:57", #[⟨1, .data⟩], none⟩
def stp2_o3 : Oper := ⟨some 18, .call { callee := Callee.builtin Builtin.append, args := #[.tmp 15, .tmp 17], argTypes := #[43, 43] }, 43, "law.go:57", #[⟨0, .data⟩, ⟨2, .data⟩], none⟩
def stp2_o4 : Oper := ⟨some 8, .alloc 43, 0, "law.go:57", #[], none⟩
def stp2_o5 : Oper := ⟨none, .store 43 (.tmp 8) (.tmp 18), 0, "law.go:57", #[⟨4, .data⟩, ⟨3, .data⟩, ⟨3, .chain⟩, ⟨0, .phase⟩, ⟨1, .phase⟩, ⟨2, .phase⟩, ⟨3, .phase⟩, ⟨4, .phase⟩], none⟩
def stp2_ops : Array Oper := #[stp2_o0, stp2_o1, stp2_o2, stp2_o3, stp2_o4, stp2_o5]
theorem stp2 {ob ib : Nat} {o : OpR} {e0 u : Value} {w1 w2 w3 w4 : World} (a : Act) (w : World) (Q : Exit → Act → World → Prop) (zz : a.tmps.size = 117)
    (t4 : a.tmps.getD 4 undef = .pointer (some ⟨ob, 0, none⟩))
    (LS : ∀ W, W = w1 → (Instr.loadAt 43 (.pointer (some ⟨ob, 0 + 40, none⟩))).run Tryd.prog W = .ok (o.seen) W) (E0 : (Instr.buildSlice 43 0 #[]).run Tryd.prog w = .ok e0 w1) (E1 : (Builtin.append_ #[43, 43] 43 #[e0, o.seen]).run Tryd.prog w1 = .ok u w2) (EA : (Instr.alloc 43 true (.tuple #[])).run Tryd.prog w2 = .ok (.pointer (some ⟨ib, 0, none⟩)) w3) (ES : (Instr.storeAt 43 (.pointer (some ⟨ib, 0, none⟩)) u).run Tryd.prog w3 = .ok () w4)
    (h : ∀ (a' : Act) (w' : World), w' = w4 → a' = (((((a).put (some 15) (e0)).put (some 16) (.pointer (some ⟨ob, 0 + 40, none⟩))).put (some 17) (o.seen)).put (some 18) (u)).put (some 8) (.pointer (some ⟨ib, 0, none⟩)) → Q .normal a' w') :
    (Code.region 2 stp2_ops false).wp Tryd.prog Q a w := by
  refine z0 rfl ?_
  refine zv (v := e0) rfl (exec_bs0 rfl E0) ?_
  refine zv rfl (exec_fieldAt rfl (zi t4 rfl) (fg_45_5 _ _ _)) ?_
  refine zv rfl (exec_load rfl (zg zz rfl) (LS _ rfl)) ?_
  refine zv (v := u) rfl (exec_append rfl (zg zz rfl) (zg zz rfl) E1) ?_
  refine zv (v := .pointer (some ⟨ib, 0, none⟩)) rfl (exec_alloc rfl EA) ?_
  refine zs rfl (exec_store rfl (zg zz rfl) (zg zz rfl) ES) ?_
  exact ze rfl (h _ _ (rfl) rfl)
def stp5_o0 : Oper := ⟨some 20, .fieldAddr 45 (.tmp 4) 0, 0, "law.go:60", #[], none⟩
def stp5_o1 : Oper := ⟨some 21, .load 3 (.tmp 20), 3, "law.go:60", #[⟨0, .data⟩], none⟩
def stp5_ops : Array Oper := #[stp5_o0, stp5_o1]
theorem stp5 {ob : Nat} {o : OpR} (a : Act) (w : World) (Q : Exit → Act → World → Prop) (zz : a.tmps.size = 117)
    (t4 : a.tmps.getD 4 undef = .pointer (some ⟨ob, 0, none⟩))
    (LQ : ∀ W, W = w → (Instr.loadAt 3 (.pointer (some ⟨ob, 0 + 0, none⟩))).run Tryd.prog W = .ok (.int .i64 o.kind) W)
    (h : ∀ (a' : Act) (w' : World), w' = w → a' = ((a).put (some 20) (.pointer (some ⟨ob, 0 + 0, none⟩))).put (some 21) (.int .i64 o.kind) → Q .normal a' w') :
    (Code.region 5 stp5_ops false).wp Tryd.prog Q a w := by
  refine z0 rfl ?_
  refine zv rfl (exec_fieldAt rfl (zi t4 rfl) (fg_45_0 _ _ _)) ?_
  refine zv rfl (exec_load rfl (zg zz rfl) (LQ _ rfl)) ?_
  exact ze rfl (h _ _ (rfl) rfl)
def stp8_o0 : Oper := ⟨some 24, .move (.tmp 0), 25, "law.go:62", #[], none⟩
def stp8_o1 : Oper := ⟨some 25, .nilCheck (.tmp 24), 0, "law.go:62", #[⟨0, .data⟩], none⟩
def stp8_o2 : Oper := ⟨some 26, .fieldAddr 33 (.tmp 25) 0, 0, "law.go:62", #[⟨1, .data⟩], none⟩
def stp8_o3 : Oper := ⟨some 27, .load 26 (.tmp 26), 26, "law.go:62", #[⟨2, .data⟩], none⟩
def stp8_o4 : Oper := ⟨some 28, .load 52 (.tmp 7), 52, "law.go:62", #[], none⟩
def stp8_o5 : Oper := ⟨some 29, .fieldAddr 45 (.tmp 4) 2, 0, "law.go:62", #[], none⟩
def stp8_o6 : Oper := ⟨some 30, .load 38 (.tmp 29), 38, "law.go:62", #[⟨5, .data⟩], none⟩
def stp8_o7 : Oper := ⟨some 31, .fieldAddr 45 (.tmp 4) 3, 0, "law.go:62", #[], none⟩
def stp8_o8 : Oper := ⟨some 32, .load 42 (.tmp 31), 42, "law.go:62", #[⟨7, .data⟩], none⟩
def stp8_o9 : Oper := ⟨some 33, .move (.tmp 9), 80, "law.go:62", #[], none⟩
def stp8_o10 : Oper := ⟨some 34, .call { callee := Callee.value (Operand.func 16), args := #[.tmp 27, .tmp 28, .tmp 30, .tmp 32, .tmp 33], argTypes := #[26, 52, 38, 42, 80] }, 54, "law.go:62", #[⟨3, .data⟩, ⟨4, .data⟩, ⟨6, .data⟩, ⟨8, .data⟩, ⟨9, .data⟩], none⟩
def stp8_o11 : Oper := ⟨some 10, .assign (.tmp 34), 54, "law.go:62", #[⟨10, .data⟩, ⟨10, .chain⟩, ⟨0, .phase⟩, ⟨1, .phase⟩, ⟨2, .phase⟩, ⟨3, .phase⟩, ⟨4, .phase⟩, ⟨5, .phase⟩, ⟨6, .phase⟩, ⟨7, .phase⟩, ⟨8, .phase⟩, ⟨9, .phase⟩, ⟨10, .phase⟩], none⟩
def stp8_ops : Array Oper := #[stp8_o0, stp8_o1, stp8_o2, stp8_o3, stp8_o4, stp8_o5, stp8_o6, stp8_o7, stp8_o8, stp8_o9, stp8_o10, stp8_o11]
theorem stp8 {x rb ob pb : Nat} {o : OpR} {p : PlK} {fv : Value} (S : World → Prop) (Fin : Nat → World → Prop) (a : Act) (w : World) (Q : Exit → Act → World → Prop) (zz : a.tmps.size = 117)
    (t0 : a.tmps.getD 0 undef = .pointer (some ⟨x, 0, none⟩))
    (t4 : a.tmps.getD 4 undef = .pointer (some ⟨ob, 0, none⟩))
    (t7 : a.tmps.getD 7 undef = .pointer (some ⟨pb, 0, none⟩))
    (t9 : a.tmps.getD 9 undef = fv)
    (h0 : S w.drew) (LR : ∀ W, S W → (Instr.loadAt 26 (.pointer (some ⟨x, 0 + 0, none⟩))).run Tryd.prog W = .ok (.pointer (some ⟨rb, 0, none⟩)) W) (LP : ∀ W, S W → (Instr.loadAt 52 (.pointer (some ⟨pb, 0, none⟩))).run Tryd.prog W = .ok (p.v) W) (LI : ∀ W, S W → (Instr.loadAt 38 (.pointer (some ⟨ob, 0 + 2, none⟩))).run Tryd.prog W = .ok (o.id.v) W) (LV : ∀ W, S W → (Instr.loadAt 42 (.pointer (some ⟨ob, 0 + 35, none⟩))).run Tryd.prog W = .ok (o.v.v) W) (CC : Calls Tryd.prog 16 #[.pointer (some ⟨rb, 0, none⟩), p.v, o.id.v, o.v.v, fv] w.drew fun e w' => ∃ bk, e = .returned (.pointer (some ⟨bk, 0, none⟩)) ∧ S w' ∧ Fin bk w')
    (h : ∀ (bk : Nat) (a' : Act) (w' : World), Fin bk w' → a' = ((((((((((((a).put (some 24) (.pointer (some ⟨x, 0, none⟩))).put (some 25) (.pointer (some ⟨x, 0, none⟩))).put (some 26) (.pointer (some ⟨x, 0 + 0, none⟩))).put (some 27) (.pointer (some ⟨rb, 0, none⟩))).put (some 28) (p.v)).put (some 29) (.pointer (some ⟨ob, 0 + 2, none⟩))).put (some 30) (o.id.v)).put (some 31) (.pointer (some ⟨ob, 0 + 35, none⟩))).put (some 32) (o.v.v)).put (some 33) (fv)).put (some 34) (.pointer (some ⟨bk, 0, none⟩))).put (some 10) (.pointer (some ⟨bk, 0, none⟩)) → Q .normal a' w') :
    (Code.region 8 stp8_ops true).wp Tryd.prog Q a w := by
  refine y0 (fun w' => S w') (h0) (fun hHeld => ?_)
  refine yv 0 rfl rfl (fun w1 hw => exec_move rfl (zi t0 rfl)) hHeld ?_
  refine yv 1 rfl rfl (fun w1 hw => exec_nilCheck rfl (zg zz rfl)) hHeld ?_
  refine yv 2 rfl rfl (fun w1 hw => exec_fieldAt rfl (zg zz rfl) (fg_33_0 _ _ _)) hHeld ?_
  refine yv 3 rfl rfl (fun w1 hw => exec_load rfl (zg zz rfl) (LR _ hw)) hHeld ?_
  refine yv 4 rfl rfl (fun w1 hw => exec_load rfl (zi t7 rfl) (LP _ hw)) hHeld ?_
  refine yv 5 rfl rfl (fun w1 hw => exec_fieldAt rfl (zi t4 rfl) (fg_45_2 _ _ _)) hHeld ?_
  refine yv 6 rfl rfl (fun w1 hw => exec_load rfl (zg zz rfl) (LI _ hw)) hHeld ?_
  refine yv 7 rfl rfl (fun w1 hw => exec_fieldAt rfl (zi t4 rfl) (fg_45_3 _ _ _)) hHeld ?_
  refine yv 8 rfl rfl (fun w1 hw => exec_load rfl (zg zz rfl) (LV _ hw)) hHeld ?_
  refine yv 9 rfl rfl (fun w1 hw => exec_move rfl (zi t9 rfl)) hHeld ?_
  refine yc 10 rfl rfl (exec_c5 rfl (zg zz rfl) (zg zz rfl) (zg zz rfl) (zg zz rfl) (zg zz rfl)) (CC) (fun e x10 hx => ?_)
  obtain ⟨bk, rfl, S1, HF⟩ := hx
  replace h := h bk
  refine ⟨_, rfl, S1, fun hHeld => ?_⟩
  refine yv 11 rfl rfl (fun w1 hw => exec_assign rfl (zg zz rfl)) hHeld ?_
  exact ye rfl (h _ _ (HF) rfl)
def stp9_o0 : Oper := ⟨some 35, .move (.tmp 0), 25, "law.go:63", #[], none⟩
def stp9_o1 : Oper := ⟨some 36, .nilCheck (.tmp 35), 0, "law.go:63", #[⟨0, .data⟩], none⟩
def stp9_o2 : Oper := ⟨some 37, .fieldAddr 33 (.tmp 36) 1, 0, "law.go:63", #[⟨1, .data⟩], none⟩
def stp9_o3 : Oper := ⟨some 38, .load 28 (.tmp 37), 28, "law.go:63", #[⟨2, .data⟩], none⟩
def stp9_o4 : Oper := ⟨some 39, .load 52 (.tmp 7), 52, "law.go:63", #[], none⟩
def stp9_o5 : Oper := ⟨some 40, .fieldAddr 45 (.tmp 4) 2, 0, "law.go:63", #[], none⟩
def stp9_o6 : Oper := ⟨some 41, .load 38 (.tmp 40), 38, "law.go:63", #[⟨5, .data⟩], none⟩
def stp9_o7 : Oper := ⟨some 42, .fieldAddr 45 (.tmp 4) 3, 0, "law.go:63", #[], none⟩
def stp9_o8 : Oper := ⟨some 43, .load 42 (.tmp 42), 42, "law.go:63", #[⟨7, .data⟩], none⟩
def stp9_o9 : Oper := ⟨some 44, .fieldAddr 45 (.tmp 4) 5, 0, "law.go:63", #[], none⟩
def stp9_o10 : Oper := ⟨some 45, .load 43 (.tmp 44), 43, "law.go:63", #[⟨9, .data⟩], none⟩
def stp9_o11 : Oper := ⟨some 46, .call { callee := Callee.value (Operand.func 34), args := #[.tmp 38, .tmp 39, .tmp 41, .tmp 43, .tmp 45], argTypes := #[28, 52, 38, 42, 43] }, 0, "law.go:63", #[⟨3, .data⟩, ⟨4, .data⟩, ⟨6, .data⟩, ⟨8, .data⟩, ⟨10, .data⟩], none⟩
def stp9_ops : Array Oper := #[stp9_o0, stp9_o1, stp9_o2, stp9_o3, stp9_o4, stp9_o5, stp9_o6, stp9_o7, stp9_o8, stp9_o9, stp9_o10, stp9_o11]
theorem stp9 {x d ob pb : Nat} {o : OpR} {p : PlK} (S : World → Prop) (Fin : World → Prop) (a : Act) (w : World) (Q : Exit → Act → World → Prop) (zz : a.tmps.size = 117)
    (t0 : a.tmps.getD 0 undef = .pointer (some ⟨x, 0, none⟩))
    (t4 : a.tmps.getD 4 undef = .pointer (some ⟨ob, 0, none⟩))
    (t7 : a.tmps.getD 7 undef = .pointer (some ⟨pb, 0, none⟩))
    (h0 : S w.drew) (LD : ∀ W, S W → (Instr.loadAt 28 (.pointer (some ⟨x, 0 + 1, none⟩))).run Tryd.prog W = .ok (.pointer (some ⟨d, 0, none⟩)) W) (LP : ∀ W, S W → (Instr.loadAt 52 (.pointer (some ⟨pb, 0, none⟩))).run Tryd.prog W = .ok (p.v) W) (LI : ∀ W, S W → (Instr.loadAt 38 (.pointer (some ⟨ob, 0 + 2, none⟩))).run Tryd.prog W = .ok (o.id.v) W) (LV : ∀ W, S W → (Instr.loadAt 42 (.pointer (some ⟨ob, 0 + 35, none⟩))).run Tryd.prog W = .ok (o.v.v) W) (LS : ∀ W, S W → (Instr.loadAt 43 (.pointer (some ⟨ob, 0 + 40, none⟩))).run Tryd.prog W = .ok (o.seen) W) (CC : Calls Tryd.prog 34 #[.pointer (some ⟨d, 0, none⟩), p.v, o.id.v, o.v.v, o.seen] w.drew fun e w' => e = .returned (.tuple #[]) ∧ S w' ∧ Fin w')
    (h : ∀ (a' : Act) (w' : World), Fin w' → a' = ((((((((((((a).put (some 35) (.pointer (some ⟨x, 0, none⟩))).put (some 36) (.pointer (some ⟨x, 0, none⟩))).put (some 37) (.pointer (some ⟨x, 0 + 1, none⟩))).put (some 38) (.pointer (some ⟨d, 0, none⟩))).put (some 39) (p.v)).put (some 40) (.pointer (some ⟨ob, 0 + 2, none⟩))).put (some 41) (o.id.v)).put (some 42) (.pointer (some ⟨ob, 0 + 35, none⟩))).put (some 43) (o.v.v)).put (some 44) (.pointer (some ⟨ob, 0 + 40, none⟩))).put (some 45) (o.seen)).put (some 46) (.tuple #[]) → Q .normal a' w') :
    (Code.region 9 stp9_ops true).wp Tryd.prog Q a w := by
  refine y0 (fun w' => S w') (h0) (fun hHeld => ?_)
  refine yv 0 rfl rfl (fun w1 hw => exec_move rfl (zi t0 rfl)) hHeld ?_
  refine yv 1 rfl rfl (fun w1 hw => exec_nilCheck rfl (zg zz rfl)) hHeld ?_
  refine yv 2 rfl rfl (fun w1 hw => exec_fieldAt rfl (zg zz rfl) (fg_33_1 _ _ _)) hHeld ?_
  refine yv 3 rfl rfl (fun w1 hw => exec_load rfl (zg zz rfl) (LD _ hw)) hHeld ?_
  refine yv 4 rfl rfl (fun w1 hw => exec_load rfl (zi t7 rfl) (LP _ hw)) hHeld ?_
  refine yv 5 rfl rfl (fun w1 hw => exec_fieldAt rfl (zi t4 rfl) (fg_45_2 _ _ _)) hHeld ?_
  refine yv 6 rfl rfl (fun w1 hw => exec_load rfl (zg zz rfl) (LI _ hw)) hHeld ?_
  refine yv 7 rfl rfl (fun w1 hw => exec_fieldAt rfl (zi t4 rfl) (fg_45_3 _ _ _)) hHeld ?_
  refine yv 8 rfl rfl (fun w1 hw => exec_load rfl (zg zz rfl) (LV _ hw)) hHeld ?_
  refine yv 9 rfl rfl (fun w1 hw => exec_fieldAt rfl (zi t4 rfl) (fg_45_5 _ _ _)) hHeld ?_
  refine yv 10 rfl rfl (fun w1 hw => exec_load rfl (zg zz rfl) (LS _ hw)) hHeld ?_
  refine yc 11 rfl rfl (exec_c5 rfl (zg zz rfl) (zg zz rfl) (zg zz rfl) (zg zz rfl) (zg zz rfl)) (CC) (fun e x11 hx => ?_)
  obtain ⟨rfl, S1, HF⟩ := hx
  refine ⟨_, rfl, S1, fun hHeld => ?_⟩
  exact ye rfl (h _ _ (HF) rfl)
def stp11_o0 : Oper := ⟨some 49, .move (.tmp 0), 25, "law.go:65", #[], none⟩
def stp11_o1 : Oper := ⟨some 50, .nilCheck (.tmp 49), 0, "law.go:65", #[⟨0, .data⟩], none⟩
def stp11_o2 : Oper := ⟨some 51, .fieldAddr 33 (.tmp 50) 0, 0, "law.go:65", #[⟨1, .data⟩], none⟩
def stp11_o3 : Oper := ⟨some 52, .load 26 (.tmp 51), 26, "law.go:65", #[⟨2, .data⟩], none⟩
def stp11_o4 : Oper := ⟨some 53, .load 52 (.tmp 7), 52, "law.go:65", #[], none⟩
def stp11_o5 : Oper := ⟨some 54, .move (.tmp 9), 80, "law.go:65", #[], none⟩
def stp11_o6 : Oper := ⟨some 55, .call { callee := Callee.value (Operand.func 17), args := #[.tmp 52, .tmp 53, .tmp 54], argTypes := #[26, 52, 80] }, 54, "law.go:65", #[⟨3, .data⟩, ⟨4, .data⟩, ⟨5, .data⟩], none⟩
def stp11_o7 : Oper := ⟨some 10, .assign (.tmp 55), 54, "law.go:65", #[⟨6, .data⟩, ⟨6, .chain⟩, ⟨0, .phase⟩, ⟨1, .phase⟩, ⟨2, .phase⟩, ⟨3, .phase⟩, ⟨4, .phase⟩, ⟨5, .phase⟩, ⟨6, .phase⟩], none⟩
def stp11_ops : Array Oper := #[stp11_o0, stp11_o1, stp11_o2, stp11_o3, stp11_o4, stp11_o5, stp11_o6, stp11_o7]
theorem stp11 {x rb ob pb : Nat} {o : OpR} {p : PlK} {fv : Value} (S : World → Prop) (Fin : Nat → World → Prop) (a : Act) (w : World) (Q : Exit → Act → World → Prop) (zz : a.tmps.size = 117)
    (t0 : a.tmps.getD 0 undef = .pointer (some ⟨x, 0, none⟩))
    (t4 : a.tmps.getD 4 undef = .pointer (some ⟨ob, 0, none⟩))
    (t7 : a.tmps.getD 7 undef = .pointer (some ⟨pb, 0, none⟩))
    (t9 : a.tmps.getD 9 undef = fv)
    (h0 : S w.drew) (LR : ∀ W, S W → (Instr.loadAt 26 (.pointer (some ⟨x, 0 + 0, none⟩))).run Tryd.prog W = .ok (.pointer (some ⟨rb, 0, none⟩)) W) (LP : ∀ W, S W → (Instr.loadAt 52 (.pointer (some ⟨pb, 0, none⟩))).run Tryd.prog W = .ok (p.v) W) (CC : Calls Tryd.prog 17 #[.pointer (some ⟨rb, 0, none⟩), p.v, fv] w.drew fun e w' => ∃ bk, e = .returned (.pointer (some ⟨bk, 0, none⟩)) ∧ S w' ∧ Fin bk w')
    (h : ∀ (bk : Nat) (a' : Act) (w' : World), Fin bk w' → a' = ((((((((a).put (some 49) (.pointer (some ⟨x, 0, none⟩))).put (some 50) (.pointer (some ⟨x, 0, none⟩))).put (some 51) (.pointer (some ⟨x, 0 + 0, none⟩))).put (some 52) (.pointer (some ⟨rb, 0, none⟩))).put (some 53) (p.v)).put (some 54) (fv)).put (some 55) (.pointer (some ⟨bk, 0, none⟩))).put (some 10) (.pointer (some ⟨bk, 0, none⟩)) → Q .normal a' w') :
    (Code.region 11 stp11_ops true).wp Tryd.prog Q a w := by
  refine y0 (fun w' => S w') (h0) (fun hHeld => ?_)
  refine yv 0 rfl rfl (fun w1 hw => exec_move rfl (zi t0 rfl)) hHeld ?_
  refine yv 1 rfl rfl (fun w1 hw => exec_nilCheck rfl (zg zz rfl)) hHeld ?_
  refine yv 2 rfl rfl (fun w1 hw => exec_fieldAt rfl (zg zz rfl) (fg_33_0 _ _ _)) hHeld ?_
  refine yv 3 rfl rfl (fun w1 hw => exec_load rfl (zg zz rfl) (LR _ hw)) hHeld ?_
  refine yv 4 rfl rfl (fun w1 hw => exec_load rfl (zi t7 rfl) (LP _ hw)) hHeld ?_
  refine yv 5 rfl rfl (fun w1 hw => exec_move rfl (zi t9 rfl)) hHeld ?_
  refine yc 6 rfl rfl (exec_c3 rfl (zg zz rfl) (zg zz rfl) (zg zz rfl)) (CC) (fun e x6 hx => ?_)
  obtain ⟨bk, rfl, S1, HF⟩ := hx
  replace h := h bk
  refine ⟨_, rfl, S1, fun hHeld => ?_⟩
  refine yv 7 rfl rfl (fun w1 hw => exec_assign rfl (zg zz rfl)) hHeld ?_
  exact ye rfl (h _ _ (HF) rfl)
def stp12_o0 : Oper := ⟨some 56, .move (.tmp 0), 25, "law.go:66", #[], none⟩
def stp12_o1 : Oper := ⟨some 57, .nilCheck (.tmp 56), 0, "law.go:66", #[⟨0, .data⟩], none⟩
def stp12_o2 : Oper := ⟨some 58, .fieldAddr 33 (.tmp 57) 1, 0, "law.go:66", #[⟨1, .data⟩], none⟩
def stp12_o3 : Oper := ⟨some 59, .load 28 (.tmp 58), 28, "law.go:66", #[⟨2, .data⟩], none⟩
def stp12_o4 : Oper := ⟨some 60, .load 52 (.tmp 7), 52, "law.go:66", #[], none⟩
def stp12_o5 : Oper := ⟨some 61, .fieldAddr 45 (.tmp 4) 5, 0, "law.go:66", #[], none⟩
def stp12_o6 : Oper := ⟨some 62, .load 43 (.tmp 61), 43, "law.go:66", #[⟨5, .data⟩], none⟩
def stp12_o7 : Oper := ⟨some 63, .call { callee := Callee.value (Operand.func 35), args := #[.tmp 59, .tmp 60, .tmp 62], argTypes := #[28, 52, 43] }, 0, "law.go:66", #[⟨3, .data⟩, ⟨4, .data⟩, ⟨6, .data⟩], none⟩
def stp12_ops : Array Oper := #[stp12_o0, stp12_o1, stp12_o2, stp12_o3, stp12_o4, stp12_o5, stp12_o6, stp12_o7]
theorem stp12 {x d ob pb : Nat} {o : OpR} {p : PlK} (S : World → Prop) (Fin : World → Prop) (a : Act) (w : World) (Q : Exit → Act → World → Prop) (zz : a.tmps.size = 117)
    (t0 : a.tmps.getD 0 undef = .pointer (some ⟨x, 0, none⟩))
    (t4 : a.tmps.getD 4 undef = .pointer (some ⟨ob, 0, none⟩))
    (t7 : a.tmps.getD 7 undef = .pointer (some ⟨pb, 0, none⟩))
    (h0 : S w.drew) (LD : ∀ W, S W → (Instr.loadAt 28 (.pointer (some ⟨x, 0 + 1, none⟩))).run Tryd.prog W = .ok (.pointer (some ⟨d, 0, none⟩)) W) (LP : ∀ W, S W → (Instr.loadAt 52 (.pointer (some ⟨pb, 0, none⟩))).run Tryd.prog W = .ok (p.v) W) (LS : ∀ W, S W → (Instr.loadAt 43 (.pointer (some ⟨ob, 0 + 40, none⟩))).run Tryd.prog W = .ok (o.seen) W) (CC : Calls Tryd.prog 35 #[.pointer (some ⟨d, 0, none⟩), p.v, o.seen] w.drew fun e w' => e = .returned (.tuple #[]) ∧ S w' ∧ Fin w')
    (h : ∀ (a' : Act) (w' : World), Fin w' → a' = ((((((((a).put (some 56) (.pointer (some ⟨x, 0, none⟩))).put (some 57) (.pointer (some ⟨x, 0, none⟩))).put (some 58) (.pointer (some ⟨x, 0 + 1, none⟩))).put (some 59) (.pointer (some ⟨d, 0, none⟩))).put (some 60) (p.v)).put (some 61) (.pointer (some ⟨ob, 0 + 40, none⟩))).put (some 62) (o.seen)).put (some 63) (.tuple #[]) → Q .normal a' w') :
    (Code.region 12 stp12_ops true).wp Tryd.prog Q a w := by
  refine y0 (fun w' => S w') (h0) (fun hHeld => ?_)
  refine yv 0 rfl rfl (fun w1 hw => exec_move rfl (zi t0 rfl)) hHeld ?_
  refine yv 1 rfl rfl (fun w1 hw => exec_nilCheck rfl (zg zz rfl)) hHeld ?_
  refine yv 2 rfl rfl (fun w1 hw => exec_fieldAt rfl (zg zz rfl) (fg_33_1 _ _ _)) hHeld ?_
  refine yv 3 rfl rfl (fun w1 hw => exec_load rfl (zg zz rfl) (LD _ hw)) hHeld ?_
  refine yv 4 rfl rfl (fun w1 hw => exec_load rfl (zi t7 rfl) (LP _ hw)) hHeld ?_
  refine yv 5 rfl rfl (fun w1 hw => exec_fieldAt rfl (zi t4 rfl) (fg_45_5 _ _ _)) hHeld ?_
  refine yv 6 rfl rfl (fun w1 hw => exec_load rfl (zg zz rfl) (LS _ hw)) hHeld ?_
  refine yc 7 rfl rfl (exec_c3 rfl (zg zz rfl) (zg zz rfl) (zg zz rfl)) (CC) (fun e x7 hx => ?_)
  obtain ⟨rfl, S1, HF⟩ := hx
  refine ⟨_, rfl, S1, fun hHeld => ?_⟩
  exact ye rfl (h _ _ (HF) rfl)
def stp14_o0 : Oper := ⟨some 66, .move (.tmp 0), 25, "law.go:68", #[], none⟩
def stp14_o1 : Oper := ⟨some 67, .nilCheck (.tmp 66), 0, "law.go:68", #[⟨0, .data⟩], none⟩
def stp14_o2 : Oper := ⟨some 68, .fieldAddr 33 (.tmp 67) 0, 0, "law.go:68", #[⟨1, .data⟩], none⟩
def stp14_o3 : Oper := ⟨some 69, .load 26 (.tmp 68), 26, "law.go:68", #[⟨2, .data⟩], none⟩
def stp14_o4 : Oper := ⟨some 70, .load 52 (.tmp 7), 52, "law.go:68", #[], none⟩
def stp14_o5 : Oper := ⟨some 71, .fieldAddr 45 (.tmp 4) 4, 0, "law.go:68", #[], none⟩
def stp14_o6 : Oper := ⟨some 72, .load 2 (.tmp 71), 2, "law.go:68", #[⟨5, .data⟩], none⟩
def stp14_o7 : Oper := ⟨some 73, .move (.tmp 9), 80, "law.go:68", #[], none⟩
def stp14_o8 : Oper := ⟨some 74, .call { callee := Callee.value (Operand.func 18), args := #[.tmp 69, .tmp 70, .tmp 72, .tmp 73], argTypes := #[26, 52, 2, 80] }, 54, "law.go:68", #[⟨3, .data⟩, ⟨4, .data⟩, ⟨6, .data⟩, ⟨7, .data⟩], none⟩
def stp14_o9 : Oper := ⟨some 10, .assign (.tmp 74), 54, "law.go:68", #[⟨8, .data⟩, ⟨8, .chain⟩, ⟨0, .phase⟩, ⟨1, .phase⟩, ⟨2, .phase⟩, ⟨3, .phase⟩, ⟨4, .phase⟩, ⟨5, .phase⟩, ⟨6, .phase⟩, ⟨7, .phase⟩, ⟨8, .phase⟩], none⟩
def stp14_ops : Array Oper := #[stp14_o0, stp14_o1, stp14_o2, stp14_o3, stp14_o4, stp14_o5, stp14_o6, stp14_o7, stp14_o8, stp14_o9]
theorem stp14 {x rb ob pb : Nat} {o : OpR} {p : PlK} {fv : Value} (S : World → Prop) (Fin : Nat → World → Prop) (a : Act) (w : World) (Q : Exit → Act → World → Prop) (zz : a.tmps.size = 117)
    (t0 : a.tmps.getD 0 undef = .pointer (some ⟨x, 0, none⟩))
    (t4 : a.tmps.getD 4 undef = .pointer (some ⟨ob, 0, none⟩))
    (t7 : a.tmps.getD 7 undef = .pointer (some ⟨pb, 0, none⟩))
    (t9 : a.tmps.getD 9 undef = fv)
    (h0 : S w.drew) (LR : ∀ W, S W → (Instr.loadAt 26 (.pointer (some ⟨x, 0 + 0, none⟩))).run Tryd.prog W = .ok (.pointer (some ⟨rb, 0, none⟩)) W) (LP : ∀ W, S W → (Instr.loadAt 52 (.pointer (some ⟨pb, 0, none⟩))).run Tryd.prog W = .ok (p.v) W) (LN : ∀ W, S W → (Instr.loadAt 2 (.pointer (some ⟨ob, 0 + 39, none⟩))).run Tryd.prog W = .ok (.int .i64 o.n) W) (CC : Calls Tryd.prog 18 #[.pointer (some ⟨rb, 0, none⟩), p.v, .int .i64 o.n, fv] w.drew fun e w' => ∃ bk, e = .returned (.pointer (some ⟨bk, 0, none⟩)) ∧ S w' ∧ Fin bk w')
    (h : ∀ (bk : Nat) (a' : Act) (w' : World), Fin bk w' → a' = ((((((((((a).put (some 66) (.pointer (some ⟨x, 0, none⟩))).put (some 67) (.pointer (some ⟨x, 0, none⟩))).put (some 68) (.pointer (some ⟨x, 0 + 0, none⟩))).put (some 69) (.pointer (some ⟨rb, 0, none⟩))).put (some 70) (p.v)).put (some 71) (.pointer (some ⟨ob, 0 + 39, none⟩))).put (some 72) (.int .i64 o.n)).put (some 73) (fv)).put (some 74) (.pointer (some ⟨bk, 0, none⟩))).put (some 10) (.pointer (some ⟨bk, 0, none⟩)) → Q .normal a' w') :
    (Code.region 14 stp14_ops true).wp Tryd.prog Q a w := by
  refine y0 (fun w' => S w') (h0) (fun hHeld => ?_)
  refine yv 0 rfl rfl (fun w1 hw => exec_move rfl (zi t0 rfl)) hHeld ?_
  refine yv 1 rfl rfl (fun w1 hw => exec_nilCheck rfl (zg zz rfl)) hHeld ?_
  refine yv 2 rfl rfl (fun w1 hw => exec_fieldAt rfl (zg zz rfl) (fg_33_0 _ _ _)) hHeld ?_
  refine yv 3 rfl rfl (fun w1 hw => exec_load rfl (zg zz rfl) (LR _ hw)) hHeld ?_
  refine yv 4 rfl rfl (fun w1 hw => exec_load rfl (zi t7 rfl) (LP _ hw)) hHeld ?_
  refine yv 5 rfl rfl (fun w1 hw => exec_fieldAt rfl (zi t4 rfl) (fg_45_4 _ _ _)) hHeld ?_
  refine yv 6 rfl rfl (fun w1 hw => exec_load rfl (zg zz rfl) (LN _ hw)) hHeld ?_
  refine yv 7 rfl rfl (fun w1 hw => exec_move rfl (zi t9 rfl)) hHeld ?_
  refine yc 8 rfl rfl (exec_c4 rfl (zg zz rfl) (zg zz rfl) (zg zz rfl) (zg zz rfl)) (CC) (fun e x8 hx => ?_)
  obtain ⟨bk, rfl, S1, HF⟩ := hx
  replace h := h bk
  refine ⟨_, rfl, S1, fun hHeld => ?_⟩
  refine yv 9 rfl rfl (fun w1 hw => exec_assign rfl (zg zz rfl)) hHeld ?_
  exact ye rfl (h _ _ (HF) rfl)
def stp15_o0 : Oper := ⟨some 75, .move (.tmp 0), 25, "law.go:69", #[], none⟩
def stp15_o1 : Oper := ⟨some 76, .nilCheck (.tmp 75), 0, "law.go:69", #[⟨0, .data⟩], none⟩
def stp15_o2 : Oper := ⟨some 77, .fieldAddr 33 (.tmp 76) 1, 0, "law.go:69", #[⟨1, .data⟩], none⟩
def stp15_o3 : Oper := ⟨some 78, .load 28 (.tmp 77), 28, "law.go:69", #[⟨2, .data⟩], none⟩
def stp15_o4 : Oper := ⟨some 79, .load 52 (.tmp 7), 52, "law.go:69", #[], none⟩
def stp15_o5 : Oper := ⟨some 80, .fieldAddr 45 (.tmp 4) 4, 0, "law.go:69", #[], none⟩
def stp15_o6 : Oper := ⟨some 81, .load 2 (.tmp 80), 2, "law.go:69", #[⟨5, .data⟩], none⟩
def stp15_o7 : Oper := ⟨some 82, .fieldAddr 45 (.tmp 4) 5, 0, "law.go:69", #[], none⟩
def stp15_o8 : Oper := ⟨some 83, .load 43 (.tmp 82), 43, "law.go:69", #[⟨7, .data⟩], none⟩
def stp15_o9 : Oper := ⟨some 84, .call { callee := Callee.value (Operand.func 36), args := #[.tmp 78, .tmp 79, .tmp 81, .tmp 83], argTypes := #[28, 52, 2, 43] }, 0, "law.go:69", #[⟨3, .data⟩, ⟨4, .data⟩, ⟨6, .data⟩, ⟨8, .data⟩], none⟩
def stp15_ops : Array Oper := #[stp15_o0, stp15_o1, stp15_o2, stp15_o3, stp15_o4, stp15_o5, stp15_o6, stp15_o7, stp15_o8, stp15_o9]
theorem stp15 {x d ob pb : Nat} {o : OpR} {p : PlK} (S : World → Prop) (Fin : World → Prop) (a : Act) (w : World) (Q : Exit → Act → World → Prop) (zz : a.tmps.size = 117)
    (t0 : a.tmps.getD 0 undef = .pointer (some ⟨x, 0, none⟩))
    (t4 : a.tmps.getD 4 undef = .pointer (some ⟨ob, 0, none⟩))
    (t7 : a.tmps.getD 7 undef = .pointer (some ⟨pb, 0, none⟩))
    (h0 : S w.drew) (LD : ∀ W, S W → (Instr.loadAt 28 (.pointer (some ⟨x, 0 + 1, none⟩))).run Tryd.prog W = .ok (.pointer (some ⟨d, 0, none⟩)) W) (LP : ∀ W, S W → (Instr.loadAt 52 (.pointer (some ⟨pb, 0, none⟩))).run Tryd.prog W = .ok (p.v) W) (LN : ∀ W, S W → (Instr.loadAt 2 (.pointer (some ⟨ob, 0 + 39, none⟩))).run Tryd.prog W = .ok (.int .i64 o.n) W) (LS : ∀ W, S W → (Instr.loadAt 43 (.pointer (some ⟨ob, 0 + 40, none⟩))).run Tryd.prog W = .ok (o.seen) W) (CC : Calls Tryd.prog 36 #[.pointer (some ⟨d, 0, none⟩), p.v, .int .i64 o.n, o.seen] w.drew fun e w' => e = .returned (.tuple #[]) ∧ S w' ∧ Fin w')
    (h : ∀ (a' : Act) (w' : World), Fin w' → a' = ((((((((((a).put (some 75) (.pointer (some ⟨x, 0, none⟩))).put (some 76) (.pointer (some ⟨x, 0, none⟩))).put (some 77) (.pointer (some ⟨x, 0 + 1, none⟩))).put (some 78) (.pointer (some ⟨d, 0, none⟩))).put (some 79) (p.v)).put (some 80) (.pointer (some ⟨ob, 0 + 39, none⟩))).put (some 81) (.int .i64 o.n)).put (some 82) (.pointer (some ⟨ob, 0 + 40, none⟩))).put (some 83) (o.seen)).put (some 84) (.tuple #[]) → Q .normal a' w') :
    (Code.region 15 stp15_ops true).wp Tryd.prog Q a w := by
  refine y0 (fun w' => S w') (h0) (fun hHeld => ?_)
  refine yv 0 rfl rfl (fun w1 hw => exec_move rfl (zi t0 rfl)) hHeld ?_
  refine yv 1 rfl rfl (fun w1 hw => exec_nilCheck rfl (zg zz rfl)) hHeld ?_
  refine yv 2 rfl rfl (fun w1 hw => exec_fieldAt rfl (zg zz rfl) (fg_33_1 _ _ _)) hHeld ?_
  refine yv 3 rfl rfl (fun w1 hw => exec_load rfl (zg zz rfl) (LD _ hw)) hHeld ?_
  refine yv 4 rfl rfl (fun w1 hw => exec_load rfl (zi t7 rfl) (LP _ hw)) hHeld ?_
  refine yv 5 rfl rfl (fun w1 hw => exec_fieldAt rfl (zi t4 rfl) (fg_45_4 _ _ _)) hHeld ?_
  refine yv 6 rfl rfl (fun w1 hw => exec_load rfl (zg zz rfl) (LN _ hw)) hHeld ?_
  refine yv 7 rfl rfl (fun w1 hw => exec_fieldAt rfl (zi t4 rfl) (fg_45_5 _ _ _)) hHeld ?_
  refine yv 8 rfl rfl (fun w1 hw => exec_load rfl (zg zz rfl) (LS _ hw)) hHeld ?_
  refine yc 9 rfl rfl (exec_c4 rfl (zg zz rfl) (zg zz rfl) (zg zz rfl) (zg zz rfl)) (CC) (fun e x9 hx => ?_)
  obtain ⟨rfl, S1, HF⟩ := hx
  refine ⟨_, rfl, S1, fun hHeld => ?_⟩
  exact ye rfl (h _ _ (HF) rfl)
def stp17_o0 : Oper := ⟨some 87, .move (.tmp 0), 25, "law.go:71", #[], none⟩
def stp17_o1 : Oper := ⟨some 88, .fieldAddr 45 (.tmp 4) 6, 0, "law.go:71", #[], none⟩
def stp17_o2 : Oper := ⟨some 89, .load 3 (.tmp 88), 3, "law.go:71", #[⟨1, .data⟩], none⟩
def stp17_o3 : Oper := ⟨some 90, .call { callee := Callee.value (Operand.func 37), args := #[.tmp 87, .tmp 89], argTypes := #[25, 3] }, 4, "law.go:71", #[⟨0, .data⟩, ⟨2, .data⟩], none⟩
def stp17_o4 : Oper := ⟨some 6, .assign (.tmp 90), 4, "law.go:71", #[⟨3, .data⟩, ⟨3, .chain⟩, ⟨0, .phase⟩, ⟨1, .phase⟩, ⟨2, .phase⟩, ⟨3, .phase⟩], none⟩
def stp17_ops : Array Oper := #[stp17_o0, stp17_o1, stp17_o2, stp17_o3, stp17_o4]
theorem stp17 {x ob : Nat} {o : OpR} (Fin : World → Prop) (a : Act) (w : World) (Q : Exit → Act → World → Prop) (zz : a.tmps.size = 117)
    (t0 : a.tmps.getD 0 undef = .pointer (some ⟨x, 0, none⟩))
    (t4 : a.tmps.getD 4 undef = .pointer (some ⟨ob, 0, none⟩))
    (LB : ∀ W, W = w → (Instr.loadAt 3 (.pointer (some ⟨ob, 0 + 41, none⟩))).run Tryd.prog W = .ok (.int .i64 o.back) W) (CU : Calls Tryd.prog 37 #[.pointer (some ⟨x, 0, none⟩), .int .i64 o.back] w fun e w' => e = .returned (.bool true) ∧ Fin w')
    (h : ∀ (a' : Act) (w' : World), Fin w' → a' = (((((a).put (some 87) (.pointer (some ⟨x, 0, none⟩))).put (some 88) (.pointer (some ⟨ob, 0 + 41, none⟩))).put (some 89) (.int .i64 o.back)).put (some 90) (.bool true)).put (some 6) (.bool true) → Q .normal a' w') :
    (Code.region 17 stp17_ops false).wp Tryd.prog Q a w := by
  refine z0 rfl ?_
  refine zv rfl (exec_move rfl (zi t0 rfl)) ?_
  refine zv rfl (exec_fieldAt rfl (zi t4 rfl) (fg_45_6 _ _ _)) ?_
  refine zv rfl (exec_load rfl (zg zz rfl) (LB _ rfl)) ?_
  refine zc rfl (exec_c2 rfl (zg zz rfl) (zg zz rfl)) (CU) (fun e x3 hx => ?_)
  obtain ⟨rfl, HF⟩ := hx
  refine ⟨_, rfl, ?_⟩
  refine zv rfl (exec_assign rfl (zg zz rfl)) ?_
  exact ze rfl (h _ _ (HF) rfl)
def stp18_o0 : Oper := ⟨some 91, .move (.tmp 0), 25, "law.go:75", #[], none⟩
def stp18_o1 : Oper := ⟨some 92, .move (.tmp 0), 25, "law.go:75", #[], none⟩
def stp18_o2 : Oper := ⟨some 93, .nilCheck (.tmp 92), 0, "law.go:75", #[⟨1, .data⟩], none⟩
def stp18_o3 : Oper := ⟨some 94, .fieldAddr 33 (.tmp 93) 2, 0, "law.go:75", #[⟨2, .data⟩], none⟩
def stp18_o4 : Oper := ⟨some 95, .load 30 (.tmp 94), 30, "law.go:75", #[⟨3, .data⟩], none⟩
def stp18_o5 : Oper := ⟨some 96, .move (.tmp 10), 54, "law.go:75", #[], none⟩
def stp18_o6 : Oper := ⟨some 97, .buildSlice 30 1 #[(0, .tmp 96)], 30, "law.go:75", #[⟨5, .data⟩], none⟩
def stp18_o7 : Oper := ⟨some 98, .call { callee := Callee.builtin Builtin.append, args := #[.tmp 95, .tmp 97], argTypes := #[30, 30] }, 30, "law.go:75", #[⟨4, .data⟩, ⟨6, .data⟩], none⟩
def stp18_o8 : Oper := ⟨some 99, .nilCheck (.tmp 91), 0, "law.go:75", #[⟨0, .data⟩, ⟨0, .phase⟩, ⟨1, .phase⟩, ⟨2, .phase⟩, ⟨3, .phase⟩, ⟨4, .phase⟩, ⟨5, .phase⟩, ⟨6, .phase⟩, ⟨7, .phase⟩], none⟩
def stp18_o9 : Oper := ⟨some 100, .fieldAddr 33 (.tmp 99) 2, 0, "law.go:75", #[⟨8, .data⟩, ⟨0, .phase⟩, ⟨1, .phase⟩, ⟨2, .phase⟩, ⟨3, .phase⟩, ⟨4, .phase⟩, ⟨5, .phase⟩, ⟨6, .phase⟩, ⟨7, .phase⟩], none⟩
def stp18_o10 : Oper := ⟨none, .store 30 (.tmp 100) (.tmp 98), 0, "law.go:75", #[⟨9, .data⟩, ⟨7, .data⟩, ⟨7, .chain⟩, ⟨0, .phase⟩, ⟨1, .phase⟩, ⟨2, .phase⟩, ⟨3, .phase⟩, ⟨4, .phase⟩, ⟨5, .phase⟩, ⟨6, .phase⟩, ⟨7, .phase⟩], none⟩
def stp18_ops : Array Oper := #[stp18_o0, stp18_o1, stp18_o2, stp18_o3, stp18_o4, stp18_o5, stp18_o6, stp18_o7, stp18_o8, stp18_o9, stp18_o10]
theorem stp18 {x bk : Nat} {bv sv bv2 : Value} {w1 w2 w3 : World} (a : Act) (w : World) (Q : Exit → Act → World → Prop) (zz : a.tmps.size = 117)
    (t0 : a.tmps.getD 0 undef = .pointer (some ⟨x, 0, none⟩))
    (t10 : a.tmps.getD 10 undef = .pointer (some ⟨bk, 0, none⟩))
    (L2 : ∀ W, W = w → (Instr.loadAt 30 (.pointer (some ⟨x, 0 + 2, none⟩))).run Tryd.prog W = .ok (bv) W) (E1 : (Instr.buildSlice 30 1 #[(0, .pointer (some ⟨bk, 0, none⟩))]).run Tryd.prog w = .ok sv w1) (E2 : (Builtin.append_ #[30, 30] 30 #[bv, sv]).run Tryd.prog w1 = .ok bv2 w2) (E3 : (Instr.storeAt 30 (.pointer (some ⟨x, 0 + 2, none⟩)) bv2).run Tryd.prog w2 = .ok () w3)
    (h : ∀ (a' : Act) (w' : World), w' = w3 → a' = ((((((((((a).put (some 91) (.pointer (some ⟨x, 0, none⟩))).put (some 92) (.pointer (some ⟨x, 0, none⟩))).put (some 93) (.pointer (some ⟨x, 0, none⟩))).put (some 94) (.pointer (some ⟨x, 0 + 2, none⟩))).put (some 95) (bv)).put (some 96) (.pointer (some ⟨bk, 0, none⟩))).put (some 97) (sv)).put (some 98) (bv2)).put (some 99) (.pointer (some ⟨x, 0, none⟩))).put (some 100) (.pointer (some ⟨x, 0 + 2, none⟩)) → Q .normal a' w') :
    (Code.region 18 stp18_ops false).wp Tryd.prog Q a w := by
  refine z0 rfl ?_
  refine zv rfl (exec_move rfl (zi t0 rfl)) ?_
  refine zv rfl (exec_move rfl (zi t0 rfl)) ?_
  refine zv rfl (exec_nilCheck rfl (zg zz rfl)) ?_
  refine zv rfl (exec_fieldAt rfl (zg zz rfl) (fg_33_2 _ _ _)) ?_
  refine zv rfl (exec_load rfl (zg zz rfl) (L2 _ rfl)) ?_
  refine zv rfl (exec_move rfl (zi t10 rfl)) ?_
  refine zv (v := sv) rfl (exec_buildSlice rfl (zg zz rfl) E1) ?_
  refine zv (v := bv2) rfl (exec_append rfl (zg zz rfl) (zg zz rfl) E2) ?_
  refine zv rfl (exec_nilCheck rfl (zg zz rfl)) ?_
  refine zv rfl (exec_fieldAt rfl (zg zz rfl) (fg_33_2 _ _ _)) ?_
  refine zs rfl (exec_store rfl (zg zz rfl) (zg zz rfl) E3) ?_
  exact ze rfl (h _ _ (rfl) rfl)
def stp19_o0 : Oper := ⟨some 101, .move (.tmp 0), 25, "law.go:76", #[], none⟩
def stp19_o1 : Oper := ⟨some 102, .move (.tmp 0), 25, "law.go:76", #[], none⟩
def stp19_o2 : Oper := ⟨some 103, .nilCheck (.tmp 102), 0, "law.go:76", #[⟨1, .data⟩], none⟩
def stp19_o3 : Oper := ⟨some 104, .fieldAddr 33 (.tmp 103) 3, 0, "law.go:76", #[⟨2, .data⟩], none⟩
def stp19_o4 : Oper := ⟨some 105, .load 31 (.tmp 104), 31, "law.go:76", #[⟨3, .data⟩], none⟩
def stp19_o5 : Oper := ⟨some 106, .move (.tmp 0), 25, "law.go:76", #[], none⟩
def stp19_o6 : Oper := ⟨some 107, .nilCheck (.tmp 106), 0, "law.go:76", #[⟨5, .data⟩], none⟩
def stp19_o7 : Oper := ⟨some 108, .fieldAddr 33 (.tmp 107) 1, 0, "law.go:76", #[⟨6, .data⟩], none⟩
def stp19_o8 : Oper := ⟨some 109, .load 28 (.tmp 108), 28, "law.go:76", #[⟨7, .data⟩], none⟩
def stp19_o9 : Oper := ⟨some 110, .call { callee := Callee.value (Operand.func 38), args := #[.tmp 109], argTypes := #[28] }, 3, "law.go:76", #[⟨8, .data⟩], none⟩
def stp19_o10 : Oper := ⟨some 111, .buildSlice 31 1 #[(0, .tmp 110)], 31, "law.go:76", #[⟨9, .data⟩], none⟩
def stp19_o11 : Oper := ⟨some 112, .call { callee := Callee.builtin Builtin.append, args := #[.tmp 105, .tmp 111], argTypes := #[31, 31] }, 31, "law.go:76", #[⟨4, .data⟩, ⟨10, .data⟩, ⟨9, .chain⟩], none⟩
def stp19_o12 : Oper := ⟨some 113, .nilCheck (.tmp 101), 0, "law.go:76", #[⟨0, .data⟩, ⟨0, .phase⟩, ⟨1, .phase⟩, ⟨2, .phase⟩, ⟨3, .phase⟩, ⟨4, .phase⟩, ⟨5, .phase⟩, ⟨6, .phase⟩, ⟨7, .phase⟩, ⟨8, .phase⟩, ⟨9, .phase⟩, ⟨10, .phase⟩, ⟨11, .phase⟩], none⟩
def stp19_o13 : Oper := ⟨some 114, .fieldAddr 33 (.tmp 113) 3, 0, "law.go:76", #[⟨12, .data⟩, ⟨0, .phase⟩, ⟨1, .phase⟩, ⟨2, .phase⟩, ⟨3, .phase⟩, ⟨4, .phase⟩, ⟨5, .phase⟩, ⟨6, .phase⟩, ⟨7, .phase⟩, ⟨8, .phase⟩, ⟨9, .phase⟩, ⟨10, .phase⟩, ⟨11, .phase⟩], none⟩
def stp19_o14 : Oper := ⟨none, .store 31 (.tmp 114) (.tmp 112), 0, "law.go:76", #[⟨13, .data⟩, ⟨11, .data⟩, ⟨11, .chain⟩, ⟨0, .phase⟩, ⟨1, .phase⟩, ⟨2, .phase⟩, ⟨3, .phase⟩, ⟨4, .phase⟩, ⟨5, .phase⟩, ⟨6, .phase⟩, ⟨7, .phase⟩, ⟨8, .phase⟩, ⟨9, .phase⟩, ⟨10, .phase⟩, ⟨11, .phase⟩], none⟩
def stp19_ops : Array Oper := #[stp19_o0, stp19_o1, stp19_o2, stp19_o3, stp19_o4, stp19_o5, stp19_o6, stp19_o7, stp19_o8, stp19_o9, stp19_o10, stp19_o11, stp19_o12, stp19_o13, stp19_o14]
theorem stp19 {x d : Nat} {z : Int} {iv sv iv2 : Value} {w1 w2 w3 : World} (S : World → Prop) (a : Act) (w : World) (Q : Exit → Act → World → Prop) (zz : a.tmps.size = 117)
    (t0 : a.tmps.getD 0 undef = .pointer (some ⟨x, 0, none⟩))
    (h0 : S w.drew) (L3 : ∀ W, S W → (Instr.loadAt 31 (.pointer (some ⟨x, 0 + 3, none⟩))).run Tryd.prog W = .ok (iv) W) (LD : ∀ W, S W → (Instr.loadAt 28 (.pointer (some ⟨x, 0 + 1, none⟩))).run Tryd.prog W = .ok (.pointer (some ⟨d, 0, none⟩)) W) (CS : Calls Tryd.prog 38 #[.pointer (some ⟨d, 0, none⟩)] w.drew fun e w' => e = .returned (.int .i64 z) ∧ w' = w.drew) (S1 : S w.drew) (E1 : (Instr.buildSlice 31 1 #[(0, .int .i64 z)]).run Tryd.prog w.drew = .ok sv w1) (S2 : S w1) (E2 : (Builtin.append_ #[31, 31] 31 #[iv, sv]).run Tryd.prog w1 = .ok iv2 w2) (S3 : S w2) (E3 : (Instr.storeAt 31 (.pointer (some ⟨x, 0 + 3, none⟩)) iv2).run Tryd.prog w2 = .ok () w3)
    (h : ∀ (a' : Act) (w' : World), w' = w3 → a' = ((((((((((((((a).put (some 101) (.pointer (some ⟨x, 0, none⟩))).put (some 102) (.pointer (some ⟨x, 0, none⟩))).put (some 103) (.pointer (some ⟨x, 0, none⟩))).put (some 104) (.pointer (some ⟨x, 0 + 3, none⟩))).put (some 105) (iv)).put (some 106) (.pointer (some ⟨x, 0, none⟩))).put (some 107) (.pointer (some ⟨x, 0, none⟩))).put (some 108) (.pointer (some ⟨x, 0 + 1, none⟩))).put (some 109) (.pointer (some ⟨d, 0, none⟩))).put (some 110) (.int .i64 z)).put (some 111) (sv)).put (some 112) (iv2)).put (some 113) (.pointer (some ⟨x, 0, none⟩))).put (some 114) (.pointer (some ⟨x, 0 + 3, none⟩)) → Q .normal a' w') :
    (Code.region 19 stp19_ops true).wp Tryd.prog Q a w := by
  refine x0 14 (fun w' => S w') (h0) (fun hHeld => ?_)
  refine xv 0 rfl rfl (fun w1 hw => exec_move rfl (zi t0 rfl)) hHeld ?_
  refine xv 1 rfl rfl (fun w1 hw => exec_move rfl (zi t0 rfl)) hHeld ?_
  refine xv 2 rfl rfl (fun w1 hw => exec_nilCheck rfl (zg zz rfl)) hHeld ?_
  refine xv 3 rfl rfl (fun w1 hw => exec_fieldAt rfl (zg zz rfl) (fg_33_3 _ _ _)) hHeld ?_
  refine xv 4 rfl rfl (fun w1 hw => exec_load rfl (zg zz rfl) (L3 _ hw)) hHeld ?_
  refine xv 5 rfl rfl (fun w1 hw => exec_move rfl (zi t0 rfl)) hHeld ?_
  refine xv 6 rfl rfl (fun w1 hw => exec_nilCheck rfl (zg zz rfl)) hHeld ?_
  refine xv 7 rfl rfl (fun w1 hw => exec_fieldAt rfl (zg zz rfl) (fg_33_1 _ _ _)) hHeld ?_
  refine xv 8 rfl rfl (fun w1 hw => exec_load rfl (zg zz rfl) (LD _ hw)) hHeld ?_
  refine xc 9 rfl rfl (exec_c1 rfl (zg zz rfl)) (CS) (fun e x9 hx => ?_)
  obtain ⟨rfl, rfl⟩ := hx
  refine ⟨_, rfl, fun _ => S1, fun hHeld => ?_⟩
  replace hHeld := hHeld (by decide)
  refine xr (v := sv) 10 rfl rfl (exec_buildSlice rfl (zg zz rfl) E1) (fun _ => S2) (fun hHeld => ?_)
  replace hHeld := hHeld (by decide)
  refine xr (v := iv2) 11 rfl rfl (exec_append rfl (zg zz rfl) (zg zz rfl) E2) (fun _ => S3) (fun hHeld => ?_)
  replace hHeld := hHeld (by decide)
  refine xv 12 rfl rfl (fun w1 hw => exec_nilCheck rfl (zg zz rfl)) hHeld ?_
  refine xv 13 rfl rfl (fun w1 hw => exec_fieldAt rfl (zg zz rfl) (fg_33_3 _ _ _)) hHeld ?_
  refine xs 14 rfl rfl (exec_store rfl (zg zz rfl) (zg zz rfl) E3) (fun hne => absurd rfl hne) (fun _ => ?_)
  exact xe rfl (h _ _ (rfl) rfl)
def dun5_o0 : Oper := ⟨some 28, .move (.tmp 0), 25, "law.go:88", #[], none⟩
def dun5_o1 : Oper := ⟨some 29, .nilCheck (.tmp 28), 0, "law.go:88", #[⟨0, .data⟩], none⟩
def dun5_o2 : Oper := ⟨some 30, .fieldAddr 33 (.tmp 29) 0, 0, "law.go:88", #[⟨1, .data⟩], none⟩
def dun5_o3 : Oper := ⟨some 31, .load 26 (.tmp 30), 26, "law.go:88", #[⟨2, .data⟩], none⟩
def dun5_o4 : Oper := ⟨some 32, .move (.tmp 0), 25, "law.go:88", #[], none⟩
def dun5_o5 : Oper := ⟨some 33, .nilCheck (.tmp 32), 0, "law.go:88", #[⟨4, .data⟩], none⟩
def dun5_o6 : Oper := ⟨some 34, .fieldAddr 33 (.tmp 33) 2, 0, "law.go:88", #[⟨5, .data⟩], none⟩
def dun5_o7 : Oper := ⟨some 35, .load 30 (.tmp 34), 30, "law.go:88", #[⟨6, .data⟩], none⟩
def dun5_o8 : Oper := ⟨some 36, .move (.tmp 1), 3, "law.go:88", #[], none⟩
def dun5_o9 : Oper := ⟨some 37, .indexAddr 30 (.tmp 35) (.tmp 36), 0, "law.go:88", #[⟨7, .data⟩, ⟨8, .data⟩], none⟩
def dun5_o10 : Oper := ⟨some 38, .load 54 (.tmp 37), 54, "law.go:88", #[⟨9, .data⟩], none⟩
def dun5_o11 : Oper := ⟨some 39, .call { callee := Callee.value (Operand.func 19), args := #[.tmp 31, .tmp 38], argTypes := #[26, 54] }, 58, "law.go:88", #[⟨3, .data⟩, ⟨10, .data⟩], none⟩
def dun5_o12 : Oper := ⟨some 5, .assign (.tmp 39), 58, "law.go:88", #[⟨11, .data⟩, ⟨11, .chain⟩, ⟨0, .phase⟩, ⟨1, .phase⟩, ⟨2, .phase⟩, ⟨3, .phase⟩, ⟨4, .phase⟩, ⟨5, .phase⟩, ⟨6, .phase⟩, ⟨7, .phase⟩, ⟨8, .phase⟩, ⟨9, .phase⟩, ⟨10, .phase⟩, ⟨11, .phase⟩], none⟩
def dun5_ops : Array Oper := #[dun5_o0, dun5_o1, dun5_o2, dun5_o3, dun5_o4, dun5_o5, dun5_o6, dun5_o7, dun5_o8, dun5_o9, dun5_o10, dun5_o11, dun5_o12]
theorem dun5 {x rb g o n c i bk : Nat} {z : Int} (S Fin : World → Prop) (a : Act) (w : World) (Q : Exit → Act → World → Prop) (zz : a.tmps.size = 63)
    (t0 : a.tmps.getD 0 undef = .pointer (some ⟨x, 0, none⟩))
    (t1 : a.tmps.getD 1 undef = .int .i64 (i : Int))
    (hi : i < n) (hm : n ≤ 9223372036854775807) (h0 : S w.drew) (L1 : ∀ W, S W → (Instr.loadAt 26 (.pointer (some ⟨x, 0 + 0, none⟩))).run Tryd.prog W = .ok (.pointer (some ⟨rb, 0, none⟩)) W) (L2 : ∀ W, S W → (Instr.loadAt 30 (.pointer (some ⟨x, 0 + 2, none⟩))).run Tryd.prog W = .ok (.slice (some ⟨g, o, none⟩) n c) W) (L3 : ∀ W, S W → (Instr.loadAt 54 (.pointer (some ⟨g, o + i, none⟩))).run Tryd.prog W = .ok (.pointer (some ⟨bk, 0, none⟩)) W) (CU : Calls Tryd.prog 19 #[.pointer (some ⟨rb, 0, none⟩), .pointer (some ⟨bk, 0, none⟩)] w.drew fun e w' => e = .returned (.int .i64 z) ∧ S w' ∧ Fin w')
    (h : ∀ (a' : Act) (w' : World), Fin w' → a' = (((((((((((((a).put (some 28) (.pointer (some ⟨x, 0, none⟩))).put (some 29) (.pointer (some ⟨x, 0, none⟩))).put (some 30) (.pointer (some ⟨x, 0 + 0, none⟩))).put (some 31) (.pointer (some ⟨rb, 0, none⟩))).put (some 32) (.pointer (some ⟨x, 0, none⟩))).put (some 33) (.pointer (some ⟨x, 0, none⟩))).put (some 34) (.pointer (some ⟨x, 0 + 2, none⟩))).put (some 35) (.slice (some ⟨g, o, none⟩) n c)).put (some 36) (.int .i64 (i : Int))).put (some 37) (.pointer (some ⟨g, o + i, none⟩))).put (some 38) (.pointer (some ⟨bk, 0, none⟩))).put (some 39) (.int .i64 z)).put (some 5) (.int .i64 z) → Q .normal a' w') :
    (Code.region 5 dun5_ops true).wp Tryd.prog Q a w := by
  refine y0 (fun w' => S w') (h0) (fun hHeld => ?_)
  refine yv 0 rfl rfl (fun w1 hw => exec_move rfl (zi t0 rfl)) hHeld ?_
  refine yv 1 rfl rfl (fun w1 hw => exec_nilCheck rfl (zg zz rfl)) hHeld ?_
  refine yv 2 rfl rfl (fun w1 hw => exec_fieldAt rfl (zg zz rfl) (fg_33_0 _ _ _)) hHeld ?_
  refine yv 3 rfl rfl (fun w1 hw => exec_load rfl (zg zz rfl) (L1 _ hw)) hHeld ?_
  refine yv 4 rfl rfl (fun w1 hw => exec_move rfl (zi t0 rfl)) hHeld ?_
  refine yv 5 rfl rfl (fun w1 hw => exec_nilCheck rfl (zg zz rfl)) hHeld ?_
  refine yv 6 rfl rfl (fun w1 hw => exec_fieldAt rfl (zg zz rfl) (fg_33_2 _ _ _)) hHeld ?_
  refine yv 7 rfl rfl (fun w1 hw => exec_load rfl (zg zz rfl) (L2 _ hw)) hHeld ?_
  refine yv 8 rfl rfl (fun w1 hw => exec_move rfl (zi t1 rfl)) hHeld ?_
  refine yv 9 rfl rfl (fun w1 hw => exec_indexAt rfl (zg zz rfl) (zg zz rfl) (ix_bkl hi hm _)) hHeld ?_
  refine yv 10 rfl rfl (fun w1 hw => exec_load rfl (zg zz rfl) (L3 _ hw)) hHeld ?_
  refine yc 11 rfl rfl (exec_c2 rfl (zg zz rfl) (zg zz rfl)) (CU) (fun e x11 hx => ?_)
  obtain ⟨rfl, S1, HF⟩ := hx
  refine ⟨_, rfl, S1, fun hHeld => ?_⟩
  refine yv 12 rfl rfl (fun w1 hw => exec_assign rfl (zg zz rfl)) hHeld ?_
  exact ye rfl (h _ _ (HF) rfl)
def dun6_o0 : Oper := ⟨some 40, .move (.tmp 0), 25, "law.go:89", #[], none⟩
def dun6_o1 : Oper := ⟨some 41, .nilCheck (.tmp 40), 0, "law.go:89", #[⟨0, .data⟩], none⟩
def dun6_o2 : Oper := ⟨some 42, .fieldAddr 33 (.tmp 41) 1, 0, "law.go:89", #[⟨1, .data⟩], none⟩
def dun6_o3 : Oper := ⟨some 43, .load 28 (.tmp 42), 28, "law.go:89", #[⟨2, .data⟩], none⟩
def dun6_o4 : Oper := ⟨some 44, .move (.tmp 0), 25, "law.go:89", #[], none⟩
def dun6_o5 : Oper := ⟨some 45, .nilCheck (.tmp 44), 0, "law.go:89", #[⟨4, .data⟩], none⟩
def dun6_o6 : Oper := ⟨some 46, .fieldAddr 33 (.tmp 45) 3, 0, "law.go:89", #[⟨5, .data⟩], none⟩
def dun6_o7 : Oper := ⟨some 47, .load 31 (.tmp 46), 31, "law.go:89", #[⟨6, .data⟩], none⟩
def dun6_o8 : Oper := ⟨some 48, .move (.tmp 1), 3, "law.go:89", #[], none⟩
def dun6_o9 : Oper := ⟨some 49, .indexAddr 31 (.tmp 47) (.tmp 48), 0, "law.go:89", #[⟨7, .data⟩, ⟨8, .data⟩], none⟩
def dun6_o10 : Oper := ⟨some 50, .load 3 (.tmp 49), 3, "law.go:89", #[⟨9, .data⟩], none⟩
def dun6_o11 : Oper := ⟨some 51, .call { callee := Callee.value (Operand.func 68), args := #[.tmp 43, .tmp 50], argTypes := #[28, 3] }, 58, "law.go:89", #[⟨3, .data⟩, ⟨10, .data⟩], none⟩
def dun6_o12 : Oper := ⟨some 6, .assign (.tmp 51), 58, "law.go:89", #[⟨11, .data⟩, ⟨11, .chain⟩, ⟨0, .phase⟩, ⟨1, .phase⟩, ⟨2, .phase⟩, ⟨3, .phase⟩, ⟨4, .phase⟩, ⟨5, .phase⟩, ⟨6, .phase⟩, ⟨7, .phase⟩, ⟨8, .phase⟩, ⟨9, .phase⟩, ⟨10, .phase⟩, ⟨11, .phase⟩], none⟩
def dun6_ops : Array Oper := #[dun6_o0, dun6_o1, dun6_o2, dun6_o3, dun6_o4, dun6_o5, dun6_o6, dun6_o7, dun6_o8, dun6_o9, dun6_o10, dun6_o11, dun6_o12]
theorem dun6 {x d g o n c i : Nat} {z s : Int} (S Fin : World → Prop) (a : Act) (w : World) (Q : Exit → Act → World → Prop) (zz : a.tmps.size = 63)
    (t0 : a.tmps.getD 0 undef = .pointer (some ⟨x, 0, none⟩))
    (t1 : a.tmps.getD 1 undef = .int .i64 (i : Int))
    (hi : i < n) (hm : n ≤ 9223372036854775807) (h0 : S w.drew) (L1 : ∀ W, S W → (Instr.loadAt 28 (.pointer (some ⟨x, 0 + 1, none⟩))).run Tryd.prog W = .ok (.pointer (some ⟨d, 0, none⟩)) W) (L2 : ∀ W, S W → (Instr.loadAt 31 (.pointer (some ⟨x, 0 + 3, none⟩))).run Tryd.prog W = .ok (.slice (some ⟨g, o, none⟩) n c) W) (L3 : ∀ W, S W → (Instr.loadAt 3 (.pointer (some ⟨g, o + i, none⟩))).run Tryd.prog W = .ok (.int .i64 s) W) (CU : Calls Tryd.prog 68 #[.pointer (some ⟨d, 0, none⟩), .int .i64 s] w.drew fun e w' => e = .returned (.int .i64 z) ∧ S w' ∧ Fin w')
    (h : ∀ (a' : Act) (w' : World), Fin w' → a' = (((((((((((((a).put (some 40) (.pointer (some ⟨x, 0, none⟩))).put (some 41) (.pointer (some ⟨x, 0, none⟩))).put (some 42) (.pointer (some ⟨x, 0 + 1, none⟩))).put (some 43) (.pointer (some ⟨d, 0, none⟩))).put (some 44) (.pointer (some ⟨x, 0, none⟩))).put (some 45) (.pointer (some ⟨x, 0, none⟩))).put (some 46) (.pointer (some ⟨x, 0 + 3, none⟩))).put (some 47) (.slice (some ⟨g, o, none⟩) n c)).put (some 48) (.int .i64 (i : Int))).put (some 49) (.pointer (some ⟨g, o + i, none⟩))).put (some 50) (.int .i64 s)).put (some 51) (.int .i64 z)).put (some 6) (.int .i64 z) → Q .normal a' w') :
    (Code.region 6 dun6_ops true).wp Tryd.prog Q a w := by
  refine y0 (fun w' => S w') (h0) (fun hHeld => ?_)
  refine yv 0 rfl rfl (fun w1 hw => exec_move rfl (zi t0 rfl)) hHeld ?_
  refine yv 1 rfl rfl (fun w1 hw => exec_nilCheck rfl (zg zz rfl)) hHeld ?_
  refine yv 2 rfl rfl (fun w1 hw => exec_fieldAt rfl (zg zz rfl) (fg_33_1 _ _ _)) hHeld ?_
  refine yv 3 rfl rfl (fun w1 hw => exec_load rfl (zg zz rfl) (L1 _ hw)) hHeld ?_
  refine yv 4 rfl rfl (fun w1 hw => exec_move rfl (zi t0 rfl)) hHeld ?_
  refine yv 5 rfl rfl (fun w1 hw => exec_nilCheck rfl (zg zz rfl)) hHeld ?_
  refine yv 6 rfl rfl (fun w1 hw => exec_fieldAt rfl (zg zz rfl) (fg_33_3 _ _ _)) hHeld ?_
  refine yv 7 rfl rfl (fun w1 hw => exec_load rfl (zg zz rfl) (L2 _ hw)) hHeld ?_
  refine yv 8 rfl rfl (fun w1 hw => exec_move rfl (zi t1 rfl)) hHeld ?_
  refine yv 9 rfl rfl (fun w1 hw => exec_indexAt rfl (zg zz rfl) (zg zz rfl) (ix_inl hi hm _)) hHeld ?_
  refine yv 10 rfl rfl (fun w1 hw => exec_load rfl (zg zz rfl) (L3 _ hw)) hHeld ?_
  refine yc 11 rfl rfl (exec_c2 rfl (zg zz rfl) (zg zz rfl)) (CU) (fun e x11 hx => ?_)
  obtain ⟨rfl, S1, HF⟩ := hx
  refine ⟨_, rfl, S1, fun hHeld => ?_⟩
  refine yv 12 rfl rfl (fun w1 hw => exec_assign rfl (zg zz rfl)) hHeld ?_
  exact ye rfl (h _ _ (HF) rfl)
def dun10_o0 : Oper := ⟨some 57, .move (.tmp 0), 25, "law.go:94", #[], none⟩
def dun10_o1 : Oper := ⟨some 58, .nilCheck (.tmp 57), 0, "law.go:94", #[⟨0, .data⟩], none⟩
def dun10_o2 : Oper := ⟨some 59, .fieldAddr 33 (.tmp 58) 3, 0, "law.go:94", #[⟨1, .data⟩], none⟩
def dun10_o3 : Oper := ⟨some 60, .load 31 (.tmp 59), 31, "law.go:94", #[⟨2, .data⟩], none⟩
def dun10_o4 : Oper := ⟨some 61, .move (.tmp 1), 3, "law.go:94", #[], none⟩
def dun10_o5 : Oper := ⟨some 62, .indexAddr 31 (.tmp 60) (.tmp 61), 0, "law.go:94", #[⟨3, .data⟩, ⟨4, .data⟩, ⟨0, .phase⟩, ⟨1, .phase⟩, ⟨2, .phase⟩, ⟨3, .phase⟩, ⟨4, .phase⟩], none⟩
def dun10_o6 : Oper := ⟨none, .store 3 (.tmp 62) (Operand.const (Value.int IntKind.i64 0)), 0, "law.go:94", #[⟨5, .data⟩, ⟨0, .phase⟩, ⟨1, .phase⟩, ⟨2, .phase⟩, ⟨3, .phase⟩, ⟨4, .phase⟩], none⟩
def dun10_ops : Array Oper := #[dun10_o0, dun10_o1, dun10_o2, dun10_o3, dun10_o4, dun10_o5, dun10_o6]
theorem dun10 {x g o n c i : Nat} {w1 : World} (a : Act) (w : World) (Q : Exit → Act → World → Prop) (zz : a.tmps.size = 63)
    (t0 : a.tmps.getD 0 undef = .pointer (some ⟨x, 0, none⟩))
    (t1 : a.tmps.getD 1 undef = .int .i64 (i : Int))
    (hi : i < n) (hm : n ≤ 9223372036854775807) (L2 : ∀ W, W = w → (Instr.loadAt 31 (.pointer (some ⟨x, 0 + 3, none⟩))).run Tryd.prog W = .ok (.slice (some ⟨g, o, none⟩) n c) W) (E1 : (Instr.storeAt 3 (.pointer (some ⟨g, o + i, none⟩)) (.int .i64 0)).run Tryd.prog w = .ok () w1)
    (h : ∀ (a' : Act) (w' : World), w' = w1 → a' = ((((((a).put (some 57) (.pointer (some ⟨x, 0, none⟩))).put (some 58) (.pointer (some ⟨x, 0, none⟩))).put (some 59) (.pointer (some ⟨x, 0 + 3, none⟩))).put (some 60) (.slice (some ⟨g, o, none⟩) n c)).put (some 61) (.int .i64 (i : Int))).put (some 62) (.pointer (some ⟨g, o + i, none⟩)) → Q .normal a' w') :
    (Code.region 10 dun10_ops false).wp Tryd.prog Q a w := by
  refine z0 rfl ?_
  refine zv rfl (exec_move rfl (zi t0 rfl)) ?_
  refine zv rfl (exec_nilCheck rfl (zg zz rfl)) ?_
  refine zv rfl (exec_fieldAt rfl (zg zz rfl) (fg_33_3 _ _ _)) ?_
  refine zv rfl (exec_load rfl (zg zz rfl) (L2 _ rfl)) ?_
  refine zv rfl (exec_move rfl (zi t1 rfl)) ?_
  refine zv rfl (exec_indexAt rfl (zg zz rfl) (zg zz rfl) (ix_inl hi hm _)) ?_
  refine zs rfl (exec_store rfl (zg zz rfl) rfl E1) ?_
  exact ze rfl (h _ _ (rfl) rfl)
def las4f_o0 : Oper := ⟨some 13, .move (.tmp 0), 25, "law.go:102", #[], none⟩
def las4f_o1 : Oper := ⟨some 14, .nilCheck (.tmp 13), 0, "law.go:102", #[⟨0, .data⟩], none⟩
def las4f_o2 : Oper := ⟨some 15, .fieldAddr 33 (.tmp 14) 3, 0, "law.go:102", #[⟨1, .data⟩], none⟩
def las4f_o3 : Oper := ⟨some 16, .load 31 (.tmp 15), 31, "law.go:102", #[⟨2, .data⟩], none⟩
def las4f_o4 : Oper := ⟨some 17, .move (.tmp 3), 3, "law.go:102", #[], none⟩
def las4f_o5 : Oper := ⟨some 18, .indexAddr 31 (.tmp 16) (.tmp 17), 0, "law.go:102", #[⟨3, .data⟩, ⟨4, .data⟩], none⟩
def las4f_o6 : Oper := ⟨some 19, .load 3 (.tmp 18), 3, "law.go:102", #[⟨5, .data⟩], none⟩
def las4f_o7 : Oper := ⟨some 20, .binOp BinOp.gtr 3 (.tmp 19) (Operand.const (Value.int IntKind.i64 0)) 3, 4, "law.go:102", #[⟨6, .data⟩], none⟩
def las4f_o8 : Oper := ⟨some 21, .move (.tmp 20), 4, "law.go:102", #[⟨7, .data⟩], none⟩
def las4f_o9 : Oper := ⟨some 22, .move (.tmp 0), 25, "law.go:102", #[⟨8, .guard⟩], some (8, true)⟩
def las4f_o10 : Oper := ⟨some 23, .nilCheck (.tmp 22), 0, "law.go:102", #[⟨9, .data⟩, ⟨8, .guard⟩], some (8, true)⟩
def las4f_o11 : Oper := ⟨some 24, .fieldAddr 33 (.tmp 23) 3, 0, "law.go:102", #[⟨10, .data⟩, ⟨8, .guard⟩], some (8, true)⟩
def las4f_o12 : Oper := ⟨some 25, .load 31 (.tmp 24), 31, "law.go:102", #[⟨11, .data⟩, ⟨8, .guard⟩], some (8, true)⟩
def las4f_o13 : Oper := ⟨some 26, .move (.tmp 3), 3, "law.go:102", #[⟨8, .guard⟩], some (8, true)⟩
def las4f_o14 : Oper := ⟨some 27, .indexAddr 31 (.tmp 25) (.tmp 26), 0, "law.go:102", #[⟨12, .data⟩, ⟨13, .data⟩, ⟨8, .guard⟩], some (8, true)⟩
def las4f_o15 : Oper := ⟨some 28, .load 3 (.tmp 27), 3, "law.go:102", #[⟨14, .data⟩, ⟨8, .guard⟩], some (8, true)⟩
def las4f_o16 : Oper := ⟨some 29, .move (.tmp 0), 25, "law.go:102", #[⟨8, .guard⟩], some (8, true)⟩
def las4f_o17 : Oper := ⟨some 30, .nilCheck (.tmp 29), 0, "law.go:102", #[⟨16, .data⟩, ⟨8, .guard⟩], some (8, true)⟩
def las4f_o18 : Oper := ⟨some 31, .fieldAddr 33 (.tmp 30) 1, 0, "law.go:102", #[⟨17, .data⟩, ⟨8, .guard⟩], some (8, true)⟩
def las4f_o19 : Oper := ⟨some 32, .load 28 (.tmp 31), 28, "law.go:102", #[⟨18, .data⟩, ⟨8, .guard⟩], some (8, true)⟩
def las4f_o20 : Oper := ⟨some 33, .call { callee := Callee.value (Operand.func 38), args := #[.tmp 32], argTypes := #[28] }, 3, "law.go:102", #[⟨19, .data⟩, ⟨8, .chain⟩, ⟨8, .guard⟩], some (8, true)⟩
def las4f_o21 : Oper := ⟨some 34, .binOp BinOp.eql 3 (.tmp 28) (.tmp 33) 3, 4, "law.go:102", #[⟨15, .data⟩, ⟨20, .data⟩, ⟨8, .guard⟩], some (8, true)⟩
def las4f_o22 : Oper := ⟨some 35, .pick (.tmp 21) (.tmp 34) (Operand.const (Value.bool false)), 4, "law.go:102", #[⟨8, .data⟩, ⟨21, .data⟩], none⟩
def las4f_ops : Array Oper := #[las4f_o0, las4f_o1, las4f_o2, las4f_o3, las4f_o4, las4f_o5, las4f_o6, las4f_o7, las4f_o8, las4f_o9, las4f_o10, las4f_o11, las4f_o12, las4f_o13, las4f_o14, las4f_o15, las4f_o16, las4f_o17, las4f_o18, las4f_o19, las4f_o20, las4f_o21, las4f_o22]
theorem las4f {x g o n c i : Nat} {s : Int} (S : World → Prop) (a : Act) (w : World) (Q : Exit → Act → World → Prop) (zz : a.tmps.size = 37)
    (t0 : a.tmps.getD 0 undef = .pointer (some ⟨x, 0, none⟩))
    (t3 : a.tmps.getD 3 undef = .int .i64 (i : Int))
    (hi : i < n) (hm : n ≤ 9223372036854775807) (hs : ¬ s > 0) (h0 : S w.drew) (L2 : ∀ W, S W → (Instr.loadAt 31 (.pointer (some ⟨x, 0 + 3, none⟩))).run Tryd.prog W = .ok (.slice (some ⟨g, o, none⟩) n c) W) (L3 : ∀ W, S W → (Instr.loadAt 3 (.pointer (some ⟨g, o + i, none⟩))).run Tryd.prog W = .ok (.int .i64 s) W)
    (h : ∀ (a' : Act) (w' : World), S w' → a' = (((((((((((((((((((((((a).put (some 13) (.pointer (some ⟨x, 0, none⟩))).put (some 14) (.pointer (some ⟨x, 0, none⟩))).put (some 15) (.pointer (some ⟨x, 0 + 3, none⟩))).put (some 16) (.slice (some ⟨g, o, none⟩) n c)).put (some 17) (.int .i64 (i : Int))).put (some 18) (.pointer (some ⟨g, o + i, none⟩))).put (some 19) (.int .i64 s)).put (some 20) (.bool false)).put (some 21) (.bool false)).put (some 22) (undef)).put (some 23) (undef)).put (some 24) (undef)).put (some 25) (undef)).put (some 26) (undef)).put (some 27) (undef)).put (some 28) (undef)).put (some 29) (undef)).put (some 30) (undef)).put (some 31) (undef)).put (some 32) (undef)).put (some 33) (undef)).put (some 34) (undef)).put (some 35) (.bool false) → Q .normal a' w') :
    (Code.region 4 las4f_ops true).wp Tryd.prog Q a w := by
  refine y0 (fun w' => S w') (h0) (fun hHeld => ?_)
  refine yv 0 rfl rfl (fun w1 hw => exec_move rfl (zi t0 rfl)) hHeld ?_
  refine yv 1 rfl rfl (fun w1 hw => exec_nilCheck rfl (zg zz rfl)) hHeld ?_
  refine yv 2 rfl rfl (fun w1 hw => exec_fieldAt rfl (zg zz rfl) (fg_33_3 _ _ _)) hHeld ?_
  refine yv 3 rfl rfl (fun w1 hw => exec_load rfl (zg zz rfl) (L2 _ hw)) hHeld ?_
  refine yv 4 rfl rfl (fun w1 hw => exec_move rfl (zi t3 rfl)) hHeld ?_
  refine yv 5 rfl rfl (fun w1 hw => exec_indexAt rfl (zg zz rfl) (zg zz rfl) (ix_inl hi hm _)) hHeld ?_
  refine yv 6 rfl rfl (fun w1 hw => exec_load rfl (zg zz rfl) (L3 _ hw)) hHeld ?_
  refine yv (v := .bool false) 7 rfl rfl (fun w1 hw => ex_gti (decide_eq_false hs) rfl (zg zz rfl) rfl) hHeld ?_
  refine yv 8 rfl rfl (fun w1 hw => exec_move rfl (zg zz rfl)) hHeld ?_
  refine yn 9 rfl (zx zz rfl rfl rfl (zg zz rfl)) hHeld ?_
  refine yn 10 rfl (zx zz rfl rfl rfl (zg zz rfl)) hHeld ?_
  refine yn 11 rfl (zx zz rfl rfl rfl (zg zz rfl)) hHeld ?_
  refine yn 12 rfl (zx zz rfl rfl rfl (zg zz rfl)) hHeld ?_
  refine yn 13 rfl (zx zz rfl rfl rfl (zg zz rfl)) hHeld ?_
  refine yn 14 rfl (zx zz rfl rfl rfl (zg zz rfl)) hHeld ?_
  refine yn 15 rfl (zx zz rfl rfl rfl (zg zz rfl)) hHeld ?_
  refine yn 16 rfl (zx zz rfl rfl rfl (zg zz rfl)) hHeld ?_
  refine yn 17 rfl (zx zz rfl rfl rfl (zg zz rfl)) hHeld ?_
  refine yn 18 rfl (zx zz rfl rfl rfl (zg zz rfl)) hHeld ?_
  refine yn 19 rfl (zx zz rfl rfl rfl (zg zz rfl)) hHeld ?_
  refine yn 20 rfl (zx zz rfl rfl rfl (zg zz rfl)) hHeld ?_
  refine yn 21 rfl (zx zz rfl rfl rfl (zg zz rfl)) hHeld ?_
  refine yv 22 rfl rfl (fun w1 hw => exec_pickF rfl (zg zz rfl) rfl) hHeld ?_
  exact ye rfl (h _ _ (hHeld) rfl)
def las4t_o0 : Oper := ⟨some 13, .move (.tmp 0), 25, "law.go:102", #[], none⟩
def las4t_o1 : Oper := ⟨some 14, .nilCheck (.tmp 13), 0, "law.go:102", #[⟨0, .data⟩], none⟩
def las4t_o2 : Oper := ⟨some 15, .fieldAddr 33 (.tmp 14) 3, 0, "law.go:102", #[⟨1, .data⟩], none⟩
def las4t_o3 : Oper := ⟨some 16, .load 31 (.tmp 15), 31, "law.go:102", #[⟨2, .data⟩], none⟩
def las4t_o4 : Oper := ⟨some 17, .move (.tmp 3), 3, "law.go:102", #[], none⟩
def las4t_o5 : Oper := ⟨some 18, .indexAddr 31 (.tmp 16) (.tmp 17), 0, "law.go:102", #[⟨3, .data⟩, ⟨4, .data⟩], none⟩
def las4t_o6 : Oper := ⟨some 19, .load 3 (.tmp 18), 3, "law.go:102", #[⟨5, .data⟩], none⟩
def las4t_o7 : Oper := ⟨some 20, .binOp BinOp.gtr 3 (.tmp 19) (Operand.const (Value.int IntKind.i64 0)) 3, 4, "law.go:102", #[⟨6, .data⟩], none⟩
def las4t_o8 : Oper := ⟨some 21, .move (.tmp 20), 4, "law.go:102", #[⟨7, .data⟩], none⟩
def las4t_o9 : Oper := ⟨some 22, .move (.tmp 0), 25, "law.go:102", #[⟨8, .guard⟩], some (8, true)⟩
def las4t_o10 : Oper := ⟨some 23, .nilCheck (.tmp 22), 0, "law.go:102", #[⟨9, .data⟩, ⟨8, .guard⟩], some (8, true)⟩
def las4t_o11 : Oper := ⟨some 24, .fieldAddr 33 (.tmp 23) 3, 0, "law.go:102", #[⟨10, .data⟩, ⟨8, .guard⟩], some (8, true)⟩
def las4t_o12 : Oper := ⟨some 25, .load 31 (.tmp 24), 31, "law.go:102", #[⟨11, .data⟩, ⟨8, .guard⟩], some (8, true)⟩
def las4t_o13 : Oper := ⟨some 26, .move (.tmp 3), 3, "law.go:102", #[⟨8, .guard⟩], some (8, true)⟩
def las4t_o14 : Oper := ⟨some 27, .indexAddr 31 (.tmp 25) (.tmp 26), 0, "law.go:102", #[⟨12, .data⟩, ⟨13, .data⟩, ⟨8, .guard⟩], some (8, true)⟩
def las4t_o15 : Oper := ⟨some 28, .load 3 (.tmp 27), 3, "law.go:102", #[⟨14, .data⟩, ⟨8, .guard⟩], some (8, true)⟩
def las4t_o16 : Oper := ⟨some 29, .move (.tmp 0), 25, "law.go:102", #[⟨8, .guard⟩], some (8, true)⟩
def las4t_o17 : Oper := ⟨some 30, .nilCheck (.tmp 29), 0, "law.go:102", #[⟨16, .data⟩, ⟨8, .guard⟩], some (8, true)⟩
def las4t_o18 : Oper := ⟨some 31, .fieldAddr 33 (.tmp 30) 1, 0, "law.go:102", #[⟨17, .data⟩, ⟨8, .guard⟩], some (8, true)⟩
def las4t_o19 : Oper := ⟨some 32, .load 28 (.tmp 31), 28, "law.go:102", #[⟨18, .data⟩, ⟨8, .guard⟩], some (8, true)⟩
def las4t_o20 : Oper := ⟨some 33, .call { callee := Callee.value (Operand.func 38), args := #[.tmp 32], argTypes := #[28] }, 3, "law.go:102", #[⟨19, .data⟩, ⟨8, .chain⟩, ⟨8, .guard⟩], some (8, true)⟩
def las4t_o21 : Oper := ⟨some 34, .binOp BinOp.eql 3 (.tmp 28) (.tmp 33) 3, 4, "law.go:102", #[⟨15, .data⟩, ⟨20, .data⟩, ⟨8, .guard⟩], some (8, true)⟩
def las4t_o22 : Oper := ⟨some 35, .pick (.tmp 21) (.tmp 34) (Operand.const (Value.bool false)), 4, "law.go:102", #[⟨8, .data⟩, ⟨21, .data⟩], none⟩
def las4t_ops : Array Oper := #[las4t_o0, las4t_o1, las4t_o2, las4t_o3, las4t_o4, las4t_o5, las4t_o6, las4t_o7, las4t_o8, las4t_o9, las4t_o10, las4t_o11, las4t_o12, las4t_o13, las4t_o14, las4t_o15, las4t_o16, las4t_o17, las4t_o18, las4t_o19, las4t_o20, las4t_o21, las4t_o22]
theorem las4t {x d g o n c i : Nat} {s z : Int} {r : Bool} (S : World → Prop) (a : Act) (w : World) (Q : Exit → Act → World → Prop) (zz : a.tmps.size = 37)
    (t0 : a.tmps.getD 0 undef = .pointer (some ⟨x, 0, none⟩))
    (t3 : a.tmps.getD 3 undef = .int .i64 (i : Int))
    (hi : i < n) (hm : n ≤ 9223372036854775807) (hs : s > 0) (hr : (s == z) = r) (h0 : S w.drew) (L2 : ∀ W, S W → (Instr.loadAt 31 (.pointer (some ⟨x, 0 + 3, none⟩))).run Tryd.prog W = .ok (.slice (some ⟨g, o, none⟩) n c) W) (L3 : ∀ W, S W → (Instr.loadAt 3 (.pointer (some ⟨g, o + i, none⟩))).run Tryd.prog W = .ok (.int .i64 s) W) (L1 : ∀ W, S W → (Instr.loadAt 28 (.pointer (some ⟨x, 0 + 1, none⟩))).run Tryd.prog W = .ok (.pointer (some ⟨d, 0, none⟩)) W) (CS : Calls Tryd.prog 38 #[.pointer (some ⟨d, 0, none⟩)] w.drew fun e w' => e = .returned (.int .i64 z) ∧ S w')
    (h : ∀ (a' : Act) (w' : World), S w' → a' = (((((((((((((((((((((((a).put (some 13) (.pointer (some ⟨x, 0, none⟩))).put (some 14) (.pointer (some ⟨x, 0, none⟩))).put (some 15) (.pointer (some ⟨x, 0 + 3, none⟩))).put (some 16) (.slice (some ⟨g, o, none⟩) n c)).put (some 17) (.int .i64 (i : Int))).put (some 18) (.pointer (some ⟨g, o + i, none⟩))).put (some 19) (.int .i64 s)).put (some 20) (.bool true)).put (some 21) (.bool true)).put (some 22) (.pointer (some ⟨x, 0, none⟩))).put (some 23) (.pointer (some ⟨x, 0, none⟩))).put (some 24) (.pointer (some ⟨x, 0 + 3, none⟩))).put (some 25) (.slice (some ⟨g, o, none⟩) n c)).put (some 26) (.int .i64 (i : Int))).put (some 27) (.pointer (some ⟨g, o + i, none⟩))).put (some 28) (.int .i64 s)).put (some 29) (.pointer (some ⟨x, 0, none⟩))).put (some 30) (.pointer (some ⟨x, 0, none⟩))).put (some 31) (.pointer (some ⟨x, 0 + 1, none⟩))).put (some 32) (.pointer (some ⟨d, 0, none⟩))).put (some 33) (.int .i64 z)).put (some 34) (.bool r)).put (some 35) (.bool r) → Q .normal a' w') :
    (Code.region 4 las4t_ops true).wp Tryd.prog Q a w := by
  refine y0 (fun w' => S w') (h0) (fun hHeld => ?_)
  refine yv 0 rfl rfl (fun w1 hw => exec_move rfl (zi t0 rfl)) hHeld ?_
  refine yv 1 rfl rfl (fun w1 hw => exec_nilCheck rfl (zg zz rfl)) hHeld ?_
  refine yv 2 rfl rfl (fun w1 hw => exec_fieldAt rfl (zg zz rfl) (fg_33_3 _ _ _)) hHeld ?_
  refine yv 3 rfl rfl (fun w1 hw => exec_load rfl (zg zz rfl) (L2 _ hw)) hHeld ?_
  refine yv 4 rfl rfl (fun w1 hw => exec_move rfl (zi t3 rfl)) hHeld ?_
  refine yv 5 rfl rfl (fun w1 hw => exec_indexAt rfl (zg zz rfl) (zg zz rfl) (ix_inl hi hm _)) hHeld ?_
  refine yv 6 rfl rfl (fun w1 hw => exec_load rfl (zg zz rfl) (L3 _ hw)) hHeld ?_
  refine yv (v := .bool true) 7 rfl rfl (fun w1 hw => ex_gti (decide_eq_true hs) rfl (zg zz rfl) rfl) hHeld ?_
  refine yv 8 rfl rfl (fun w1 hw => exec_move rfl (zg zz rfl)) hHeld ?_
  refine yv 9 rfl (zw zz rfl rfl rfl (zg zz rfl)) (fun w1 hw => exec_move rfl (zi t0 rfl)) hHeld ?_
  refine yv 10 rfl (zw zz rfl rfl rfl (zg zz rfl)) (fun w1 hw => exec_nilCheck rfl (zg zz rfl)) hHeld ?_
  refine yv 11 rfl (zw zz rfl rfl rfl (zg zz rfl)) (fun w1 hw => exec_fieldAt rfl (zg zz rfl) (fg_33_3 _ _ _)) hHeld ?_
  refine yv 12 rfl (zw zz rfl rfl rfl (zg zz rfl)) (fun w1 hw => exec_load rfl (zg zz rfl) (L2 _ hw)) hHeld ?_
  refine yv 13 rfl (zw zz rfl rfl rfl (zg zz rfl)) (fun w1 hw => exec_move rfl (zi t3 rfl)) hHeld ?_
  refine yv 14 rfl (zw zz rfl rfl rfl (zg zz rfl)) (fun w1 hw => exec_indexAt rfl (zg zz rfl) (zg zz rfl) (ix_inl hi hm _)) hHeld ?_
  refine yv 15 rfl (zw zz rfl rfl rfl (zg zz rfl)) (fun w1 hw => exec_load rfl (zg zz rfl) (L3 _ hw)) hHeld ?_
  refine yv 16 rfl (zw zz rfl rfl rfl (zg zz rfl)) (fun w1 hw => exec_move rfl (zi t0 rfl)) hHeld ?_
  refine yv 17 rfl (zw zz rfl rfl rfl (zg zz rfl)) (fun w1 hw => exec_nilCheck rfl (zg zz rfl)) hHeld ?_
  refine yv 18 rfl (zw zz rfl rfl rfl (zg zz rfl)) (fun w1 hw => exec_fieldAt rfl (zg zz rfl) (fg_33_1 _ _ _)) hHeld ?_
  refine yv 19 rfl (zw zz rfl rfl rfl (zg zz rfl)) (fun w1 hw => exec_load rfl (zg zz rfl) (L1 _ hw)) hHeld ?_
  refine yc 20 rfl (zw zz rfl rfl rfl (zg zz rfl)) (exec_c1 rfl (zg zz rfl)) (CS) (fun e x20 hx => ?_)
  obtain ⟨rfl, S1⟩ := hx
  refine ⟨_, rfl, S1, fun hHeld => ?_⟩
  refine yv (v := .bool r) 21 rfl (zw zz rfl rfl rfl (zg zz rfl)) (fun w1 hw => ex_eqi hr rfl (zg zz rfl) (zg zz rfl)) hHeld ?_
  refine yv 22 rfl rfl (fun w1 hw => exec_pickT rfl (zg zz rfl) (zg zz rfl)) hHeld ?_
  exact ye rfl (h _ _ (S1) rfl)
theorem mem_take_succ {α : Type} {L : List α} {i : Nat} {x y : α} (h : L[i]? = some x) : y ∈ L.take (i + 1) ↔ y ∈ L.take i ∨ y = x := by
  rw [List.take_add_one, h]
  simp
theorem saw_any {w : World} {L : List IdK} (ok : ∀ x ∈ L, x.ok) (hn : L.length ≤ 9000000000000) {a : Option Addr} {c : Nat} (ha : RI.At w a L) {y : IdK} (hy : y.ok) :
    Calls Tryd.prog 33 #[.slice a L.length c, y.v] w fun e w' => e = .returned (.bool (decide (y ∈ L))) ∧ Below w.heap.size w w' := by
  obtain ⟨n, hnn⟩ : ∃ n, L.length = n := ⟨_, rfl⟩
  obtain ⟨w1, E1, n1, b1⟩ := box_id w y
  have H1 := hidMk E1
  have HL := hidMk (And.intro (ha.below b1) (And.intro ok (And.intro hnn (And.intro n1 b1))))
  rw [hnn] at hn ⊢
  obtain ⟨xb, hxb⟩ : ∃ xb, w.heap.size = xb := ⟨_, rfl⟩
  have HXB := hidMk hxb
  rw [hxb] at H1
  clear ha ok hnn E1 n1 b1 hxb
  go_enter Tryd.func33, Tryd.ntmps33
  go_wp2_with (first
    | (refine wpList_run rfl (exec_boxE (t := 38) (v := y.v) (u := .pointer (some ⟨xb, 0, none⟩)) (w2 := w1) rfl rfl H1.out) ?_)
    | fail)
  clear H1
  go_loopw [5] (fun v5 wr => ∃ i : Nat, v5 = .int .i64 (i : Int) ∧ i ≤ n ∧ Hid (Below w1.heap.size w1 wr ∧ ¬ y ∈ L.take i)) (fun v5 wr => n - (match v5 with | .int _ i => i.toNat | _ => 0))
  case atStart => exact ⟨0, rfl, Nat.zero_le _, Below.refl _ _, by simp⟩
  case round =>
    obtain ⟨i, rfl, hin, HI⟩ := hrel
    by_cases hi : i < n
    · obtain ⟨ha, ok, hnn, n1, b1⟩ := HL.out
      obtain ⟨x, hxi⟩ : ∃ x, L[i]? = some x := ⟨_, List.getElem?_eq_getElem (by omega)⟩
      have hx : x.ok := ok x (List.mem_of_getElem? hxi)
      obtain ⟨g, o, rfl, lg, hr⟩ : ∃ g o, a = some ⟨g, o, none⟩ ∧ g < w1.heap.size ∧ w1.rangeAt g (o + 33 * i) x.c := by
        rcases ha with h | ⟨g, o, e, h1, h2⟩
        · rw [h] at hxi; cases hxi
        · exact ⟨g, o, e, h1, h2 i x hxi⟩
      have bd : Below w1.heap.size w1 wr.drew := HI.out.1.drew
      have L1 : Hid ((Instr.loadAt 38 (.pointer (some ⟨g, o + 33 * i, none⟩))).run Tryd.prog wr.drew = .ok x.v wr.drew) := RowT.ld RI_is hx (rangeAt_keep hr (bd.block _ lg))
      have L2 : Hid ((Instr.loadAt 38 (.pointer (some ⟨xb, 0, none⟩))).run Tryd.prog wr.drew = .ok y.v wr.drew) := load_id hy ((bd.block xb (by have := (Array.getElem?_eq_some_iff.1 n1).1; rw [HXB.out] at this; exact this)).trans (by rw [← HXB.out]; exact n1))
      have HM := hidMk (And.intro bd (And.intro HI.out.2 (And.intro hxi (And.intro b1 hnn))))
      have h63 : n ≤ 9223372036854775807 := by omega
      clear hr lg ha ok hnn n1 b1 hxi bd HI
      go_upto_region 4 with fail
      refine saw4 (g := g) (o := o) (n := n) (c := c) (i := i) (xb := xb) (x := x) (y := y) _ wr _ rfl rfl rfl rfl hx hy hi h63 (fun W e => by rw [e]; exact L1.out) (fun W e => by rw [e]; exact L2.out) ?_
      intro a' w2 hf ha
      subst ha
      subst hf
      simp only [Act.put, List.setIfInBounds_toArray, List.set_cons_zero, List.set_cons_succ]
      clear L1 L2
      by_cases hxy : x = y
      · have HXY := hidMk hxy
        rw [show decide (x = y) = true from decide_eq_true hxy]
        clear hxy
        go_wp2
        go_ret
        obtain ⟨bd, h2, hxi, b1, hnn⟩ := HM.out
        refine ⟨?_, b1.trans (bd.mono b1.size)⟩
        rw [decide_eq_true (by rw [← HXY.out]; exact List.mem_of_getElem? hxi)]
        rfl
      · have HXY := hidMk hxy
        rw [show decide (x = y) = false from decide_eq_false hxy]
        clear hxy
        go_wp2
        rw [show ((i : Int) + 1) = ((i + 1 : Nat) : Int) by omega]
        refine ⟨⟨i + 1, rfl, hi, HM.out.1, ?_⟩, ?_⟩
        · rw [mem_take_succ HM.out.2.2.1]
          rintro (h | h)
          · exact HM.out.2.1 h
          · exact HXY.out h.symm
        · show n - ((i + 1 : Nat) : Int).toNat < n - (i : Int).toNat
          omega
    · obtain rfl : i = n := by omega
      go_wp2
      go_ret
      obtain ⟨ha, ok, hnn, n1, b1⟩ := HL.out
      refine ⟨?_, b1.trans (HI.out.1.mono b1.size)⟩
      have := HI.out.2
      rw [List.take_of_length_le (by omega)] at this
      rw [decide_eq_false this]
      rfl
structure SlV where
  a : Option Addr
  n : Nat
  c : Nat
def SlV.v (x : SlV) : Value := .slice x.a x.n x.c
def RT : RowT (PlK × SlV) := ⟨fun x => x.1.c ++ [x.2.v], fun x => x.1.ok, 68, 120, 122, 85, (zPl, ⟨none, 0, 0⟩)⟩
theorem RT_is : RT.Is := ⟨zPl_ok, fun x h => by show (x.1.c ++ [x.2.v]).length = 68; rw [List.length_append, PlK.len h]; rfl, fun x v hv => by
  rcases List.mem_append.1 hv with h | h
  · exact x.1.one v h
  · rw [List.mem_singleton.1 h]; rfl, Tryd.underlying85, by kernel_rfl, ⟨_, Tryd.underlying122, rfl⟩, by decide, by decide⟩
theorem rt_pl {w : World} {b o : Nat} {x : PlK × SlV} (hx : x.1.ok) (h : w.rangeAt b o (RT.c x)) : (Instr.loadAt 52 (.pointer (some ⟨b, o + 0, none⟩))).run Tryd.prog w = .ok x.1.v w :=
  ld_pl hx (fun j v hv => h j v (by
    show (x.1.c ++ [x.2.v])[j]? = _
    rw [List.getElem?_append_left (List.getElem?_eq_some_iff.1 hv).1]
    exact hv))
theorem rt_cell {w : World} {b o : Nat} {x : PlK × SlV} (hx : x.1.ok) (h : w.rangeAt b o (RT.c x)) : w.cell? ⟨b, o + 67, none⟩ = some x.2.v := h 67 _ (by
  show (x.1.c ++ [x.2.v])[67]? = _
  rw [List.getElem?_append_right (by rw [PlK.len hx]; omega), PlK.len hx]
  rfl)
theorem rt_en {w : World} {b o : Nat} {x : PlK × SlV} (hx : x.1.ok) (h : w.rangeAt b o (RT.c x)) : (Instr.loadAt 60 (.pointer (some ⟨b, o + 67, none⟩))).run Tryd.prog w = .ok x.2.v w := by
  have hc := rt_cell hx h
  unfold SlV.v at *
  go_simp
structure RfS (w : World) (d : Nat) (a : Option Addr) (c : Nat) (S : List (PlK × SlV)) (pv : SlV) : Prop where
  cell : w.heap[d]? = some (.cells #[.slice a S.length c, pv.v] 88 (0, 0))
  sl : RT.At w a S
  ok : ∀ x ∈ S, x.1.ok
theorem RfS.below {w w' : World} {d : Nat} {a : Option Addr} {c : Nat} {S : List (PlK × SlV)} {pv : SlV} (h : RfS w d a c S pv) (b : Below w.heap.size w w') : RfS w' d a c S pv := ⟨(b.block _ (Array.getElem?_eq_some_iff.1 h.cell).1).trans h.cell, h.sl.below b, h.ok⟩
theorem RfS.lds {w : World} {d : Nat} {a : Option Addr} {c : Nat} {S : List (PlK × SlV)} {pv : SlV} (h : RfS w d a c S pv) : (Instr.loadAt 85 (.pointer (some ⟨d, 0 + 0, none⟩))).run Tryd.prog w = .ok (.slice a S.length c) w := by
  have hc : w.cell? ⟨d, 0, none⟩ = some (.slice a S.length c) := (cell_of_row w d 0 _ _ _ h.cell).trans rfl
  go_simp
def fndI (S : List (PlK × SlV)) (p : PlK) : Int := match S.findIdx? (fun x => decide (x.1 = p)) with | some i => (i : Int) | none => -1
theorem fnd_none {S : List (PlK × SlV)} {p : PlK} (h : ∀ x ∈ S, x.1 ≠ p) : fndI S p = -1 := by
  unfold fndI
  rw [List.findIdx?_eq_none_iff.2 (fun x hx => by simpa using h x hx)]
theorem fnd_at {S : List (PlK × SlV)} {p : PlK} {i : Nat} {x : PlK × SlV} (hx : S[i]? = some x) (he : x.1 = p) (h : ∀ y ∈ S.take i, y.1 ≠ p) : fndI S p = i := by
  have hi := (List.getElem?_eq_some_iff.1 hx).1
  have : S.findIdx? (fun x => decide (x.1 = p)) = some i := by
    rw [List.findIdx?_eq_some_iff_getElem]
    refine ⟨hi, by rw [(List.getElem?_eq_some_iff.1 hx).2]; simpa using he, fun j hj => ?_⟩
    have := h S[j] (List.mem_take_iff_getElem.2 ⟨j, by omega, rfl⟩)
    simpa using this
  unfold fndI
  rw [this]
theorem find_any {w : World} {d : Nat} {a : Option Addr} {c : Nat} {S : List (PlK × SlV)} {pv : SlV} (h : RfS w d a c S pv) (hn : S.length ≤ 9000000000000) {p : PlK} (hp : p.ok) :
    Calls Tryd.prog 69 #[.pointer (some ⟨d, 0, none⟩), p.v] w fun e w' => e = .returned (.int .i64 (fndI S p)) ∧ Below w.heap.size w w' := by
  obtain ⟨n, hnn⟩ : ∃ n, S.length = n := ⟨_, rfl⟩
  obtain ⟨w1, E1, n1, b1⟩ := box_pl w p
  have H1 := hidMk E1
  have HL := hidMk (And.intro (h.below b1) (And.intro hnn (And.intro n1 b1)))
  rw [hnn] at hn
  obtain ⟨xb, hxb⟩ : ∃ xb, w.heap.size = xb := ⟨_, rfl⟩
  have HXB := hidMk hxb
  rw [hxb] at H1
  clear h hnn E1 n1 b1 hxb
  go_enter Tryd.func69, Tryd.ntmps69
  go_wp2_with (first
    | (refine wpList_run rfl (exec_boxE (t := 52) (v := p.v) (u := .pointer (some ⟨xb, 0, none⟩)) (w2 := w1) rfl rfl H1.out) ?_)
    | fail)
  clear H1
  go_loopw [5] (fun v5 wr => ∃ i : Nat, v5 = .int .i64 (i : Int) ∧ i ≤ n ∧ Hid (Below w1.heap.size w1 wr ∧ ∀ y ∈ S.take i, y.1 ≠ p)) (fun v5 wr => n - (match v5 with | .int _ i => i.toNat | _ => 0))
  case atStart => exact ⟨0, rfl, Nat.zero_le _, Below.refl _ _, by simp⟩
  case round =>
    obtain ⟨i, rfl, hin, HI⟩ := hrel
    have c0 : wr.cell? ⟨d, 0, none⟩ = some (.slice a n c) := by
      have hh := HL.out.1.below HI.out.1
      have := (cell_of_row wr d 0 _ _ _ hh.cell)
      rw [HL.out.2.1] at this
      exact this.trans rfl
    by_cases hi : i < n
    · obtain ⟨hs, hnn, n1, b1⟩ := HL.out
      obtain ⟨x, hxi⟩ : ∃ x, S[i]? = some x := ⟨_, List.getElem?_eq_getElem (by omega)⟩
      have hx : x.1.ok := hs.ok x (List.mem_of_getElem? hxi)
      obtain ⟨g, o, rfl, lg, hr⟩ : ∃ g o, a = some ⟨g, o, none⟩ ∧ g < w1.heap.size ∧ w1.rangeAt g (o + 68 * i) (RT.c x) := by
        rcases hs.sl with h | ⟨g, o, e, h1, h2⟩
        · rw [h] at hxi; cases hxi
        · exact ⟨g, o, e, h1, h2 i x hxi⟩
      have bd : Below w1.heap.size w1 wr.drew := HI.out.1.drew
      have L1 : Hid ((Instr.loadAt 85 (.pointer (some ⟨d, 0 + 0, none⟩))).run Tryd.prog wr.drew = .ok (.slice (some ⟨g, o, none⟩) n c) wr.drew) := by
        have := (hs.below bd).lds
        rw [hnn] at this
        exact this
      have L2 : Hid ((Instr.loadAt 52 (.pointer (some ⟨g, o + 68 * i + 0, none⟩))).run Tryd.prog wr.drew = .ok x.1.v wr.drew) := rt_pl hx (rangeAt_keep hr (bd.block _ lg))
      have L3 : Hid ((Instr.loadAt 52 (.pointer (some ⟨xb, 0, none⟩))).run Tryd.prog wr.drew = .ok p.v wr.drew) := ld_pl hp (rng_cells ((bd.block xb (by have := (Array.getElem?_eq_some_iff.1 n1).1; rw [HXB.out] at this; exact this)).trans (by rw [← HXB.out]; exact n1)))
      have HM := hidMk (And.intro bd (And.intro HI.out.2 (And.intro hxi (And.intro b1 hnn))))
      have h63 : n ≤ 9223372036854775807 := by omega
      clear hr lg hs hnn n1 b1 hxi bd HI
      go_upto_region 4 with fail
      clear c0
      refine fnd4 (d := d) (g := g) (o := o) (n := n) (c := c) (i := i) (pb := xb) (x := x.1) (p := p) _ wr _ rfl rfl rfl rfl hx hp hi h63 (fun W e => by rw [e]; exact L1.out) (fun W e => by rw [e]; exact L2.out) (fun W e => by rw [e]; exact L3.out) ?_
      intro a' w2 hf ha
      subst ha
      subst hf
      simp only [Act.put, List.setIfInBounds_toArray, List.set_cons_zero, List.set_cons_succ]
      clear L1 L2 L3
      by_cases hxy : x.1 = p
      · have HXY := hidMk hxy
        rw [show decide (x.1 = p) = true from decide_eq_true hxy]
        clear hxy
        go_wp2
        go_ret
        obtain ⟨bd, h2, hxi, b1, hnn⟩ := HM.out
        refine ⟨?_, b1.trans (bd.mono b1.size)⟩
        rw [fnd_at hxi HXY.out h2]
        rfl
      · have HXY := hidMk hxy
        rw [show decide (x.1 = p) = false from decide_eq_false hxy]
        clear hxy
        go_wp2
        rw [show ((i : Int) + 1) = ((i + 1 : Nat) : Int) by omega]
        refine ⟨⟨i + 1, rfl, hi, HM.out.1, fun y hy => ?_⟩, ?_⟩
        · rw [mem_take_succ HM.out.2.2.1] at hy
          rcases hy with h | h
          · exact HM.out.2.1 y h
          · rw [h]; exact HXY.out
        · show n - ((i + 1 : Nat) : Int).toNat < n - (i : Int).toNat
          omega
    · obtain rfl : i = n := by omega
      go_wp2
      go_ret
      obtain ⟨hs, hnn, n1, b1⟩ := HL.out
      refine ⟨?_, b1.trans (HI.out.1.mono b1.size)⟩
      have h2 := HI.out.2
      rw [List.take_of_length_le (by omega)] at h2
      rw [fnd_none h2]
      rfl
theorem dup_en {w : World} {base : Nat} {lv : Value} {L : List EnV} (hL : RN.Lo w base lv L) (ok : ∀ x ∈ L, x.ok) (hn : L.length ≤ 2500000000000) :
    ∃ e0 w1 ea ec w2, (Instr.buildSlice 60 0 #[]).run Tryd.prog w = .ok e0 w1 ∧ Below w.heap.size w w1 ∧ (Builtin.append_ #[60, 60] 60 #[e0, lv]).run Tryd.prog w1 = .ok (.slice ea L.length ec) w2 ∧ RN.Own w2 w.heap.size (.slice ea L.length ec) L ∧ Below w.heap.size w w2 := by
  have b1 : Below w.heap.size w (w.alloc (.cells #[] 63)) := (Below.refl _ _).alloc (Nat.le_refl _) _
  have o1 : RN.Own (w.alloc (.cells #[] 63)) w.heap.size (.slice (some ⟨w.heap.size, 0, none⟩) 0 0) [] := ⟨by simp [RowT.flat], .inr ⟨w.heap.size, 0, #[], rfl, Nat.le_refl _, heap_alloc_new _ _, Nat.le_refl _, by decide, by simp, by simp [RowT.flat]⟩⟩
  obtain ⟨a, c, rfl, hat, hc, hcm, _⟩ := hL.open RN_is ok
  obtain ⟨v', w2, e2, o2, g2, q2⟩ := RowT.run_app RN_is _ w.heap.size _ [] a L c o1 (hat.below b1) ok (by simp; unfold maxLen; omega) (by show _ * 80 ≤ _; simp; omega) b1.size
  have B2 : Below w.heap.size w w2 := b1.grown g2 b1.size (fun k hk => (o1.cells hk).1)
  obtain ⟨ea, ec, rfl⟩ := o2.form
  exact ⟨_, _, ea, ec, w2, bs_en0 w, b1, e2, o2, B2⟩
abbrev Sls := List ((PlK × SlV) × List EnV)
def Sls.row (X : Sls) : List (PlK × SlV) := X.map (·.1)
def Sls.key (X : Sls) : List (PlK × List EnV) := X.map (fun q => (q.1.1, q.2))
def SlsAt (w : World) (base : Nat) (X : Sls) : Prop := ∀ q ∈ X, RN.Lo w base q.1.2.v q.2 ∧ q.1.1.ok ∧ (∀ x ∈ q.2, x.ok) ∧ q.2.length ≤ 2500000000000
theorem SlsAt.below {w w' : World} {base : Nat} {X : Sls} (h : SlsAt w base X) (b : Below w.heap.size w w') : SlsAt w' base X := fun q hq => ⟨(h q hq).1.below b, (h q hq).2⟩
theorem SlsAt.mono {w : World} {base b2 : Nat} {X : Sls} (h : SlsAt w base X) (hb : b2 ≤ base) : SlsAt w b2 X := fun q hq => ⟨(h q hq).1.mono hb, (h q hq).2⟩
theorem SlsAt.keep {w w' : World} {base : Nat} {X : Sls} (h : SlsAt w base X) {O : Nat → Prop} (t : Tch O w w') (hO : ∀ j c, w.heap[j]? = some (.cells c 63 (0, 0)) → ¬ O j) : SlsAt w' base X := fun q hq => ⟨(h q hq).1.keep (fun k hk => by
  obtain ⟨_, c, hc⟩ := (h q hq).1.cells hk
  exact t.block k ((h q hq).1.lt hk) (hO k c hc)), (h q hq).2⟩
theorem copied_any {w : World} {base : Nat} {X : Sls} (hX : SlsAt w base X) (hn : X.length ≤ 1500000000000) {a : Option Addr} {c : Nat} (ha : RT.At w a X.row) :
    Calls Tryd.prog 47 #[.slice a X.length c] w fun e w' => ∃ (v : SlV) (Y : Sls), e = .returned v.v ∧ Y.key = X.key ∧ RT.Own w' w.heap.size v.v Y.row ∧ SlsAt w' w.heap.size Y ∧ Below w.heap.size w w' := by
  obtain ⟨n, hnn⟩ : ∃ n, X.length = n := ⟨_, rfl⟩
  have HL := hidMk (And.intro ha (And.intro hX hnn))
  rw [hnn] at hn ⊢
  clear ha hX hnn
  go_enter Tryd.func47, Tryd.ntmps47
  go_wp2
  go_loopw [3, 4] (fun v3 v4 wr => ∃ i : Nat, v4 = .int .i64 (i : Int) ∧ i ≤ n ∧ Hid (∃ (v : SlV) (Y : Sls), v3 = v.v ∧ Y.key = Sls.key (X.take i) ∧ RT.Own wr w.heap.size v.v Y.row ∧ SlsAt wr w.heap.size Y ∧ Below w.heap.size w wr)) (fun _ v4 wr => n - (match v4 with | .int _ i => i.toNat | _ => 0))
  case atStart => exact ⟨0, rfl, Nat.zero_le _, ⟨none, 0, 0⟩, [], rfl, by simp [Sls.key], RowT.own_nil RT _ _, (fun q hq => by cases hq), Below.refl _ _⟩
  case round =>
    obtain ⟨i, rfl, hin, HI⟩ := hrel
    obtain ⟨v, Y, rfl, hk, ho, hs, bel⟩ := HI.out
    by_cases hi : i < n
    · obtain ⟨ha, hX, hnn⟩ := HL.out
      obtain ⟨q, hxi⟩ : ∃ q, X[i]? = some q := ⟨_, List.getElem?_eq_getElem (by omega)⟩
      obtain ⟨hlo, hp, hqo, hqn⟩ := hX q (List.mem_of_getElem? hxi)
      obtain ⟨g, o, rfl, lg, hr⟩ : ∃ g o, a = some ⟨g, o, none⟩ ∧ g < w.heap.size ∧ w.rangeAt g (o + 68 * i) (RT.c q.1) := by
        rcases ha with h | ⟨g, o, e, h1, h2⟩
        · have : X = [] := by simpa [Sls.row] using h
          rw [this] at hxi; cases hxi
        · exact ⟨g, o, e, h1, h2 i q.1 (by rw [Sls.row, List.getElem?_map, hxi]; rfl)⟩
      have bd : Below wr.heap.size wr wr.drew := (Below.refl _ _).drew
      have beld : Below w.heap.size w wr.drew := bel.drew
      have hlod : RN.Lo wr.drew base q.1.2.v q.2 := hlo.below beld
      obtain ⟨e0, w1, ea, ec, w2, E1, b1, E2, o2, b2⟩ := dup_en hlod hqo hqn
      have hy : Y.length = i := by
        have := congrArg List.length hk
        simpa [Sls.key, Nat.min_eq_left (show i ≤ X.length by omega)] using this
      have ho2 : RT.Own w2 w.heap.size v.v Y.row := (ho.below bd).below b2
      obtain ⟨bv, w3, ov, w4, E3, E4, o4, b3, z3, g4, q4⟩ := RowT.run_push RT_is w2 w.heap.size v.v Y.row (q.1.1, ⟨ea, q.2.length, ec⟩) ho2 hp (by rw [Sls.row, List.length_map, hy]; unfold maxLen; omega) (by rw [Sls.row, List.length_map, hy]; show _ * 120 ≤ _; omega) (Nat.le_trans bel.size b2.size)
      have bel2 : Below w.heap.size w w2 := beld.trans (b2.mono beld.size)
      have bel3 : Below w.heap.size w w3 := bel2.trans (b3.mono bel2.size)
      have ho3 := ho2.below b3
      have bel4 : Below w.heap.size w w4 := bel3.grown g4 bel3.size (fun k hk => (ho3.cells hk).1)
      obtain ⟨oa, oc, eo⟩ := o4.form
      have hs4 : SlsAt w4 w.heap.size (Y ++ [((q.1.1, ⟨ea, q.2.length, ec⟩), q.2)]) := by
        have t : Tch (fun j => v.v.ownBlock = some j) w3 w4 := ⟨g4.os, g4.tape, g4.output, g4.size, fun j hj hn => g4.block j hj (fun e => hn e.symm)⟩
        have hO : ∀ j c, w3.heap[j]? = some (.cells c 63 (0, 0)) → ¬ (v.v.ownBlock = some j) := fun j c hc e => by
          obtain ⟨_, c2, hc2⟩ := ho3.cells e
          rw [hc] at hc2
          injection hc2 with hc2
          injection hc2 with _ h2 _
          revert h2
          decide
        have s3 : SlsAt w3 w.heap.size (Y ++ [((q.1.1, ⟨ea, q.2.length, ec⟩), q.2)]) := fun z hz => by
          rcases List.mem_append.1 hz with h | h
          · exact (((hs.below bd).below b2).below b3) z h
          · rw [List.mem_singleton.1 h]
            exact ⟨(o2.lo.mono bel.size).below b3, hp, hqo, hqn⟩
        exact s3.keep t hO
      have NX := hidMk (show ∃ (v' : SlV) (Y' : Sls), ov = v'.v ∧ Y'.key = Sls.key (X.take (i + 1)) ∧ RT.Own w4 w.heap.size v'.v Y'.row ∧ SlsAt w4 w.heap.size Y' ∧ Below w.heap.size w w4 from ⟨⟨oa, _, oc⟩, Y ++ [((q.1.1, ⟨ea, q.2.length, ec⟩), q.2)], eo, by
        unfold Sls.key at *
        rw [List.map_append, hk, List.take_add_one, hxi]
        simp, by
        have : Sls.row (Y ++ [((q.1.1, ⟨ea, q.2.length, ec⟩), q.2)]) = Y.row ++ [(q.1.1, ⟨ea, q.2.length, ec⟩)] := by simp [Sls.row]
        rw [this]
        show RT.Own w4 w.heap.size (.slice oa _ oc) _
        rw [← eo]
        exact o4, hs4, bel4⟩)
      have LD := hidMk (show ∀ W, Below w.heap.size w W → (Instr.loadAt 52 (.pointer (some ⟨g, o + 68 * i + 0, none⟩))).run Tryd.prog W = .ok q.1.1.v W ∧ (Instr.loadAt 60 (.pointer (some ⟨g, o + 68 * i + 67, none⟩))).run Tryd.prog W = .ok q.1.2.v W from fun W b => ⟨rt_pl hp (rangeAt_keep hr (b.block _ lg)), rt_en hp (rangeAt_keep hr (b.block _ lg))⟩)
      have HE := hidMk (And.intro E1 (And.intro E2 (And.intro E3 E4)))
      have HB := hidMk (And.intro beld (And.intro (beld.trans (b1.mono beld.size)) (And.intro bel2 (And.intro bel3 bel4))))
      have h63 : n ≤ 9223372036854775807 := by omega
      clear E1 E2 E3 E4 hs4 o4 o2 ho2 ho3 g4 q4 z3 b1 b2 b3 bel2 bel3 bel4 eo hlod hlo hr lg hk ho hs bel HI hX ha hnn hxi bd beld hy
      go_upto_region 5 with fail
      refine cpy5 (g := g) (o := o) (n := n) (c := c) (i := i) (en := q.2.length) (ec := ec) (ea := ea) (p := q.1.1) (lv := q.1.2.v) (ov := v.v) (e0 := e0) (bv := bv) (ov2 := ov) (w1 := w1) (w2 := w2) (w3 := w3) (w4 := w4) (fun W => Below w.heap.size w W) _ wr _ rfl rfl rfl rfl hp hi h63 HB.out.1 (fun W b => (LD.out W b).1) (fun W b => (LD.out W b).2) HE.out.1 HB.out.2.1 HE.out.2.1 HB.out.2.2.1 HE.out.2.2.1 HB.out.2.2.2.1 HE.out.2.2.2 HB.out.2.2.2.2 ?_
      intro a' w5 hf ha
      subst ha
      subst hf
      simp only [Act.put, List.setIfInBounds_toArray, List.set_cons_zero, List.set_cons_succ]
      clear HE HB LD
      go_wp2
      rw [show ((i : Int) + 1) = ((i + 1 : Nat) : Int) by omega]
      refine ⟨⟨i + 1, rfl, hi, NX.out⟩, ?_⟩
      show n - ((i + 1 : Nat) : Int).toNat < n - (i : Int).toNat
      omega
    · obtain rfl : i = n := by omega
      have HR := hidMk (And.intro hk (And.intro ho (And.intro hs bel)))
      clear hk ho hs bel HI
      go_wp2
      go_ret
      obtain ⟨hk, ho, hs, bel⟩ := HR.out
      obtain ⟨_, _, hnn⟩ := HL.out
      rw [List.take_of_length_le (by omega)] at hk
      exact ⟨v, Y, rfl, hk, ho, hs, bel⟩
def Vals (w : World) (a : Option Addr) (X : List Value) : Prop := X = [] ∨ ∃ b off, a = some ⟨b, off, none⟩ ∧ ∀ j u, X[j]? = some u → w.cell? ⟨b, off + j, none⟩ = some u
def OwnV (w : World) (base : Nat) (e : TypeId) (v : Value) (X : List Value) : Prop := w.ownsRow base e 1 v X.length X
theorem Vals.below {w w' : World} {a : Option Addr} {X : List Value} (h : Vals w a X) (hb : Below w.heap.size w w') : Vals w' a X := by
  rcases h with rfl | ⟨b, off, rfl, hc⟩
  · exact .inl rfl
  · exact .inr ⟨b, off, rfl, fun j u hj => (hb.cell (p := ⟨b, off + j, none⟩) (block_lt_of_cell (hc j u hj))).trans (hc j u hj)⟩
theorem OwnV.below {w w' : World} {base : Nat} {e : TypeId} {v : Value} {X : List Value} (h : OwnV w base e v X) (hb : Below w.heap.size w w') : OwnV w' base e v X := by
  refine ⟨h.1, ?_⟩
  rcases h.2 with hn | ⟨g, cap, cur, rfl, hbg, hg, rest⟩
  · exact .inl hn
  · exact .inr ⟨g, cap, cur, rfl, hbg, by rw [hb.block g (Array.getElem?_eq_some_iff.1 hg).1]; exact hg, rest⟩
theorem OwnV.keep {w w' : World} {base : Nat} {e : TypeId} {v : Value} {X : List Value} (h : OwnV w base e v X) (hk : ∀ k, v.ownBlock = some k → w'.heap[k]? = w.heap[k]?) : OwnV w' base e v X := by
  refine ⟨h.1, ?_⟩
  rcases h.2 with hn | ⟨g, cap, cur, rfl, hbg, hg, rest⟩
  · exact .inl hn
  · exact .inr ⟨g, cap, cur, rfl, hbg, by rw [hk g rfl]; exact hg, rest⟩
theorem OwnV.ge {w : World} {base : Nat} {e : TypeId} {v : Value} {X : List Value} (h : OwnV w base e v X) : ∀ j, v.ownBlock = some j → base ≤ j ∧ ∃ c, w.heap[j]? = some (.cells c e (0, 0)) := by
  intro j hj
  rcases h.2 with ⟨rfl, hn⟩ | ⟨g, cap, cur, rfl, hbg, hg, rest⟩
  · cases hj
  · obtain rfl : g = j := by simpa [Value.ownBlock] using hj
    exact ⟨hbg, _, hg⟩
theorem OwnV.open {w : World} {base : Nat} {e : TypeId} {v : Value} {X : List Value} (h : OwnV w base e v X) :
    ∃ a cap, v = .slice a X.length cap ∧ X.length ≤ cap ∧ Vals w a X ∧ (a = none → X = [] ∧ cap = 0) := by
  rcases h.2 with ⟨rfl, hn⟩ | ⟨g, cap, cur, rfl, hbg, hg, hnc, hcm, hcs, htake⟩
  · obtain rfl : X = [] := List.eq_nil_of_length_eq_zero hn
    exact ⟨none, 0, rfl, Nat.le_refl _, .inl rfl, fun _ => ⟨rfl, rfl⟩⟩
  · refine ⟨some ⟨g, 0, none⟩, cap, rfl, hnc, .inr ⟨g, 0, rfl, fun j u hj => ?_⟩, fun h => by cases h⟩
    rw [Nat.zero_add, cell_of_row w g j cur e (0, 0) hg]
    rw [← htake, List.getElem?_take] at hj
    split at hj
    · simpa using hj
    · cases hj
theorem run_appV (T e y : TypeId) (z : Value) (ht : Tryd.prog.underlying T = some (.slice e)) (hi : (Tryd.prog.info? e).map (fun i => (i.zero, i.size, i.bytes)) = some (some z, 1, y)) (hy : y = 8 ∨ y = 24) (hz1 : z.cells.size = 1)
    (w : World) (base : Nat) (ty : TypeId) (v : Value) (L : List Value) (a : Option Addr) (M : List Value) (c : Nat) (hown : OwnV w base e v L) (hb : Vals w a M) (h1 : ∀ u ∈ M, u.oneCell' = true)
    (h : L.length + M.length ≤ 2200000000000) (hbase : base ≤ w.heap.size) :
    ∃ v' w', (Builtin.append_ #[T, T] ty #[v, .slice a M.length c]).run Tryd.prog w = .ok v' w' ∧ OwnV w' base e v' (L ++ M) ∧ w.grownBy w' v.ownBlock ∧ (v'.ownBlock = v.ownBlock ∨ v'.ownBlock = some w.heap.size) := by
  obtain ⟨i, hi, hz, hs, hby⟩ := info_parts hi
  cases a with
  | some ad =>
    have hnews : ∀ j u, M[j]? = some u → w.cell? (ad.add j) = some u := fun j u hj => by
      rcases hb with rfl | ⟨b, off, e, hc⟩
      · simp at hj
      · cases e
        rw [Addr.add_mid]
        exact hc j u hj
    obtain ⟨v', w', hr, h2, h3, h5⟩ := app_at (P := Tryd.prog) w base T ty e i z 1 y ht hi hz hs hby hz1 (by decide) v L.length L hown ad M.length c M (by omega) hnews h1 (by unfold maxLen; omega) (by rcases hy with rfl | rfl <;> omega) hbase
    refine ⟨v', w', hr, ?_, h3, h5⟩
    unfold OwnV
    rw [List.length_append]
    exact h2
  | none =>
    obtain rfl : M = [] := by
      rcases hb with rfl | ⟨b, off, e, _⟩
      · rfl
      · cases e
    rcases hown.2 with ⟨rfl, hn⟩ | ⟨g, cap, cur, rfl, hbg, hg, hnc, rest⟩
    · refine ⟨.slice none 0 0, w, ?_, by rw [List.append_nil]; exact hown, ⟨rfl, rfl, rfl, Nat.le_refl _, fun _ _ _ => rfl⟩, .inl rfl⟩
      simp [Builtin.append_, run_underlying ht, sizeOf, typeInfo, hi, Builtin.lenOf, Builtin.firstCells, loadCells, loadCellsFrom]
    · refine ⟨.slice (some ⟨g, 0, none⟩) L.length cap, w, ?_, by rw [List.append_nil]; exact hown, ⟨rfl, rfl, rfl, Nat.le_refl _, fun _ _ _ => rfl⟩, .inl rfl⟩
      simp [Builtin.append_, run_underlying ht, sizeOf, typeInfo, hi, Builtin.lenOf, Builtin.firstCells, hnc, storeCells]
def ren4_o0 : Oper := ⟨some 11, .buildSlice 60 0 #[], 60, "ref.go:146", #[], none⟩
def ren4_o1 : Oper := ⟨some 12, .move (.tmp 0), 28, "ref.go:146", #[], none⟩
def ren4_o2 : Oper := ⟨some 13, .nilCheck (.tmp 12), 0, "ref.go:146", #[⟨1, .data⟩], none⟩
def ren4_o3 : Oper := ⟨some 14, .fieldAddr 88 (.tmp 13) 0, 0, "ref.go:146", #[⟨2, .data⟩], none⟩
def ren4_o4 : Oper := ⟨some 15, .load 85 (.tmp 14), 85, "ref.go:146", #[⟨3, .data⟩], none⟩
def ren4_o5 : Oper := ⟨some 16, .move (.tmp 5), 3, "ref.go:146", #[], none⟩
def ren4_o6 : Oper := ⟨some 17, .indexAddr 85 (.tmp 15) (.tmp 16), 0, "ref.go:146", #[⟨4, .data⟩, ⟨5, .data⟩], none⟩
def ren4_o7 : Oper := ⟨some 18, .fieldAddr 122 (.tmp 17) 1, 0, "ref.go:146", #[⟨6, .data⟩], none⟩
def ren4_o8 : Oper := ⟨some 19, .load 60 (.tmp 18), 60, "ref.go:146", #[⟨7, .data⟩], none⟩
def ren4_o9 : Oper := ⟨some 20, .call { callee := Callee.builtin Builtin.append, args := #[.tmp 11, .tmp 19], argTypes := #[60, 60] }, 60, "ref.go:146", #[⟨0, .data⟩, ⟨8, .data⟩], none⟩
def ren4_o10 : Oper := ⟨some 4, .assign (.tmp 20), 60, "ref.go:146", #[⟨9, .data⟩, ⟨9, .chain⟩, ⟨0, .phase⟩, ⟨1, .phase⟩, ⟨2, .phase⟩, ⟨3, .phase⟩, ⟨4, .phase⟩, ⟨5, .phase⟩, ⟨6, .phase⟩, ⟨7, .phase⟩, ⟨8, .phase⟩, ⟨9, .phase⟩], none⟩
def ren4_ops : Array Oper := #[ren4_o0, ren4_o1, ren4_o2, ren4_o3, ren4_o4, ren4_o5, ren4_o6, ren4_o7, ren4_o8, ren4_o9, ren4_o10]
theorem ren4 {d g o n c i : Nat} {lv e0 ev : Value} {w1 w2 : World} (a : Act) (w : World) (Q : Exit → Act → World → Prop) (zz : a.tmps.size = 21)
    (t0 : a.tmps.getD 0 undef = .pointer (some ⟨d, 0, none⟩))
    (t5 : a.tmps.getD 5 undef = .int .i64 (i : Int))
    (hi : i < n) (hm : n ≤ 9223372036854775807) (L1 : ∀ W, W = w1 → (Instr.loadAt 85 (.pointer (some ⟨d, 0 + 0, none⟩))).run Tryd.prog W = .ok (.slice (some ⟨g, o, none⟩) n c) W) (L2 : ∀ W, W = w1 → (Instr.loadAt 60 (.pointer (some ⟨g, o + 68 * i + 67, none⟩))).run Tryd.prog W = .ok (lv) W) (E1 : (Instr.buildSlice 60 0 #[]).run Tryd.prog w = .ok e0 w1) (E2 : (Builtin.append_ #[60, 60] 60 #[e0, lv]).run Tryd.prog w1 = .ok ev w2)
    (h : ∀ (a' : Act) (w' : World), w' = w2 → a' = (((((((((((a).put (some 11) (e0)).put (some 12) (.pointer (some ⟨d, 0, none⟩))).put (some 13) (.pointer (some ⟨d, 0, none⟩))).put (some 14) (.pointer (some ⟨d, 0 + 0, none⟩))).put (some 15) (.slice (some ⟨g, o, none⟩) n c)).put (some 16) (.int .i64 (i : Int))).put (some 17) (.pointer (some ⟨g, o + 68 * i, none⟩))).put (some 18) (.pointer (some ⟨g, o + 68 * i + 67, none⟩))).put (some 19) (lv)).put (some 20) (ev)).put (some 4) (ev) → Q .normal a' w') :
    (Code.region 4 ren4_ops false).wp Tryd.prog Q a w := by
  refine z0 rfl ?_
  refine zv (v := e0) rfl (exec_bs0 rfl E1) ?_
  refine zv rfl (exec_move rfl (zi t0 rfl)) ?_
  refine zv rfl (exec_nilCheck rfl (zg zz rfl)) ?_
  refine zv rfl (exec_fieldAt rfl (zg zz rfl) (fg_88_0 _ _ _)) ?_
  refine zv rfl (exec_load rfl (zg zz rfl) (L1 _ rfl)) ?_
  refine zv rfl (exec_move rfl (zi t5 rfl)) ?_
  refine zv rfl (exec_indexAt rfl (zg zz rfl) (zg zz rfl) (ix_sl hi hm _)) ?_
  refine zv rfl (exec_fieldAt rfl (zg zz rfl) (fg_122_1 _ _ _)) ?_
  refine zv rfl (exec_load rfl (zg zz rfl) (L2 _ rfl)) ?_
  refine zv (v := ev) rfl (exec_append rfl (zg zz rfl) (zg zz rfl) E2) ?_
  refine zv rfl (exec_assign rfl (zg zz rfl)) ?_
  exact ze rfl (h _ _ (rfl) rfl)
structure SlOk (X : Sls) : Prop where
  nd : (X.map (·.1.1)).Nodup
  ne : ∀ q ∈ X, q.2 ≠ []
structure RfP (B : Nat) (w : World) (d : Nat) (X : Sls) (v : SlV) (pv : Value) (H : List (SlV × Sls)) : Prop where
  cell : w.heap[d]? = some (.cells #[v.v, pv] 88 (0, 0))
  sl : RT.Own w B v.v X.row
  en : SlsAt w B X
  past : OwnV w B 85 pv (H.map (·.1.v))
  ph : ∀ h ∈ H, RT.Own w B h.1.v h.2.row ∧ SlsAt w B h.2 ∧ SlOk h.2
  dB : B ≤ d
  ap : ∀ h ∈ H, ∀ j, h.1.v.ownBlock = some j → v.v.ownBlock ≠ some j
  ap2 : H.Pairwise (fun a b => ∀ j, a.1.v.ownBlock = some j → b.1.v.ownBlock ≠ some j)
  ok : SlOk X
def rfB (d : Nat) (v : SlV) (pv : Value) (H : List (SlV × Sls)) (j : Nat) : Prop := j = d ∨ v.v.ownBlock = some j ∨ pv.ownBlock = some j ∨ ∃ h ∈ H, h.1.v.ownBlock = some j
section
variable {B : Nat} {w w' : World} {d : Nat} {X : Sls} {v : SlV} {pv : Value} {H : List (SlV × Sls)}
theorem RfP.keep {O : Nat → Prop} (h : RfP B w d X v pv H) (t : Tch O w w') (hO : ∀ j, rfB d v pv H j → ¬ O j) (hE : ∀ j c, w.heap[j]? = some (.cells c 63 (0, 0)) → B ≤ j → ¬ O j) : RfP B w' d X v pv H := by
  have ke : ∀ Y, SlsAt w B Y → SlsAt w' B Y := fun Y hY q hq => ⟨(hY q hq).1.keep (fun k hk => by
    obtain ⟨hb, c, hc⟩ := (hY q hq).1.cells hk
    exact t.block k ((hY q hq).1.lt hk) (hE k c hc hb)), (hY q hq).2⟩
  refine ⟨(t.block d (Array.getElem?_eq_some_iff.1 h.cell).1 (hO d (.inl rfl))).trans h.cell, h.sl.keep fun j hj => t.block j (h.sl.lt hj) (hO j (.inr (.inl hj))), ke X h.en, h.past.keep fun j hj => ?_, fun q hq => ⟨(h.ph q hq).1.keep fun j hj => t.block j ((h.ph q hq).1.lt hj) (hO j (.inr (.inr (.inr ⟨q, hq, hj⟩)))), ke _ (h.ph q hq).2.1, (h.ph q hq).2.2⟩, h.dB, h.ap, h.ap2, h.ok⟩
  obtain ⟨_, c, hc⟩ := h.past.ge j hj
  exact t.block j (Array.getElem?_eq_some_iff.1 hc).1 (hO j (.inr (.inr (.inl hj))))
theorem RfP.below (h : RfP B w d X v pv H) (b : Below w.heap.size w w') : RfP B w' d X v pv H :=
  h.keep (O := fun _ => False) ⟨b.os, b.tape, b.output, b.size, fun k hk _ => b.block k hk⟩ (fun _ _ q => q) (fun _ _ _ _ q => q)
theorem Sls.row_ok (h : SlsAt w B X) : ∀ x ∈ X.row, RT.ok x := fun x hx => by
  obtain ⟨q, hq, rfl⟩ := List.mem_map.1 hx
  exact (h q hq).2.1
theorem RfP.rfS (h : RfP B w d X v pv H) : ∃ a c, v.v = .slice a X.length c ∧ RT.At w a X.row := by
  obtain ⟨a, c, e, hat, _⟩ := h.sl.open RT_is (Sls.row_ok h.en)
  rw [show X.row.length = X.length by simp [Sls.row]] at e
  exact ⟨a, c, e, hat⟩
theorem RfP.pastS (h : RfP B w d X v pv H) : ∃ p : SlV, pv = p.v := by
  obtain ⟨a, c, e, _⟩ := h.past.open
  exact ⟨⟨a, _, c⟩, e⟩
def entF (X : Sls) (p : PlK) : List EnV := ((X.find? (fun q => decide (q.1.1 = p))).map (·.2)).getD []
theorem fnd_ent (X : Sls) (p : PlK) : (fndI X.row p = -1 ∧ entF X p = []) ∨ ∃ (i : Nat) (q : (PlK × SlV) × List EnV), fndI X.row p = (i : Int) ∧ X[i]? = some q ∧ q.1.1 = p ∧ entF X p = q.2 := by
  unfold fndI entF Sls.row
  rw [List.findIdx?_map]
  cases e : X.findIdx? ((fun x : PlK × SlV => decide (x.1 = p)) ∘ (·.1)) with
  | none =>
    refine .inl ⟨rfl, ?_⟩
    rw [List.find?_eq_none.2 (fun q hq => by have := List.findIdx?_eq_none_iff.1 e q hq; simpa using this)]
    rfl
  | some i =>
    obtain ⟨hi, h1, h2⟩ := List.findIdx?_eq_some_iff_getElem.1 e
    refine .inr ⟨i, X[i], rfl, List.getElem?_eq_getElem hi, by simpa using h1, ?_⟩
    have : X.find? (fun q => decide (q.1.1 = p)) = some X[i] := by
      rw [List.find?_eq_some_iff_getElem]
      exact ⟨by simpa using h1, i, hi, rfl, fun j hj => by have := h2 j hj; simpa using this⟩
    rw [this]
    rfl
end
theorem rf_new (w : World) : Calls Tryd.prog 10 #[] w fun e w' => ∃ d, e = .returned (.pointer (some ⟨d, 0, none⟩)) ∧ RfP w.heap.size w' d [] ⟨none, 0, 0⟩ (.slice none 0 0) [] ∧ Below w.heap.size w w' := by
  go_enter Tryd.func10, Tryd.ntmps10
  go_wp2
  go_ret
  exact ⟨_, rfl, ⟨heap_alloc_new _ _, RowT.own_nil RT _ _, (fun q hq => by cases hq), ⟨rfl, Or.inl ⟨rfl, rfl⟩⟩, (fun q hq => by cases hq), Nat.le_refl _, (fun q hq => by cases hq), List.Pairwise.nil, ⟨by simp, fun q hq => by cases hq⟩⟩, (Below.refl _ _).alloc (Nat.le_refl _) _⟩
theorem rf_len {B : Nat} {w : World} {d : Nat} {X : Sls} {v : SlV} {pv : Value} {H : List (SlV × Sls)} (h : RfP B w d X v pv H) : Calls Tryd.prog 39 #[.pointer (some ⟨d, 0, none⟩)] w fun e w' => e = .returned (.int .i64 (X.length : Int)) ∧ w' = w := by
  obtain ⟨a, c, e, _⟩ := h.rfS
  have c0 : w.cell? ⟨d, 0, none⟩ = some (.slice a X.length c) := by rw [← e]; exact (cell_of_row w d 0 _ _ _ h.cell).trans rfl
  clear h e
  go_enter Tryd.func39, Tryd.ntmps39
  go_wp2
  go_ret
  exact ⟨rfl, rfl⟩
theorem rf_steps {B : Nat} {w : World} {d : Nat} {X : Sls} {v : SlV} {pv : Value} {H : List (SlV × Sls)} (h : RfP B w d X v pv H) : Calls Tryd.prog 38 #[.pointer (some ⟨d, 0, none⟩)] w fun e w' => e = .returned (.int .i64 (H.length : Int)) ∧ w' = w := by
  obtain ⟨a, c, e, _⟩ := h.past.open
  rw [List.length_map] at e
  have c1 : w.cell? ⟨d, 1, none⟩ = some (.slice a H.length c) := by rw [← e]; exact (cell_of_row w d 1 _ _ _ h.cell).trans rfl
  clear h e
  go_enter Tryd.func38, Tryd.ntmps38
  go_wp2
  go_ret
  exact ⟨rfl, rfl⟩
theorem rf_entries {B : Nat} {w : World} {d : Nat} {X : Sls} {v : SlV} {pv : Value} {H : List (SlV × Sls)} (h : RfP B w d X v pv H) (hn : X.length ≤ 1500000000000) {p : PlK} (hp : p.ok) :
    Calls Tryd.prog 40 #[.pointer (some ⟨d, 0, none⟩), p.v] w fun e w' => ∃ u, e = .returned u ∧ RN.Own w' w.heap.size u (entF X p) ∧ Below w.heap.size w w' := by
  obtain ⟨a, c, e, hat⟩ := h.rfS
  obtain ⟨ps, hps⟩ := h.pastS
  obtain ⟨w1, E1, n1, b1⟩ := box_pl w p
  have h1 := h.below b1
  have hS : RfS w1 d a c X.row ps := ⟨by rw [show X.row.length = X.length by simp [Sls.row], ← e, ← hps]; exact h1.cell, hat.below b1, fun x hx => Sls.row_ok h.en x hx⟩
  have CF := hidMk (find_any hS (by simp [Sls.row]; omega) hp)
  have LP := hidMk (ld_pl hp (rng_cells n1))
  have H1 := hidMk E1
  rcases fnd_ent X p with ⟨ef, en⟩ | ⟨i, q, ef, hq, hqp, en⟩
  · rw [ef] at CF
    rw [en]
    have HB := hidMk b1
    clear h h1 hS e hat hps E1 n1 b1 ef en
    go_enter Tryd.func40, Tryd.ntmps40
    go_wp2_with (first
      | (refine wpList_run rfl (exec_boxE (t := 52) (v := p.v) (u := .pointer (some ⟨w.heap.size, 0, none⟩)) (w2 := w1) rfl rfl H1.out) ?_)
      | (refine wpList_val rfl (exec_load (t := 52) (v := p.v) rfl rfl LP.out) ?_)
      | (go_at_call 69; refine CF.out.mono ?_; rintro e w2 ⟨rfl, b2⟩; have B2 := hidMk b2; clear b2 CF)
      | fail)
    go_ret
    exact ⟨_, rfl, RowT.own_nil RN _ _, HB.out.trans (B2.out.mono HB.out.size)⟩
  · rw [ef] at CF
    rw [en]
    obtain ⟨hlo, hqo, hqx, hqn⟩ := h.en q (List.mem_of_getElem? hq)
    obtain ⟨g, o, rfl, lg, hr⟩ : ∃ g o, a = some ⟨g, o, none⟩ ∧ g < w1.heap.size ∧ w1.rangeAt g (o + 68 * i) (RT.c q.1) := by
      rcases hS.sl with h | ⟨g, o, e, h1, h2⟩
      · have : X = [] := by simpa [Sls.row] using h
        rw [this] at hq; cases hq
      · exact ⟨g, o, e, h1, h2 i q.1 (by rw [Sls.row, List.getElem?_map, hq]; rfl)⟩
    have hi : i < X.length := (List.getElem?_eq_some_iff.1 hq).1
    have TAIL : Hid (∀ w2, Below w1.heap.size w1 w2 → ∃ e0 v1 ev w3, (∀ W, W = v1 → (Instr.loadAt 85 (.pointer (some ⟨d, 0 + 0, none⟩))).run Tryd.prog W = .ok (.slice (some ⟨g, o, none⟩) X.length c) W) ∧ (∀ W, W = v1 → (Instr.loadAt 60 (.pointer (some ⟨g, o + 68 * i + 67, none⟩))).run Tryd.prog W = .ok q.1.2.v W) ∧ (Instr.buildSlice 60 0 #[]).run Tryd.prog w2 = .ok e0 v1 ∧ (Builtin.append_ #[60, 60] 60 #[e0, q.1.2.v]).run Tryd.prog v1 = .ok ev w3 ∧ RN.Own w3 w.heap.size ev q.2 ∧ Below w.heap.size w w3) := by
      intro w2 b2
      have bw2 : Below w.heap.size w w2 := b1.trans (b2.mono b1.size)
      obtain ⟨e0, v1, ea, ec, w3, E1, c1, E2, o2, c2⟩ := dup_en (hlo.below bw2) hqx hqn
      have c12 := b2.trans (c1.mono b2.size)
      refine ⟨e0, v1, _, w3, fun W e => ?_, fun W e => ?_, E1, E2, o2.mono bw2.size, bw2.trans (c2.mono bw2.size)⟩
      · rw [e]
        have := (hS.below c12).lds
        rw [show X.row.length = X.length by simp [Sls.row]] at this
        exact this
      · rw [e]; exact rt_en hqo (rangeAt_keep hr (c12.block _ lg))
    have h63 : X.length ≤ 9223372036854775807 := by omega
    clear h h1 hS hat hps E1 n1 b1 ef en hr lg hlo hqx hqn e hq
    obtain ⟨n, hnn⟩ : ∃ n, X.length = n := ⟨_, rfl⟩
    rw [hnn] at TAIL hi h63 hn
    clear hnn
    go_enter Tryd.func40, Tryd.ntmps40
    go_upto_region 4 with (first
      | (refine wpList_run rfl (exec_boxE (t := 52) (v := p.v) (u := .pointer (some ⟨w.heap.size, 0, none⟩)) (w2 := w1) rfl rfl H1.out) ?_)
      | (refine wpList_val rfl (exec_load (t := 52) (v := p.v) rfl rfl LP.out) ?_)
      | (go_at_call 69; refine CF.out.mono ?_; rintro e w2 ⟨rfl, b2⟩; have B2 := hidMk b2; clear b2 CF)
      | fail)
    obtain ⟨e0, v1, ev, w3, l1, l2, E1, E2, oo, bb⟩ := TAIL.out w2 B2.out
    refine ren4 (d := d) (g := g) (o := o) (n := n) (c := c) (i := i) (lv := q.1.2.v) (e0 := e0) (ev := ev) (w1 := v1) (w2 := w3) _ w2 _ rfl rfl rfl hi h63 l1 l2 E1 E2 ?_
    intro a' w4 hf ha
    subst ha
    subst hf
    simp only [Act.put, List.setIfInBounds_toArray, List.set_cons_zero, List.set_cons_succ]
    have HF := hidMk (And.intro oo bb)
    clear l1 l2 E1 E2 oo bb TAIL B2
    go_wp2
    go_ret
    exact ⟨ev, rfl, HF.out.1, HF.out.2⟩
theorem ex_not {w : World} {a : Act} {o : Oper} {x : Operand} {r : Bool} (ho : o.op = .unOp .not 4 x) (hx : a.eval x = .bool r) : (execOp a.eval o).run Tryd.prog w = .ok (.value (.bool (!r))) w := by
  have := exec_not (P := Tryd.prog) (w := w) ho hx
  exact this
def les6_o0 : Oper := ⟨some 19, .move (.tmp 2), 43, "ref.go:89", #[], none⟩
def les6_o1 : Oper := ⟨some 20, .move (.tmp 8), 60, "ref.go:89", #[], none⟩
def les6_o2 : Oper := ⟨some 21, .move (.tmp 9), 3, "ref.go:89", #[], none⟩
def les6_o3 : Oper := ⟨some 22, .indexAddr 60 (.tmp 20) (.tmp 21), 0, "ref.go:89", #[⟨1, .data⟩, ⟨2, .data⟩], none⟩
def les6_o4 : Oper := ⟨some 23, .fieldAddr 63 (.tmp 22) 0, 0, "ref.go:89", #[⟨3, .data⟩], none⟩
def les6_o5 : Oper := ⟨some 24, .load 38 (.tmp 23), 38, "ref.go:89", #[⟨4, .data⟩], none⟩
def les6_o6 : Oper := ⟨some 25, .call { callee := Callee.value (Operand.func 33), args := #[.tmp 19, .tmp 24], argTypes := #[43, 38] }, 4, "ref.go:89", #[⟨0, .data⟩, ⟨5, .data⟩], none⟩
def les6_o7 : Oper := ⟨some 26, .unOp UnOp.not 4 (.tmp 25), 4, "ref.go:89", #[⟨6, .data⟩], none⟩
def les6_ops : Array Oper := #[les6_o0, les6_o1, les6_o2, les6_o3, les6_o4, les6_o5, les6_o6, les6_o7]
theorem les6 {g o n c i : Nat} {x : EnV} {sv : Value} {r : Bool} (Fin : World → Prop) (a : Act) (w : World) (Q : Exit → Act → World → Prop) (zz : a.tmps.size = 35)
    (t2 : a.tmps.getD 2 undef = sv)
    (t8 : a.tmps.getD 8 undef = .slice (some ⟨g, o, none⟩) n c)
    (t9 : a.tmps.getD 9 undef = .int .i64 (i : Int))
    (hi : i < n) (hm : n ≤ 9223372036854775807) (L1 : ∀ W, W = w → (Instr.loadAt 38 (.pointer (some ⟨g, o + 37 * i + 0, none⟩))).run Tryd.prog W = .ok (x.id.v) W) (CS : Calls Tryd.prog 33 #[sv, x.id.v] w fun e w' => e = .returned (.bool r) ∧ Fin w')
    (h : ∀ (a' : Act) (w' : World), Fin w' → a' = ((((((((a).put (some 19) (sv)).put (some 20) (.slice (some ⟨g, o, none⟩) n c)).put (some 21) (.int .i64 (i : Int))).put (some 22) (.pointer (some ⟨g, o + 37 * i, none⟩))).put (some 23) (.pointer (some ⟨g, o + 37 * i + 0, none⟩))).put (some 24) (x.id.v)).put (some 25) (.bool r)).put (some 26) (.bool (!r)) → Q .normal a' w') :
    (Code.region 6 les6_ops false).wp Tryd.prog Q a w := by
  refine z0 rfl ?_
  refine zv rfl (exec_move rfl (zi t2 rfl)) ?_
  refine zv rfl (exec_move rfl (zi t8 rfl)) ?_
  refine zv rfl (exec_move rfl (zi t9 rfl)) ?_
  refine zv rfl (exec_indexAt rfl (zg zz rfl) (zg zz rfl) (ix_en hi hm _)) ?_
  refine zv rfl (exec_fieldAt rfl (zg zz rfl) (fg_63_0 _ _ _)) ?_
  refine zv rfl (exec_load rfl (zg zz rfl) (L1 _ rfl)) ?_
  refine zc rfl (exec_c2 rfl (zg zz rfl) (zg zz rfl)) (CS) (fun e x6 hx => ?_)
  obtain ⟨rfl, HF⟩ := hx
  refine ⟨_, rfl, ?_⟩
  refine zv (v := .bool (!r)) rfl (ex_not rfl (zg zz rfl)) ?_
  exact ze rfl (h _ _ (HF) rfl)
def les7_o0 : Oper := ⟨some 27, .move (.tmp 7), 60, "ref.go:90", #[], none⟩
def les7_o1 : Oper := ⟨some 28, .move (.tmp 8), 60, "ref.go:90", #[], none⟩
def les7_o2 : Oper := ⟨some 29, .move (.tmp 9), 3, "ref.go:90", #[], none⟩
def les7_o3 : Oper := ⟨some 30, .indexAddr 60 (.tmp 28) (.tmp 29), 0, "ref.go:90", #[⟨1, .data⟩, ⟨2, .data⟩], none⟩
def les7_o4 : Oper := ⟨some 31, .load 63 (.tmp 30), 63, "ref.go:90", #[⟨3, .data⟩], none⟩
def les7_o5 : Oper := ⟨some 32, .buildSlice 60 1 #[(0, .tmp 31)], 60, "ref.go:90", #[⟨4, .data⟩], none⟩
def les7_o6 : Oper := ⟨some 33, .call { callee := Callee.builtin Builtin.append, args := #[.tmp 27, .tmp 32], argTypes := #[60, 60] }, 60, "ref.go:90", #[⟨0, .data⟩, ⟨5, .data⟩], none⟩
def les7_o7 : Oper := ⟨some 7, .assign (.tmp 33), 60, "ref.go:90", #[⟨6, .data⟩, ⟨6, .chain⟩, ⟨0, .phase⟩, ⟨1, .phase⟩, ⟨2, .phase⟩, ⟨3, .phase⟩, ⟨4, .phase⟩, ⟨5, .phase⟩, ⟨6, .phase⟩], none⟩
def les7_ops : Array Oper := #[les7_o0, les7_o1, les7_o2, les7_o3, les7_o4, les7_o5, les7_o6, les7_o7]
theorem les7 {g o n c i : Nat} {x : EnV} {ov bv ov2 : Value} {w1 w2 : World} (a : Act) (w : World) (Q : Exit → Act → World → Prop) (zz : a.tmps.size = 35)
    (t7 : a.tmps.getD 7 undef = ov)
    (t8 : a.tmps.getD 8 undef = .slice (some ⟨g, o, none⟩) n c)
    (t9 : a.tmps.getD 9 undef = .int .i64 (i : Int))
    (hi : i < n) (hm : n ≤ 9223372036854775807) (L1 : ∀ W, W = w → (Instr.loadAt 63 (.pointer (some ⟨g, o + 37 * i, none⟩))).run Tryd.prog W = .ok (x.a) W) (E1 : (Instr.buildSlice 60 1 #[(0, x.a)]).run Tryd.prog w = .ok bv w1) (E2 : (Builtin.append_ #[60, 60] 60 #[ov, bv]).run Tryd.prog w1 = .ok ov2 w2)
    (h : ∀ (a' : Act) (w' : World), w' = w2 → a' = ((((((((a).put (some 27) (ov)).put (some 28) (.slice (some ⟨g, o, none⟩) n c)).put (some 29) (.int .i64 (i : Int))).put (some 30) (.pointer (some ⟨g, o + 37 * i, none⟩))).put (some 31) (x.a)).put (some 32) (bv)).put (some 33) (ov2)).put (some 7) (ov2) → Q .normal a' w') :
    (Code.region 7 les7_ops false).wp Tryd.prog Q a w := by
  refine z0 rfl ?_
  refine zv rfl (exec_move rfl (zi t7 rfl)) ?_
  refine zv rfl (exec_move rfl (zi t8 rfl)) ?_
  refine zv rfl (exec_move rfl (zi t9 rfl)) ?_
  refine zv rfl (exec_indexAt rfl (zg zz rfl) (zg zz rfl) (ix_en hi hm _)) ?_
  refine zv rfl (exec_load rfl (zg zz rfl) (L1 _ rfl)) ?_
  refine zv (v := bv) rfl (exec_buildSlice rfl (zg zz rfl) E1) ?_
  refine zv (v := ov2) rfl (exec_append rfl (zg zz rfl) (zg zz rfl) E2) ?_
  refine zv rfl (exec_assign rfl (zg zz rfl)) ?_
  exact ze rfl (h _ _ (rfl) rfl)
structure SeenL (w : World) (sv : Value) (I : List IdK) : Prop where
  at' : ∃ a c, sv = .slice a I.length c ∧ RI.At w a I
  ok : ∀ x ∈ I, x.ok
  n : I.length ≤ 9000000000000
theorem SeenL.below {w w' : World} {sv : Value} {I : List IdK} (h : SeenL w sv I) (b : Below w.heap.size w w') : SeenL w' sv I := by
  obtain ⟨a, c, e, hat⟩ := h.at'
  exact ⟨⟨a, c, e, hat.below b⟩, h.ok, h.n⟩
theorem SeenL.saw {w : World} {sv : Value} {I : List IdK} (h : SeenL w sv I) {y : IdK} (hy : y.ok) : Calls Tryd.prog 33 #[sv, y.v] w fun e w' => e = .returned (.bool (decide (y ∈ I))) ∧ Below w.heap.size w w' := by
  obtain ⟨a, c, rfl, hat⟩ := h.at'
  exact saw_any h.ok h.n hat hy
def inL (I : List IdK) (y : EnV) : Bool := decide (y.id ∈ I)
theorem res_take_succ {sn : EnV → Bool} {L : List EnV} {i : Nat} {x : EnV} (h : L[i]? = some x) : Rg.res sn (L.take (i + 1)) = if sn x then Rg.res sn (L.take i) else Rg.res sn (L.take i) ++ [x] := by
  rw [List.take_add_one, h]
  unfold Rg.res
  rw [List.filter_append]
  by_cases hs : sn x = true
  · simp [hs]
  · simp [hs]
theorem rf_less {B : Nat} {w : World} {d : Nat} {X : Sls} {v : SlV} {pv : Value} {H : List (SlV × Sls)} (h : RfP B w d X v pv H) (hn : X.length ≤ 1500000000000) {p : PlK} (hp : p.ok) {sv : Value} {I : List IdK} (hI : SeenL w sv I) (hln : (entF X p).length ≤ 2500000000000) (hlo : ∀ x ∈ entF X p, x.ok) :
    Calls Tryd.prog 64 #[.pointer (some ⟨d, 0, none⟩), p.v, sv] w fun e w' => ∃ u, e = .returned u ∧ RN.Own w' w.heap.size u (Rg.res (inL I) (entF X p)) ∧ Below w.heap.size w w' := by
  obtain ⟨w1, E1, n1, b1⟩ := box_pl w p
  have H1 := hidMk E1
  have LP := hidMk (ld_pl hp (rng_cells n1))
  have CE := hidMk (rf_entries (h.below b1) hn hp)
  have HB := hidMk b1
  obtain ⟨L, hL⟩ : ∃ L, entF X p = L := ⟨_, rfl⟩
  rw [hL] at CE hln hlo ⊢
  obtain ⟨n, hnn⟩ : ∃ n, L.length = n := ⟨_, rfl⟩
  have HO := hidMk (And.intro hlo (And.intro hnn hI))
  rw [hnn] at hln
  clear h E1 n1 b1 hL hlo hnn hI
  go_enter Tryd.func64, Tryd.ntmps64
  go_wp2_with (first
    | (refine wpList_run rfl (exec_boxE (t := 52) (v := p.v) (u := .pointer (some ⟨w.heap.size, 0, none⟩)) (w2 := w1) rfl rfl H1.out) ?_)
    | (refine wpList_val rfl (exec_load (t := 52) (v := p.v) rfl rfl LP.out) ?_)
    | (go_at_call 40; refine CE.out.mono ?_; rintro e w2 ⟨u, rfl, ou, b2⟩; have U2 := hidMk (And.intro ou (HB.out.trans (b2.mono HB.out.size))); clear ou b2 CE)
    | fail)
  obtain ⟨ua, uc, eu, hat, _⟩ := U2.out.1.lo.open RN_is HO.out.1
  rw [HO.out.2.1] at eu
  subst eu
  have HA := hidMk hat
  have B2 := hidMk U2.out.2
  clear hat U2 H1 LP HB
  go_loopw [7, 9] (fun v7 v9 wr => ∃ i : Nat, v9 = .int .i64 (i : Int) ∧ i ≤ n ∧ Hid (∃ s : SlV, v7 = s.v ∧ RN.Own wr w2.heap.size s.v (Rg.res (inL I) (L.take i)) ∧ Below w2.heap.size w2 wr)) (fun _ v9 wr => n - (match v9 with | .int _ i => i.toNat | _ => 0))
  case atStart => exact ⟨0, rfl, Nat.zero_le _, ⟨none, 0, 0⟩, rfl, RowT.own_nil RN _ _, Below.refl _ _⟩
  case round =>
    obtain ⟨i, rfl, hin, HI⟩ := hrel
    obtain ⟨s, rfl, ho, bel⟩ := HI.out
    by_cases hi : i < n
    · obtain ⟨hlo, hnn, hI⟩ := HO.out
      obtain ⟨x, hxi⟩ : ∃ x, L[i]? = some x := ⟨_, List.getElem?_eq_getElem (by omega)⟩
      have hx : x.ok := hlo x (List.mem_of_getElem? hxi)
      obtain ⟨g, o, rfl, lg, hr⟩ : ∃ g o, ua = some ⟨g, o, none⟩ ∧ g < w2.heap.size ∧ w2.rangeAt g (o + 37 * i) x.c := by
        rcases HA.out with h | ⟨g, o, e, h1, h2⟩
        · rw [h] at hxi; cases hxi
        · exact ⟨g, o, e, h1, h2 i x hxi⟩
      have RR := hidMk (fun (W : World) (hw : Below w2.heap.size w2 W) => rangeAt_keep hr (hw.block _ lg))
      have CS : Hid (Calls Tryd.prog 33 #[sv, x.id.v] wr fun e w' => e = .returned (.bool (inL I x)) ∧ (Below w2.heap.size w2 w' ∧ RN.Own w' w2.heap.size s.v (Rg.res (inL I) (L.take i)))) := by
        have bw : Below w.heap.size w wr := B2.out.trans (bel.mono B2.out.size)
        refine ((hI.below bw).saw hx.i).mono ?_
        rintro e w' ⟨rfl, b⟩
        exact ⟨rfl, bel.trans (b.mono bel.size), ho.below b⟩
      have HX := hidMk (And.intro hxi (And.intro hx bel))
      have h63 : n ≤ 9223372036854775807 := by omega
      have hrl : (Rg.res (inL I) (L.take i)).length ≤ i := by
        have := Rg.res_len (inL I) (L.take i) 0
        have h2 : (L.take i).length ≤ i := by rw [List.length_take]; omega
        omega
      clear hr lg hlo hnn hI HI ho bel hxi
      go_upto_region 6 with fail
      refine les6 (g := g) (o := o) (n := n) (c := uc) (i := i) (x := x) (sv := sv) (r := inL I x) (fun w' => Below w2.heap.size w2 w' ∧ RN.Own w' w2.heap.size s.v (Rg.res (inL I) (L.take i))) _ wr _ rfl rfl rfl rfl hi h63 (fun W e => by rw [e]; exact en_id hx (RR.out wr HX.out.2.2)) CS.out ?_
      intro a' w3 hf ha
      subst ha
      simp only [Act.put, List.setIfInBounds_toArray, List.set_cons_zero, List.set_cons_succ]
      have H3 := hidMk hf
      clear hf CS
      by_cases hs : inL I x = true
      · have HS := hidMk hs
        rw [hs]
        clear hs
        go_wp2
        rw [show ((i : Int) + 1) = ((i + 1 : Nat) : Int) by omega]
        refine ⟨⟨i + 1, rfl, hi, s, rfl, ?_, H3.out.1⟩, ?_⟩
        · rw [res_take_succ HX.out.1, if_pos HS.out]
          exact H3.out.2
        · show n - ((i + 1 : Nat) : Int).toNat < n - (i : Int).toNat
          omega
      · have HS := hidMk hs
        rw [show inL I x = false by simpa using hs]
        clear hs
        obtain ⟨bv, w4, ov, w5, E1, E2, o5, b4, z4, g5, q5⟩ := RowT.run_push RN_is w3 w2.heap.size s.v _ x H3.out.2 hx (by unfold maxLen; omega) (by show _ * 80 ≤ _; omega) H3.out.1.size
        obtain ⟨oa, oc, eo⟩ := o5.form
        have B5 : Below w2.heap.size w2 w5 := by
          have b34 := H3.out.1.trans (b4.mono H3.out.1.size)
          exact b34.grown g5 b34.size (fun k hk => ((H3.out.2.below b4).cells hk).1)
        have NX : Hid (ov = SlV.v ⟨oa, _, oc⟩ ∧ RN.Own w5 w2.heap.size (SlV.v ⟨oa, _, oc⟩) (Rg.res (inL I) (L.take (i + 1))) ∧ Below w2.heap.size w2 w5) := ⟨eo, by
          rw [res_take_succ HX.out.1, if_neg HS.out]
          show RN.Own w5 w2.heap.size (.slice oa _ oc) _
          rw [← eo]
          exact o5, B5⟩
        have HE := hidMk (And.intro E1 E2)
        have L7 := hidMk (ld_en hx (RR.out w3 H3.out.1))
        clear E1 E2 o5 b4 z4 g5 q5 eo B5
        go_upto_region 7 with fail
        refine les7 (g := g) (o := o) (n := n) (c := uc) (i := i) (x := x) (ov := s.v) (bv := bv) (ov2 := ov) (w1 := w4) (w2 := w5) _ w3 _ rfl rfl rfl rfl hi h63 (fun W e => by rw [e]; exact L7.out) HE.out.1 HE.out.2 ?_
        intro a' w6 hf ha
        subst ha
        subst hf
        simp only [Act.put, List.setIfInBounds_toArray, List.set_cons_zero, List.set_cons_succ]
        clear HE L7 H3
        go_wp2
        rw [show ((i : Int) + 1) = ((i + 1 : Nat) : Int) by omega]
        refine ⟨⟨i + 1, rfl, hi, _, NX.out.1, NX.out.2.1, NX.out.2.2⟩, ?_⟩
        show n - ((i + 1 : Nat) : Int).toNat < n - (i : Int).toNat
        omega
    · obtain rfl : i = n := by omega
      have HR := hidMk (And.intro ho bel)
      clear ho bel HI
      go_wp2
      go_ret
      obtain ⟨ho, bel⟩ := HR.out
      rw [List.take_of_length_le (by have := HO.out.2.1; omega)] at ho
      exact ⟨s.v, rfl, ho.mono B2.out.size, B2.out.trans (bel.mono B2.out.size)⟩
def set3_o0 : Oper := ⟨some 18, .move (.tmp 0), 28, "ref.go:68", #[], none⟩
def set3_o1 : Oper := ⟨some 19, .nilCheck (.tmp 18), 0, "ref.go:68", #[⟨0, .data⟩], none⟩
def set3_o2 : Oper := ⟨some 20, .fieldAddr 88 (.tmp 19) 0, 0, "ref.go:68", #[⟨1, .data⟩], none⟩
def set3_o3 : Oper := ⟨some 21, .load 85 (.tmp 20), 85, "ref.go:68", #[⟨2, .data⟩], none⟩
def set3_o4 : Oper := ⟨some 22, .move (.tmp 6), 3, "ref.go:68", #[], none⟩
def set3_o5 : Oper := ⟨some 23, .move (.tmp 2), 60, "ref.go:68", #[], none⟩
def set3_o6 : Oper := ⟨some 24, .indexAddr 85 (.tmp 21) (.tmp 22), 0, "ref.go:68", #[⟨3, .data⟩, ⟨4, .data⟩, ⟨0, .phase⟩, ⟨1, .phase⟩, ⟨2, .phase⟩, ⟨3, .phase⟩, ⟨4, .phase⟩, ⟨5, .phase⟩], none⟩
def set3_o7 : Oper := ⟨some 25, .fieldAddr 122 (.tmp 24) 1, 0, "ref.go:68", #[⟨6, .data⟩, ⟨0, .phase⟩, ⟨1, .phase⟩, ⟨2, .phase⟩, ⟨3, .phase⟩, ⟨4, .phase⟩, ⟨5, .phase⟩], none⟩
def set3_o8 : Oper := ⟨none, .store 60 (.tmp 25) (.tmp 23), 0, "ref.go:68", #[⟨7, .data⟩, ⟨5, .data⟩, ⟨0, .phase⟩, ⟨1, .phase⟩, ⟨2, .phase⟩, ⟨3, .phase⟩, ⟨4, .phase⟩, ⟨5, .phase⟩], none⟩
def set3_ops : Array Oper := #[set3_o0, set3_o1, set3_o2, set3_o3, set3_o4, set3_o5, set3_o6, set3_o7, set3_o8]
theorem set3 {d g o n c i : Nat} {lv : Value} {w1 : World} (a : Act) (w : World) (Q : Exit → Act → World → Prop) (zz : a.tmps.size = 64)
    (t0 : a.tmps.getD 0 undef = .pointer (some ⟨d, 0, none⟩))
    (t2 : a.tmps.getD 2 undef = lv)
    (t6 : a.tmps.getD 6 undef = .int .i64 (i : Int))
    (hi : i < n) (hm : n ≤ 9223372036854775807) (L1 : ∀ W, W = w → (Instr.loadAt 85 (.pointer (some ⟨d, 0 + 0, none⟩))).run Tryd.prog W = .ok (.slice (some ⟨g, o, none⟩) n c) W) (ES : (Instr.storeAt 60 (.pointer (some ⟨g, o + 68 * i + 67, none⟩)) lv).run Tryd.prog w = .ok () w1)
    (h : ∀ (a' : Act) (w' : World), w' = w1 → a' = ((((((((a).put (some 18) (.pointer (some ⟨d, 0, none⟩))).put (some 19) (.pointer (some ⟨d, 0, none⟩))).put (some 20) (.pointer (some ⟨d, 0 + 0, none⟩))).put (some 21) (.slice (some ⟨g, o, none⟩) n c)).put (some 22) (.int .i64 (i : Int))).put (some 23) (lv)).put (some 24) (.pointer (some ⟨g, o + 68 * i, none⟩))).put (some 25) (.pointer (some ⟨g, o + 68 * i + 67, none⟩)) → Q .normal a' w') :
    (Code.region 3 set3_ops false).wp Tryd.prog Q a w := by
  refine z0 rfl ?_
  refine zv rfl (exec_move rfl (zi t0 rfl)) ?_
  refine zv rfl (exec_nilCheck rfl (zg zz rfl)) ?_
  refine zv rfl (exec_fieldAt rfl (zg zz rfl) (fg_88_0 _ _ _)) ?_
  refine zv rfl (exec_load rfl (zg zz rfl) (L1 _ rfl)) ?_
  refine zv rfl (exec_move rfl (zi t6 rfl)) ?_
  refine zv rfl (exec_move rfl (zi t2 rfl)) ?_
  refine zv rfl (exec_indexAt rfl (zg zz rfl) (zg zz rfl) (ix_sl hi hm _)) ?_
  refine zv rfl (exec_fieldAt rfl (zg zz rfl) (fg_122_1 _ _ _)) ?_
  refine zs rfl (exec_store rfl (zg zz rfl) (zg zz rfl) ES) ?_
  exact ze rfl (h _ _ (rfl) rfl)
def set7_o0 : Oper := ⟨some 52, .move (.tmp 0), 28, "ref.go:72", #[], none⟩
def set7_o1 : Oper := ⟨some 53, .move (.tmp 0), 28, "ref.go:72", #[], none⟩
def set7_o2 : Oper := ⟨some 54, .nilCheck (.tmp 53), 0, "ref.go:72", #[⟨1, .data⟩], none⟩
def set7_o3 : Oper := ⟨some 55, .fieldAddr 88 (.tmp 54) 0, 0, "ref.go:72", #[⟨2, .data⟩], none⟩
def set7_o4 : Oper := ⟨some 56, .load 85 (.tmp 55), 85, "ref.go:72", #[⟨3, .data⟩], none⟩
def set7_o5 : Oper := ⟨some 57, .load 52 (.tmp 4), 52, "ref.go:72", #[], none⟩
def set7_o6 : Oper := ⟨some 58, .move (.tmp 2), 60, "ref.go:72", #[], none⟩
def set7_o7 : Oper := ⟨some 59, .build 122 #[(0, .tmp 57), (1, .tmp 58)], 122, "ref.go:72", #[⟨5, .data⟩, ⟨6, .data⟩], none⟩
def set7_o8 : Oper := ⟨some 60, .buildSlice 85 1 #[(0, .tmp 59)], 85, "ref.go:72", #[⟨7, .data⟩], none⟩
def set7_o9 : Oper := ⟨some 61, .call { callee := Callee.builtin Builtin.append, args := #[.tmp 56, .tmp 60], argTypes := #[85, 85] }, 85, "ref.go:72", #[⟨4, .data⟩, ⟨8, .data⟩], none⟩
def set7_o10 : Oper := ⟨some 62, .nilCheck (.tmp 52), 0, "ref.go:72", #[⟨0, .data⟩, ⟨0, .phase⟩, ⟨1, .phase⟩, ⟨2, .phase⟩, ⟨3, .phase⟩, ⟨4, .phase⟩, ⟨5, .phase⟩, ⟨6, .phase⟩, ⟨7, .phase⟩, ⟨8, .phase⟩, ⟨9, .phase⟩], none⟩
def set7_o11 : Oper := ⟨some 63, .fieldAddr 88 (.tmp 62) 0, 0, "ref.go:72", #[⟨10, .data⟩, ⟨0, .phase⟩, ⟨1, .phase⟩, ⟨2, .phase⟩, ⟨3, .phase⟩, ⟨4, .phase⟩, ⟨5, .phase⟩, ⟨6, .phase⟩, ⟨7, .phase⟩, ⟨8, .phase⟩, ⟨9, .phase⟩], none⟩
def set7_o12 : Oper := ⟨none, .store 85 (.tmp 63) (.tmp 61), 0, "ref.go:72", #[⟨11, .data⟩, ⟨9, .data⟩, ⟨9, .chain⟩, ⟨0, .phase⟩, ⟨1, .phase⟩, ⟨2, .phase⟩, ⟨3, .phase⟩, ⟨4, .phase⟩, ⟨5, .phase⟩, ⟨6, .phase⟩, ⟨7, .phase⟩, ⟨8, .phase⟩, ⟨9, .phase⟩], none⟩
def set7_ops : Array Oper := #[set7_o0, set7_o1, set7_o2, set7_o3, set7_o4, set7_o5, set7_o6, set7_o7, set7_o8, set7_o9, set7_o10, set7_o11, set7_o12]
theorem set7 {d pb en ec : Nat} {ea : Option Addr} {p : PlK} {sv bv sv2 : Value} {w1 w2 w3 : World} (S : World → Prop) (a : Act) (w : World) (Q : Exit → Act → World → Prop) (zz : a.tmps.size = 64)
    (t0 : a.tmps.getD 0 undef = .pointer (some ⟨d, 0, none⟩))
    (t2 : a.tmps.getD 2 undef = .slice ea en ec)
    (t4 : a.tmps.getD 4 undef = .pointer (some ⟨pb, 0, none⟩))
    (hp : p.ok) (h0 : S w.drew) (L1 : ∀ W, S W → (Instr.loadAt 85 (.pointer (some ⟨d, 0 + 0, none⟩))).run Tryd.prog W = .ok (sv) W) (L2 : ∀ W, S W → (Instr.loadAt 52 (.pointer (some ⟨pb, 0, none⟩))).run Tryd.prog W = .ok (p.v) W) (E1 : (Instr.buildSlice 85 1 #[(0, .agg (p.c ++ [Value.slice ea en ec]).toArray)]).run Tryd.prog w.drew = .ok bv w1) (S1 : S w1) (E2 : (Builtin.append_ #[85, 85] 85 #[sv, bv]).run Tryd.prog w1 = .ok sv2 w2) (S2 : S w2) (E3 : (Instr.storeAt 85 (.pointer (some ⟨d, 0 + 0, none⟩)) sv2).run Tryd.prog w2 = .ok () w3)
    (h : ∀ (a' : Act) (w' : World), w' = w3 → a' = ((((((((((((a).put (some 52) (.pointer (some ⟨d, 0, none⟩))).put (some 53) (.pointer (some ⟨d, 0, none⟩))).put (some 54) (.pointer (some ⟨d, 0, none⟩))).put (some 55) (.pointer (some ⟨d, 0 + 0, none⟩))).put (some 56) (sv)).put (some 57) (p.v)).put (some 58) (.slice ea en ec)).put (some 59) (.agg (p.c ++ [Value.slice ea en ec]).toArray)).put (some 60) (bv)).put (some 61) (sv2)).put (some 62) (.pointer (some ⟨d, 0, none⟩))).put (some 63) (.pointer (some ⟨d, 0 + 0, none⟩)) → Q .normal a' w') :
    (Code.region 7 set7_ops true).wp Tryd.prog Q a w := by
  refine x0 12 (fun w' => S w') (h0) (fun hHeld => ?_)
  refine xv 0 rfl rfl (fun w1 hw => exec_move rfl (zi t0 rfl)) hHeld ?_
  refine xv 1 rfl rfl (fun w1 hw => exec_move rfl (zi t0 rfl)) hHeld ?_
  refine xv 2 rfl rfl (fun w1 hw => exec_nilCheck rfl (zg zz rfl)) hHeld ?_
  refine xv 3 rfl rfl (fun w1 hw => exec_fieldAt rfl (zg zz rfl) (fg_88_0 _ _ _)) hHeld ?_
  refine xv 4 rfl rfl (fun w1 hw => exec_load rfl (zg zz rfl) (L1 _ hw)) hHeld ?_
  refine xv 5 rfl rfl (fun w1 hw => exec_load rfl (zi t4 rfl) (L2 _ hw)) hHeld ?_
  refine xv 6 rfl rfl (fun w1 hw => exec_move rfl (zi t2 rfl)) hHeld ?_
  refine xv (v := .agg (p.c ++ [Value.slice ea en ec]).toArray) 7 rfl rfl (fun w1 hw => exec_bsl hp rfl (zg zz rfl) (zg zz rfl)) hHeld ?_
  refine xr (v := bv) 8 rfl rfl (exec_buildSlice rfl (zg zz rfl) E1) (fun _ => S1) (fun hHeld => ?_)
  replace hHeld := hHeld (by decide)
  refine xr (v := sv2) 9 rfl rfl (exec_append rfl (zg zz rfl) (zg zz rfl) E2) (fun _ => S2) (fun hHeld => ?_)
  replace hHeld := hHeld (by decide)
  refine xv 10 rfl rfl (fun w1 hw => exec_nilCheck rfl (zg zz rfl)) hHeld ?_
  refine xv 11 rfl rfl (fun w1 hw => exec_fieldAt rfl (zg zz rfl) (fg_88_0 _ _ _)) hHeld ?_
  refine xs 12 rfl rfl (exec_store rfl (zg zz rfl) (zg zz rfl) E3) (fun hne => absurd rfl hne) (fun _ => ?_)
  exact xe rfl (h _ _ (rfl) rfl)
def set5_o0 : Oper := ⟨some 29, .move (.tmp 0), 28, "ref.go:70", #[], none⟩
def set5_o1 : Oper := ⟨some 30, .buildSlice 85 0 #[], 85, "ref.go:70", #[], none⟩
def set5_o2 : Oper := ⟨some 31, .move (.tmp 0), 28, "ref.go:70", #[], none⟩
def set5_o3 : Oper := ⟨some 32, .nilCheck (.tmp 31), 0, "ref.go:70", #[⟨2, .data⟩], none⟩
def set5_o4 : Oper := ⟨some 33, .fieldAddr 88 (.tmp 32) 0, 0, "ref.go:70", #[⟨3, .data⟩], none⟩
def set5_o5 : Oper := ⟨some 34, .load 85 (.tmp 33), 85, "ref.go:70", #[⟨4, .data⟩], none⟩
def set5_o6 : Oper := ⟨some 35, .move (.tmp 6), 3, "ref.go:70", #[], none⟩
def set5_o7 : Oper := ⟨some 36, .slice 85 (.tmp 34) none (some (.tmp 35)) none, 85, "ref.go:70", #[⟨5, .data⟩, ⟨6, .data⟩], none⟩
def set5_o8 : Oper := ⟨some 37, .call { callee := Callee.builtin Builtin.append, args := #[.tmp 30, .tmp 36], argTypes := #[85, 85] }, 85, "ref.go:70", #[⟨1, .data⟩, ⟨7, .data⟩], none⟩
def set5_o9 : Oper := ⟨some 38, .move (.tmp 0), 28, "ref.go:70", #[], none⟩
def set5_o10 : Oper := ⟨some 39, .nilCheck (.tmp 38), 0, "ref.go:70", #[⟨9, .data⟩], none⟩
def set5_o11 : Oper := ⟨some 40, .fieldAddr 88 (.tmp 39) 0, 0, "ref.go:70", #[⟨10, .data⟩], none⟩
def set5_o12 : Oper := ⟨some 41, .load 85 (.tmp 40), 85, "ref.go:70", #[⟨11, .data⟩], none⟩
def set5_o13 : Oper := ⟨some 42, .move (.tmp 6), 3, "ref.go:70", #[], none⟩
def set5_o14 : Oper := ⟨some 43, .binOp BinOp.add 3 (.tmp 42) (Operand.const (Value.int IntKind.i64 1)) 3, 3, "ref.go:70", #[⟨13, .data⟩], none⟩
def set5_o15 : Oper := ⟨some 44, .slice 85 (.tmp 41) (some (.tmp 43)) none none, 85, "ref.go:70", #[⟨12, .data⟩, ⟨14, .data⟩], none⟩
def set5_o16 : Oper := ⟨some 45, .call { callee := Callee.builtin Builtin.append, args := #[.tmp 37, .tmp 44], argTypes := #[85, 85] }, 85, "ref.go:70", #[⟨8, .data⟩, ⟨15, .data⟩, ⟨8, .chain⟩], none⟩
def set5_o17 : Oper := ⟨some 46, .nilCheck (.tmp 29), 0, "ref.go:70", #[⟨0, .data⟩, ⟨0, .phase⟩, ⟨1, .phase⟩, ⟨2, .phase⟩, ⟨3, .phase⟩, ⟨4, .phase⟩, ⟨5, .phase⟩, ⟨6, .phase⟩, ⟨7, .phase⟩, ⟨8, .phase⟩, ⟨9, .phase⟩, ⟨10, .phase⟩, ⟨11, .phase⟩, ⟨12, .phase⟩, ⟨13, .phase⟩, ⟨14, .phase⟩, ⟨15, .phase⟩, ⟨16, .phase⟩], none⟩
def set5_o18 : Oper := ⟨some 47, .fieldAddr 88 (.tmp 46) 0, 0, "ref.go:70", #[⟨17, .data⟩, ⟨0, .phase⟩, ⟨1, .phase⟩, ⟨2, .phase⟩, ⟨3, .phase⟩, ⟨4, .phase⟩, ⟨5, .phase⟩, ⟨6, .phase⟩, ⟨7, .phase⟩, ⟨8, .phase⟩, ⟨9, .phase⟩, ⟨10, .phase⟩, ⟨11, .phase⟩, ⟨12, .phase⟩, ⟨13, .phase⟩, ⟨14, .phase⟩, ⟨15, .phase⟩, ⟨16, .phase⟩], none⟩
def set5_o19 : Oper := ⟨none, .store 85 (.tmp 47) (.tmp 45), 0, "ref.go:70", #[⟨18, .data⟩, ⟨16, .data⟩, ⟨16, .chain⟩, ⟨0, .phase⟩, ⟨1, .phase⟩, ⟨2, .phase⟩, ⟨3, .phase⟩, ⟨4, .phase⟩, ⟨5, .phase⟩, ⟨6, .phase⟩, ⟨7, .phase⟩, ⟨8, .phase⟩, ⟨9, .phase⟩, ⟨10, .phase⟩, ⟨11, .phase⟩, ⟨12, .phase⟩, ⟨13, .phase⟩, ⟨14, .phase⟩, ⟨15, .phase⟩, ⟨16, .phase⟩], none⟩
def set5_ops : Array Oper := #[set5_o0, set5_o1, set5_o2, set5_o3, set5_o4, set5_o5, set5_o6, set5_o7, set5_o8, set5_o9, set5_o10, set5_o11, set5_o12, set5_o13, set5_o14, set5_o15, set5_o16, set5_o17, set5_o18, set5_o19]
theorem set5 {d i j : Nat} {sv av zv e0 u1 sv2 : Value} {w0 w1 w2 w3 : World} (S : World → Prop) (a : Act) (w : World) (Q : Exit → Act → World → Prop) (zz : a.tmps.size = 64)
    (t0 : a.tmps.getD 0 undef = .pointer (some ⟨d, 0, none⟩))
    (t6 : a.tmps.getD 6 undef = .int .i64 (i : Int))
    (hj : i + 1 = j) (hm2 : i ≤ 9223372036854775800) (h0 : S w.drew) (L1 : ∀ W, S W → (Instr.loadAt 85 (.pointer (some ⟨d, 0 + 0, none⟩))).run Tryd.prog W = .ok (sv) W) (SA : ∀ W, (Instr.sliceAt 85 sv none (some (.int .i64 (i : Int))) none).run Tryd.prog W = .ok av W) (SZ : ∀ W, (Instr.sliceAt 85 sv (some (.int .i64 (j : Int))) none none).run Tryd.prog W = .ok zv W) (E0 : (Instr.buildSlice 85 0 #[]).run Tryd.prog w.drew = .ok e0 w0) (S0 : S w0) (E1 : (Builtin.append_ #[85, 85] 85 #[e0, av]).run Tryd.prog w0 = .ok u1 w1) (S1 : S w1) (E2 : (Builtin.append_ #[85, 85] 85 #[u1, zv]).run Tryd.prog w1 = .ok sv2 w2) (S2 : S w2) (E3 : (Instr.storeAt 85 (.pointer (some ⟨d, 0 + 0, none⟩)) sv2).run Tryd.prog w2 = .ok () w3)
    (h : ∀ (a' : Act) (w' : World), w' = w3 → a' = (((((((((((((((((((a).put (some 29) (.pointer (some ⟨d, 0, none⟩))).put (some 31) (.pointer (some ⟨d, 0, none⟩))).put (some 32) (.pointer (some ⟨d, 0, none⟩))).put (some 33) (.pointer (some ⟨d, 0 + 0, none⟩))).put (some 34) (sv)).put (some 35) (.int .i64 (i : Int))).put (some 36) (av)).put (some 38) (.pointer (some ⟨d, 0, none⟩))).put (some 39) (.pointer (some ⟨d, 0, none⟩))).put (some 40) (.pointer (some ⟨d, 0 + 0, none⟩))).put (some 41) (sv)).put (some 42) (.int .i64 (i : Int))).put (some 43) (.int .i64 (j : Int))).put (some 44) (zv)).put (some 30) (e0)).put (some 37) (u1)).put (some 45) (sv2)).put (some 46) (.pointer (some ⟨d, 0, none⟩))).put (some 47) (.pointer (some ⟨d, 0 + 0, none⟩)) → Q .normal a' w') :
    (Code.region 5 set5_ops true).wp Tryd.prog Q a w := by
  refine x0 19 (fun w' => S w') (h0) (fun hHeld => ?_)
  refine xv 0 rfl rfl (fun w1 hw => exec_move rfl (zi t0 rfl)) hHeld ?_
  refine xv 2 rfl rfl (fun w1 hw => exec_move rfl (zi t0 rfl)) hHeld ?_
  refine xv 3 rfl rfl (fun w1 hw => exec_nilCheck rfl (zg zz rfl)) hHeld ?_
  refine xv 4 rfl rfl (fun w1 hw => exec_fieldAt rfl (zg zz rfl) (fg_88_0 _ _ _)) hHeld ?_
  refine xv 5 rfl rfl (fun w1 hw => exec_load rfl (zg zz rfl) (L1 _ hw)) hHeld ?_
  refine xv 6 rfl rfl (fun w1 hw => exec_move rfl (zi t6 rfl)) hHeld ?_
  refine xv (v := av) 7 rfl rfl (fun w1 hw => exec_sl0 rfl (zg zz rfl) (zg zz rfl) (SA _)) hHeld ?_
  refine xv 9 rfl rfl (fun w1 hw => exec_move rfl (zi t0 rfl)) hHeld ?_
  refine xv 10 rfl rfl (fun w1 hw => exec_nilCheck rfl (zg zz rfl)) hHeld ?_
  refine xv 11 rfl rfl (fun w1 hw => exec_fieldAt rfl (zg zz rfl) (fg_88_0 _ _ _)) hHeld ?_
  refine xv 12 rfl rfl (fun w1 hw => exec_load rfl (zg zz rfl) (L1 _ hw)) hHeld ?_
  refine xv 13 rfl rfl (fun w1 hw => exec_move rfl (zi t6 rfl)) hHeld ?_
  refine xv (v := .int .i64 (j : Int)) 14 rfl rfl (fun w1 hw => exec_addi rfl (zg zz rfl) rfl hj hm2) hHeld ?_
  refine xv (v := zv) 15 rfl rfl (fun w1 hw => exec_sl1 rfl (zg zz rfl) (zg zz rfl) (SZ _)) hHeld ?_
  refine xr (v := e0) 1 rfl rfl (exec_bs0 rfl E0) (fun _ => S0) (fun hHeld => ?_)
  replace hHeld := hHeld (by decide)
  refine xr (v := u1) 8 rfl rfl (exec_append rfl (zg zz rfl) (zg zz rfl) E1) (fun _ => S1) (fun hHeld => ?_)
  replace hHeld := hHeld (by decide)
  refine xr (v := sv2) 16 rfl rfl (exec_append rfl (zg zz rfl) (zg zz rfl) E2) (fun _ => S2) (fun hHeld => ?_)
  replace hHeld := hHeld (by decide)
  refine xv 17 rfl rfl (fun w1 hw => exec_nilCheck rfl (zg zz rfl)) hHeld ?_
  refine xv 18 rfl rfl (fun w1 hw => exec_fieldAt rfl (zg zz rfl) (fg_88_0 _ _ _)) hHeld ?_
  refine xs 19 rfl rfl (exec_store rfl (zg zz rfl) (zg zz rfl) E3) (fun hne => absurd rfl hne) (fun _ => ?_)
  exact xe rfl (h _ _ (rfl) rfl)
section
variable {B : Nat} {w w' : World} {d : Nat} {X : Sls} {v : SlV} {pv : Value} {H : List (SlV × Sls)}
theorem two_types {j : Nat} {c1 c2 : Array Value} {t1 t2 : TypeId} {f1 f2 : Nat × Nat} (h1 : w.heap[j]? = some (.cells c1 t1 f1)) (h2 : w.heap[j]? = some (.cells c2 t2 f2)) : t1 = t2 := by
  rw [h1] at h2
  injection h2 with h2
  injection h2 with _ h2 _
theorem RfP.upd (h : RfP B w d X v pv H) {X' : Sls} {v' : SlV} (hc : w'.heap[d]? = some (.cells #[v'.v, pv] 88 (0, 0))) (ho : RT.Own w' B v'.v X'.row) (he : SlsAt w' B X') (hk : SlOk X') (t : Tch (fun j => j = d ∨ v.v.ownBlock = some j) w w') (hv : v'.v.ownBlock = v.v.ownBlock ∨ ∀ j, v'.v.ownBlock = some j → w.heap.size ≤ j) : RfP B w' d X' v' pv H := by
  have hE : ∀ j c, w.heap[j]? = some (.cells c 63 (0, 0)) → ¬ (j = d ∨ v.v.ownBlock = some j) := fun j c hj e => by
    rcases e with e | e
    · subst e
      have := two_types hj h.cell
      revert this; decide
    · obtain ⟨_, c2, h2⟩ := h.sl.cells e
      have := two_types hj h2
      revert this; decide
  refine ⟨hc, ho, he, h.past.keep fun j hj => ?_, fun q hq => ⟨(h.ph q hq).1.keep fun j hj => ?_, (h.ph q hq).2.1.keep t hE, (h.ph q hq).2.2⟩, h.dB, fun q hq j hj e => ?_, h.ap2, hk⟩
  · obtain ⟨_, c, hcc⟩ := h.past.ge j hj
    refine t.block j (Array.getElem?_eq_some_iff.1 hcc).1 (fun e => ?_)
    rcases e with e | e
    · subst e
      have := two_types hcc h.cell
      revert this; decide
    · obtain ⟨_, c2, h2⟩ := h.sl.cells e
      have := two_types hcc h2
      revert this; decide
  · obtain ⟨_, c, hcc⟩ := (h.ph q hq).1.cells hj
    refine t.block j (Array.getElem?_eq_some_iff.1 hcc).1 (fun e => ?_)
    rcases e with e | e
    · subst e
      have := two_types hcc h.cell
      revert this; decide
    · exact h.ap q hq j hj e
  · rcases hv with hv | hv
    · exact h.ap q hq j hj (hv ▸ e)
    · have := hv j e
      have := (h.ph q hq).1.lt hj
      omega
end
theorem ent_of_mem {X : Sls} (hk : SlOk X) {q : (PlK × SlV) × List EnV} (hq : q ∈ X) : entF X q.1.1 = q.2 := by
  unfold entF
  obtain ⟨r, hr⟩ : ∃ r, X.find? (fun z => decide (z.1.1 = q.1.1)) = some r := by
    cases e : X.find? (fun z => decide (z.1.1 = q.1.1)) with
    | none => exact absurd (List.find?_eq_none.1 e q hq) (by simp)
    | some r => exact ⟨r, rfl⟩
  have h1 : r.1.1 = q.1.1 := by simpa using List.find?_some hr
  have h2 := List.mem_of_find?_eq_some hr
  have := nodup_injG (·.1.1) hk.nd r h2 q hq h1
  rw [hr, this]
  rfl
theorem ent_none {X : Sls} {p : PlK} (h : ∀ q ∈ X, q.1.1 ≠ p) : entF X p = [] := by
  unfold entF
  rw [List.find?_eq_none.2 (fun q hq => by simpa using h q hq)]
  rfl
theorem ent_set {X : Sls} (hk : SlOk X) {i : Nat} {q : (PlK × SlV) × List EnV} (hq : X[i]? = some q) {s : SlV} {L : List EnV} (hL : L ≠ []) : SlOk (X.set i ((q.1.1, s), L)) ∧ ∀ r, entF (X.set i ((q.1.1, s), L)) r = if r = q.1.1 then L else entF X r := by
  have hi := (List.getElem?_eq_some_iff.1 hq).1
  have hm : (X.set i ((q.1.1, s), L)).map (·.1.1) = X.map (·.1.1) := by
    rw [List.map_set]
    apply List.ext_getElem?
    intro j
    rw [List.getElem?_set]
    split
    · next e => subst e; rw [List.getElem?_map, hq]; simp [hi]
    · rfl
  have hk' : SlOk (X.set i ((q.1.1, s), L)) := ⟨by rw [hm]; exact hk.nd, fun z hz => by
    rcases List.mem_or_eq_of_mem_set hz with h | h
    · exact hk.ne z h
    · rw [h]; exact hL⟩
  refine ⟨hk', fun r => ?_⟩
  by_cases e : r = q.1.1
  · rw [if_pos e, e]
    exact ent_of_mem hk' (q := ((q.1.1, s), L)) (List.mem_set hi _)
  · rw [if_neg e]
    by_cases h : ∃ z ∈ X, z.1.1 = r
    · obtain ⟨z, hz, rfl⟩ := h
      rw [ent_of_mem hk hz]
      obtain ⟨j, hj⟩ := List.getElem?_of_mem hz
      have hne : i ≠ j := fun e2 => by subst e2; rw [hq] at hj; cases hj; exact e rfl
      refine ent_of_mem hk' (List.mem_of_getElem? (i := j) ?_)
      rw [List.getElem?_set, if_neg hne]
      exact hj
    · have h' : ∀ z ∈ X, z.1.1 ≠ r := fun z hz e2 => h ⟨z, hz, e2⟩
      rw [ent_none h', ent_none (fun z hz => by
        rcases List.mem_or_eq_of_mem_set hz with h2 | h2
        · exact h' z h2
        · rw [h2]; exact fun e2 => e e2.symm)]
theorem ent_snoc {X : Sls} (hk : SlOk X) {p : PlK} (hp : ∀ z ∈ X, z.1.1 ≠ p) {s : SlV} {L : List EnV} (hL : L ≠ []) : SlOk (X ++ [((p, s), L)]) ∧ ∀ r, entF (X ++ [((p, s), L)]) r = if r = p then L else entF X r := by
  have hk' : SlOk (X ++ [((p, s), L)]) := ⟨by
    rw [List.map_append, List.nodup_append]
    refine ⟨hk.nd, by simp, fun a ha b hb => ?_⟩
    obtain ⟨z, hz, rfl⟩ := List.mem_map.1 ha
    simp at hb
    subst hb
    exact hp z hz, fun z hz => by
    rcases List.mem_append.1 hz with h | h
    · exact hk.ne z h
    · rw [List.mem_singleton.1 h]; exact hL⟩
  refine ⟨hk', fun r => ?_⟩
  by_cases e : r = p
  · rw [if_pos e, e]
    exact ent_of_mem hk' (q := ((p, s), L)) (by simp)
  · rw [if_neg e]
    by_cases h : ∃ z ∈ X, z.1.1 = r
    · obtain ⟨z, hz, rfl⟩ := h
      rw [ent_of_mem hk hz]
      exact ent_of_mem hk' (by simp [hz])
    · have h' : ∀ z ∈ X, z.1.1 ≠ r := fun z hz e2 => h ⟨z, hz, e2⟩
      rw [ent_none h', ent_none (fun z hz => by
        rcases List.mem_append.1 hz with h2 | h2
        · exact h' z h2
        · rw [List.mem_singleton.1 h2]; exact fun e2 => e e2.symm)]
theorem ent_erase {X : Sls} (hk : SlOk X) {i : Nat} {q : (PlK × SlV) × List EnV} (hq : X[i]? = some q) : SlOk (X.take i ++ X.drop (i + 1)) ∧ ∀ r, entF (X.take i ++ X.drop (i + 1)) r = if r = q.1.1 then [] else entF X r := by
  have hi := (List.getElem?_eq_some_iff.1 hq).1
  have hX : X = X.take i ++ q :: X.drop (i + 1) := by
    conv => lhs; rw [← List.take_append_drop i X]
    rw [List.drop_eq_getElem_cons hi, (List.getElem?_eq_some_iff.1 hq).2]
  have hsub : (X.take i ++ X.drop (i + 1)).Sublist X := by
    conv => rhs; rw [hX]
    exact List.Sublist.append (List.Sublist.refl _) (List.sublist_cons_self _ _)
  have hk' : SlOk (X.take i ++ X.drop (i + 1)) := ⟨hk.nd.sublist (hsub.map _), fun z hz => hk.ne z (hsub.subset hz)⟩
  have hno : ∀ z ∈ X.take i ++ X.drop (i + 1), z.1.1 ≠ q.1.1 := fun z hz e => by
    have hnd := hk.nd
    rw [hX, List.map_append, List.map_cons, List.nodup_append] at hnd
    obtain ⟨h1, h2, h3⟩ := hnd
    rcases List.mem_append.1 hz with h | h
    · exact h3 z.1.1 (List.mem_map.2 ⟨z, h, rfl⟩) q.1.1 (by simp) e
    · have := (List.nodup_cons.1 h2).1
      exact this (List.mem_map.2 ⟨z, h, e⟩)
  refine ⟨hk', fun r => ?_⟩
  by_cases e : r = q.1.1
  · rw [if_pos e, e]
    exact ent_none hno
  · rw [if_neg e]
    by_cases h : ∃ z ∈ X, z.1.1 = r
    · obtain ⟨z, hz, rfl⟩ := h
      rw [ent_of_mem hk hz]
      refine ent_of_mem hk' ?_
      rw [hX] at hz
      rcases List.mem_append.1 hz with h | h
      · exact List.mem_append.2 (.inl h)
      · rcases List.mem_cons.1 h with h | h
        · exact absurd (by rw [h]) e
        · exact List.mem_append.2 (.inr h)
    · have h' : ∀ z ∈ X, z.1.1 ≠ r := fun z hz e2 => h ⟨z, hz, e2⟩
      rw [ent_none h', ent_none (fun z hz => h' z (hsub.subset hz))]
def SetE (B : Nat) (w : World) (d : Nat) (X : Sls) (v : SlV) (pv : Value) (H : List (SlV × Sls)) (p : PlK) (L : List EnV) (lo : Value) (w' : World) : Prop := ∃ (X' : Sls) (v' : SlV), RfP B w' d X' v' pv H ∧ (∀ r, entF X' r = if r = p then L else entF X r) ∧ X'.length ≤ X.length + 1 ∧ Tch (fun j => j = d ∨ v.v.ownBlock = some j) w w' ∧ (v'.v.ownBlock = v.v.ownBlock ∨ ∀ j, v'.v.ownBlock = some j → w.heap.size ≤ j) ∧ ∀ z ∈ X', z ∈ X ∨ z.1.2.v = lo
section
variable {B : Nat} {w : World} {d : Nat} {X : Sls} {v : SlV} {pv : Value} {H : List (SlV × Sls)} {p : PlK} {L : List EnV} {lv : SlV}
theorem set_in (h : RfP B w d X v pv H) {i : Nat} {q : (PlK × SlV) × List EnV} (hq : X[i]? = some q) (hl : RN.Lo w B lv.v L) (okL : ∀ x ∈ L, x.ok) (hln : L.length ≤ 2500000000000) (hne : L ≠ []) :
    ∃ g c w', v.v = .slice (some ⟨g, 0, none⟩) X.length c ∧ (Instr.storeAt 60 (.pointer (some ⟨g, 0 + 68 * i + 67, none⟩)) lv.v).run Tryd.prog w = .ok () w' ∧ SetE B w d X v pv H q.1.1 L lv.v w' := by
  obtain ⟨hlo, hqo, hqx, hqn⟩ := h.en q (List.mem_of_getElem? hq)
  have hlen : q.1.1.c.length = 67 := PlK.len hqo
  obtain ⟨g, c, ev, lg, w', es, o', t', z'⟩ := RowT.own_seg RT_is h.sl (Sls.row_ok h.en) (i := i) (y := q.1) (x := (q.1.1, lv)) (by rw [Sls.row, List.getElem?_map, hq]; rfl) hqo (q := 67) (n := 1) [lv.v] rfl (by
    show q.1.1.c ++ [lv.v] = (q.1.1.c ++ [q.1.2.v]).take 67 ++ [lv.v] ++ (q.1.1.c ++ [q.1.2.v]).drop (67 + 1)
    rw [← hlen, List.take_left, List.drop_of_length_le (by simp), List.append_nil]) (by decide) (fun u hu => by rw [List.mem_singleton.1 hu]; rfl) (t := 60) (v := lv.v) (by kernel_rfl) rfl
  rw [show X.row.length = X.length by simp [Sls.row]] at ev
  have tt : Tch (fun j => j = d ∨ v.v.ownBlock = some j) w w' := t'.mono (fun j _ e => .inr e)
  obtain ⟨hk', he'⟩ := ent_set h.ok hq (s := lv) hne
  have hvd : ¬ v.v.ownBlock = some d := fun e => by
    obtain ⟨_, c2, h2⟩ := h.sl.cells e
    have := two_types h2 h.cell
    revert this; decide
  have hE : ∀ j c, w.heap[j]? = some (.cells c 63 (0, 0)) → ¬ v.v.ownBlock = some j := fun j c hj e => by
    obtain ⟨_, c2, h2⟩ := h.sl.cells e
    have := two_types hj h2
    revert this; decide
  refine ⟨g, c, w', ev, by rw [Nat.zero_add]; exact es, X.set i ((q.1.1, lv), L), v, h.upd ((t'.block d (Array.getElem?_eq_some_iff.1 h.cell).1 hvd).trans h.cell) ?_ ?_ hk' tt (.inl rfl), he', by rw [List.length_set]; omega, tt, .inl rfl, fun z hz => (List.mem_or_eq_of_mem_set hz).imp id (fun e => by rw [e])⟩
  · have : Sls.row (X.set i ((q.1.1, lv), L)) = X.row.set i (q.1.1, lv) := by simp [Sls.row, List.map_set]
    rw [this]
    exact o'
  · intro z hz
    have kk : ∀ {u : Value} {M : List EnV}, RN.Lo w B u M → RN.Lo w' B u M := fun hu => hu.keep (fun k hk => by
      obtain ⟨_, c2, h2⟩ := hu.cells hk
      exact t'.block k (hu.lt hk) (hE k c2 h2))
    rcases List.mem_or_eq_of_mem_set hz with h2 | h2
    · exact ⟨kk (h.en z h2).1, (h.en z h2).2⟩
    · rw [h2]; exact ⟨kk hl, hqo, okL, hln⟩
theorem st_slots {w : World} {d : Nat} {a : Value} {sv : SlV} {pv : Value} (h : w.heap[d]? = some (.cells #[a, pv] 88 (0, 0))) (ha : ∃ s : SlV, a = s.v) : ∃ w', (Instr.storeAt 85 (.pointer (some ⟨d, 0 + 0, none⟩)) sv.v).run Tryd.prog w = .ok () w' ∧ w'.heap[d]? = some (.cells #[sv.v, pv] 88 (0, 0)) ∧ Tch (fun j => j = d) w w' := by
  obtain ⟨s, rfl⟩ := ha
  have c0 : w.cell? ⟨d, 0, none⟩ = some (.slice s.a s.n s.c) := (cell_of_row w d 0 _ _ _ h).trans rfl
  have f0 := frozen_of_row w d 0 _ _ h
  refine ⟨w.setCell ⟨d, 0, none⟩ (.slice sv.a sv.n sv.c), ?_, ?_, ⟨rfl, rfl, rfl, by simp [World.setCell], fun j _ hj => Go.heap_setCell_other _ _ _ _ hj⟩⟩
  · unfold SlV.v
    go_simp
  · exact Go.heap_setCell_same w d 0 _ 88 _ h
theorem set_new (h : RfP B w d X v pv H) (hB : B ≤ w.heap.size) (hp : p.ok) (hno : ∀ z ∈ X, z.1.1 ≠ p) (hl : RN.Lo w B lv.v L) (okL : ∀ x ∈ L, x.ok) (hln : L.length ≤ 2500000000000) (hne : L ≠ []) (hn : X.length + 1 ≤ 1500000000000) :
    ∃ bv w1 sv2 w2 w3, (Instr.buildSlice 85 1 #[(0, .agg (p.c ++ [lv.v]).toArray)]).run Tryd.prog w = .ok bv w1 ∧ Below w.heap.size w w1 ∧ (Builtin.append_ #[85, 85] 85 #[v.v, bv]).run Tryd.prog w1 = .ok sv2 w2 ∧ Tch (fun j => j = d ∨ v.v.ownBlock = some j) w w2 ∧ w2.heap[d]? = some (.cells #[v.v, pv] 88 (0, 0)) ∧ (Instr.storeAt 85 (.pointer (some ⟨d, 0 + 0, none⟩)) sv2).run Tryd.prog w2 = .ok () w3 ∧ SetE B w d X v pv H p L lv.v w3 := by
  obtain ⟨bv, w1, sv2, w2, E1, E2, o2, b1, z1, g2, q2⟩ := RowT.run_push RT_is w B v.v X.row (p, lv) h.sl hp (by rw [Sls.row, List.length_map]; unfold maxLen; omega) (by rw [Sls.row, List.length_map]; show _ * 120 ≤ _; omega) hB
  obtain ⟨oa, oc, eo⟩ := o2.form
  have t12 : Tch (fun j => v.v.ownBlock = some j) w1 w2 := ⟨g2.os, g2.tape, g2.output, g2.size, fun j hj hn => g2.block j hj (fun e => hn e.symm)⟩
  have t2 : Tch (fun j => v.v.ownBlock = some j) w w2 := (tch_of b1 _).trans' t12 (fun j _ q => q)
  have hvd : ¬ v.v.ownBlock = some d := fun e => by
    obtain ⟨_, c2, h2⟩ := h.sl.cells e
    have := two_types h2 h.cell
    revert this; decide
  have hd2 : w2.heap[d]? = _ := (t2.block d (Array.getElem?_eq_some_iff.1 h.cell).1 hvd).trans h.cell
  obtain ⟨w3, E3, hd3, t3⟩ := st_slots (sv := ⟨oa, _, oc⟩) hd2 ⟨v, rfl⟩
  have tt : Tch (fun j => j = d ∨ v.v.ownBlock = some j) w w3 := (t2.mono (fun j _ e => .inr e)).trans' t3 (fun j _ e => .inl e)
  obtain ⟨hk', he'⟩ := ent_snoc h.ok hno (s := lv) hne
  have hE : ∀ j c, w.heap[j]? = some (.cells c 63 (0, 0)) → ¬ (j = d ∨ v.v.ownBlock = some j) := fun j c hj e => by
    rcases e with e | e
    · rw [e] at hj
      have := two_types hj h.cell
      revert this; decide
    · obtain ⟨_, c2, h2⟩ := h.sl.cells e
      have := two_types hj h2
      revert this; decide
  have nd : sv2.ownBlock ≠ some d := fun e => by
    obtain ⟨_, c2, h2⟩ := o2.cells e
    have := two_types h2 hd2
    revert this; decide
  have hv : sv2.ownBlock = v.v.ownBlock ∨ ∀ j, sv2.ownBlock = some j → w.heap.size ≤ j := by
    rcases q2 with q | q
    · exact .inl q
    · exact .inr (fun j hj => by rw [q] at hj; injection hj with hj; omega)
  rw [eo] at o2 hv nd
  refine ⟨bv, w1, sv2, w2, w3, E1, b1, E2, t2.mono (fun j _ e => .inr e), hd2, by rw [eo]; exact E3, X ++ [((p, lv), L)], ⟨oa, _, oc⟩, h.upd hd3 ?_ ?_ hk' tt hv, he', by simp, tt, hv, fun z hz => (List.mem_append.1 hz).imp id (fun e => by rw [List.mem_singleton.1 e])⟩
  · have : Sls.row (X ++ [((p, lv), L)]) = X.row ++ [(p, lv)] := by simp [Sls.row]
    rw [this]
    exact o2.keep (fun j hj => t3.block j (o2.lt hj) (fun e => nd (e ▸ hj)))
  · have s1 : SlsAt w B (X ++ [((p, lv), L)]) := fun z hz => by
      rcases List.mem_append.1 hz with h2 | h2
      · exact h.en z h2
      · rw [List.mem_singleton.1 h2]; exact ⟨hl, hp, okL, hln⟩
    exact s1.keep tt hE
theorem bs_sl0 (w : World) : (Instr.buildSlice 85 0 #[]).run Tryd.prog w = .ok (.slice (some ⟨w.heap.size, 0, none⟩) 0 0) (w.alloc (.cells #[] 122)) := by kernel_rfl
theorem set_del (h : RfP B w d X v pv H) (hB : B ≤ w.heap.size) {i : Nat} {q : (PlK × SlV) × List EnV} (hq : X[i]? = some q) (hn : X.length + 1 ≤ 1500000000000) (lo : Value) :
    ∃ av zv e0 w0 u1 w1 sv2 w2 w3, (∀ W, (Instr.sliceAt 85 v.v none (some (.int .i64 (i : Int))) none).run Tryd.prog W = .ok av W) ∧ (∀ W, (Instr.sliceAt 85 v.v (some (.int .i64 ((i + 1 : Nat) : Int))) none none).run Tryd.prog W = .ok zv W) ∧ (Instr.buildSlice 85 0 #[]).run Tryd.prog w = .ok e0 w0 ∧ Below w.heap.size w w0 ∧ (Builtin.append_ #[85, 85] 85 #[e0, av]).run Tryd.prog w0 = .ok u1 w1 ∧ Below w.heap.size w w1 ∧ (Builtin.append_ #[85, 85] 85 #[u1, zv]).run Tryd.prog w1 = .ok sv2 w2 ∧ Below w.heap.size w w2 ∧ (Instr.storeAt 85 (.pointer (some ⟨d, 0 + 0, none⟩)) sv2).run Tryd.prog w2 = .ok () w3 ∧ SetE B w d X v pv H q.1.1 [] lo w3 := by
  have hi := (List.getElem?_eq_some_iff.1 hq).1
  have rok := Sls.row_ok h.en
  obtain ⟨a, c, ev, hat, hc, _⟩ := h.sl.open RT_is rok
  have hrl : X.row.length = X.length := by simp [Sls.row]
  obtain ⟨za, zc, SZ, zat, _⟩ := RowT.sl_from RT_is (n := i + 1) hat hc (by omega)
  have b0 : Below w.heap.size w (w.alloc (.cells #[] 122)) := (Below.refl _ _).alloc (Nat.le_refl _) _
  have o0 : RT.Own (w.alloc (.cells #[] 122)) w.heap.size (.slice (some ⟨w.heap.size, 0, none⟩) 0 0) [] := ⟨by simp [RowT.flat], .inr ⟨w.heap.size, 0, #[], rfl, Nat.le_refl _, heap_alloc_new _ _, Nat.le_refl _, by decide, by simp, by simp [RowT.flat]⟩⟩
  have htl : (X.row.take i).length = i := by rw [List.length_take]; omega
  have hdl : (X.row.drop (i + 1)).length = X.row.length - (i + 1) := by rw [List.length_drop]
  obtain ⟨u1, w1, E1, o1, g1, q1⟩ := RowT.run_app RT_is _ w.heap.size _ [] a (X.row.take i) c o0 ((hat.below b0).take i) (fun x hx => rok x (List.mem_of_mem_take hx)) (by rw [htl]; simp; unfold maxLen; omega) (by rw [htl]; simp; show _ * 120 ≤ _; omega) b0.size
  have b1 : Below w.heap.size w w1 := b0.grown g1 b0.size (fun k hk => (o0.cells hk).1)
  rw [htl] at E1
  rw [List.nil_append] at o1
  obtain ⟨sv2, w2, E2, o2, g2, q2⟩ := RowT.run_app RT_is w1 w.heap.size u1 (X.row.take i) za (X.row.drop (i + 1)) zc o1 (zat.below b1) (fun x hx => rok x (List.mem_of_mem_drop hx)) (by rw [htl, hdl]; unfold maxLen; omega) (by rw [htl, hdl]; show _ * 120 ≤ _; omega) b1.size
  have b2 : Below w.heap.size w w2 := b1.grown g2 b1.size (fun k hk => (o1.cells hk).1)
  rw [hdl] at E2
  obtain ⟨oa, oc, eo⟩ := o2.form
  have hd2 : w2.heap[d]? = _ := (b2.block d (Array.getElem?_eq_some_iff.1 h.cell).1).trans h.cell
  obtain ⟨w3, E3, hd3, t3⟩ := st_slots (sv := ⟨oa, _, oc⟩) hd2 ⟨v, rfl⟩
  have tt : Tch (fun j => j = d ∨ v.v.ownBlock = some j) w w3 := (tch_of b2 _).trans' t3 (fun j _ e => .inl e)
  obtain ⟨hk', he'⟩ := ent_erase h.ok hq
  have hE : ∀ j c, w.heap[j]? = some (.cells c 63 (0, 0)) → ¬ (j = d ∨ v.v.ownBlock = some j) := fun j c hj e => by
    rcases e with e | e
    · rw [e] at hj
      have := two_types hj h.cell
      revert this; decide
    · obtain ⟨_, c2, h2⟩ := h.sl.cells e
      have := two_types hj h2
      revert this; decide
  have nd : sv2.ownBlock ≠ some d := fun e => by
    have := (o2.cells e).1
    have := (Array.getElem?_eq_some_iff.1 h.cell).1
    omega
  have hv : ∀ j, sv2.ownBlock = some j → w.heap.size ≤ j := fun j hj => (o2.cells hj).1
  rw [eo] at o2 hv nd
  refine ⟨_, _, _, _, u1, w1, sv2, w2, w3, fun W => ?_, fun W => ?_, bs_sl0 w, b0, E1, b1, E2, b2, by rw [eo]; exact E3, X.take i ++ X.drop (i + 1), ⟨oa, _, oc⟩, h.upd hd3 ?_ ?_ hk' tt (.inr hv), he', by rw [List.length_append, List.length_take, List.length_drop]; omega, tt, .inr hv, fun z hz => .inl (by
    rcases List.mem_append.1 hz with h2 | h2
    · exact List.mem_of_mem_take h2
    · exact List.mem_of_mem_drop h2)⟩
  · rw [ev]; exact RowT.sl_upto RT_is a (by omega) W
  · rw [ev]; exact SZ W
  · have : Sls.row (X.take i ++ X.drop (i + 1)) = X.row.take i ++ X.row.drop (i + 1) := by simp [Sls.row, List.map_take, List.map_drop]
    rw [this]
    exact (o2.keep (fun j hj => t3.block j (o2.lt hj) (fun e => nd (e ▸ hj)))).mono hB
  · have s1 : SlsAt w B (X.take i ++ X.drop (i + 1)) := fun z hz => h.en z (by
      rcases List.mem_append.1 hz with h2 | h2
      · exact List.mem_of_mem_take h2
      · exact List.mem_of_mem_drop h2)
    exact s1.keep tt hE
end
end Go.Proofs.YtldlljobofnmmaaDoor
