import Derived.Test.YtldlljobofnmmaaGreatDoorP0
import Derived.Test.YtldlljobofnmmaaGreatDoorP3
import Derived.Test.YtldlljobofnmmaaGreatDoorP6
import Derived.Test.YtldlljobofnmmaaGreatDoorP4
import Derived.SizedLaws
set_option maxRecDepth 100000
set_option maxHeartbeats 4000000
namespace Go.Proofs.YtldlljobofnmmaaGreatDoor
open Go.RowKit
set_option linter.unusedVariables false
set_option linter.unusedSimpArgs false
def rll8_o0 : Oper := ⟨some 24, .move (.tmp 5), 25, "law.go:229", #[], none⟩
def rll8_o1 : Oper := ⟨some 25, .move (.tmp 1), 23, "law.go:229", #[], none⟩
def rll8_o2 : Oper := ⟨some 26, .move (.tmp 7), 3, "law.go:229", #[], none⟩
def rll8_o3 : Oper := ⟨some 27, .indexAddr 23 (.tmp 25) (.tmp 26), 0, "law.go:229", #[⟨1, .data⟩, ⟨2, .data⟩], none⟩
def rll8_o4 : Oper := ⟨some 28, .load 66 (.tmp 27), 66, "law.go:229", #[⟨3, .data⟩], none⟩
def rll8_o5 : Oper := ⟨some 29, .move (.tmp 0), 22, "law.go:229", #[], none⟩
def rll8_o6 : Oper := ⟨some 30, .call { callee := Callee.value (Operand.func 7), args := #[.tmp 24, .tmp 28, .tmp 29], argTypes := #[25, 66, 22] }, 4, "law.go:229", #[⟨0, .data⟩, ⟨4, .data⟩, ⟨5, .data⟩], none⟩
def rll8_o7 : Oper := ⟨some 31, .unOp UnOp.not 4 (.tmp 30), 4, "law.go:229", #[⟨6, .data⟩], none⟩
def rll8_ops : Array Oper := #[rll8_o0, rll8_o1, rll8_o2, rll8_o3, rll8_o4, rll8_o5, rll8_o6, rll8_o7]
theorem rll8 {x g o n c i pn pc : Nat} {pa : Option Addr} {q : OpR} (Fin : World → Prop) (a : Act) (w : World) (Q : Exit → Act → World → Prop) (zz : a.tmps.size = 101)
    (t0 : a.tmps.getD 0 undef = .slice pa pn pc)
    (t1 : a.tmps.getD 1 undef = .slice (some ⟨g, o, none⟩) n c)
    (t5 : a.tmps.getD 5 undef = .pointer (some ⟨x, 0, none⟩))
    (t7 : a.tmps.getD 7 undef = .int .i64 (i : Int))
    (hi : i < n) (hm : n ≤ 9223372036854775807) (L3 : ∀ W, W = w → (Instr.loadAt 66 (.pointer (some ⟨g, o + 42 * i, none⟩))).run Tryz.prog W = .ok (q.a) W) (CS : Calls Tryz.prog 7 #[.pointer (some ⟨x, 0, none⟩), q.a, .slice pa pn pc] w fun e w' => e = .returned (.bool true) ∧ Fin w')
    (h : ∀ (a' : Act) (w' : World), Fin w' → a' = ((((((((a).put (some 24) (.pointer (some ⟨x, 0, none⟩))).put (some 25) (.slice (some ⟨g, o, none⟩) n c)).put (some 26) (.int .i64 (i : Int))).put (some 27) (.pointer (some ⟨g, o + 42 * i, none⟩))).put (some 28) (q.a)).put (some 29) (.slice pa pn pc)).put (some 30) (.bool true)).put (some 31) (.bool false) → Q .normal a' w') :
    (Code.region 8 rll8_ops false).wp Tryz.prog Q a w := by
  refine z0 rfl ?_
  refine zv rfl (exec_move rfl (zi t5 rfl)) ?_
  refine zv rfl (exec_move rfl (zi t1 rfl)) ?_
  refine zv rfl (exec_move rfl (zi t7 rfl)) ?_
  refine zv rfl (exec_indexAt rfl (zg zz rfl) (zg zz rfl) (ix_opR hi hm _)) ?_
  refine zv rfl (exec_load rfl (zg zz rfl) (L3 _ rfl)) ?_
  refine zv rfl (exec_move rfl (zi t0 rfl)) ?_
  refine zc rfl (exec_c3 rfl (zg zz rfl) (zg zz rfl) (zg zz rfl)) (CS) (fun e x6 hx => ?_)
  obtain ⟨rfl, HF⟩ := hx
  refine ⟨_, rfl, ?_⟩
  refine zv rfl (exec_not rfl (zg zz rfl)) ?_
  exact ze rfl (h _ _ (HF) rfl)
def rll10_o0 : Oper := ⟨some 32, .move (.tmp 0), 22, "law.go:232", #[], none⟩
def rll10_o1 : Oper := ⟨some 33, .move (.tmp 1), 23, "law.go:232", #[], none⟩
def rll10_o2 : Oper := ⟨some 34, .move (.tmp 7), 3, "law.go:232", #[], none⟩
def rll10_o3 : Oper := ⟨some 35, .indexAddr 23 (.tmp 33) (.tmp 34), 0, "law.go:232", #[⟨1, .data⟩, ⟨2, .data⟩], none⟩
def rll10_o4 : Oper := ⟨some 36, .fieldAddr 66 (.tmp 35) 1, 0, "law.go:232", #[⟨3, .data⟩], none⟩
def rll10_o5 : Oper := ⟨some 37, .load 3 (.tmp 36), 3, "law.go:232", #[⟨4, .data⟩], none⟩
def rll10_o6 : Oper := ⟨some 38, .call { callee := Callee.value (Operand.func 8), args := #[.tmp 32, .tmp 37], argTypes := #[22, 3] }, 68, "law.go:232", #[⟨0, .data⟩, ⟨5, .data⟩], none⟩
def rll10_o7 : Oper := ⟨some 8, .alloc 68, 0, "law.go:232", #[], none⟩
def rll10_o8 : Oper := ⟨none, .store 68 (.tmp 8) (.tmp 38), 0, "law.go:232", #[⟨7, .data⟩, ⟨6, .data⟩, ⟨6, .chain⟩, ⟨0, .phase⟩, ⟨1, .phase⟩, ⟨2, .phase⟩, ⟨3, .phase⟩, ⟨4, .phase⟩, ⟨5, .phase⟩, ⟨6, .phase⟩, ⟨7, .phase⟩], none⟩
def rll10_ops : Array Oper := #[rll10_o0, rll10_o1, rll10_o2, rll10_o3, rll10_o4, rll10_o5, rll10_o6, rll10_o7, rll10_o8]
theorem rll10 {g o n c i pn pc : Nat} {pa : Option Addr} {z : Int} {p : PlK} (Fin : Nat → World → Prop) (a : Act) (w : World) (Q : Exit → Act → World → Prop) (zz : a.tmps.size = 101)
    (t0 : a.tmps.getD 0 undef = .slice pa pn pc)
    (t1 : a.tmps.getD 1 undef = .slice (some ⟨g, o, none⟩) n c)
    (t7 : a.tmps.getD 7 undef = .int .i64 (i : Int))
    (hi : i < n) (hm : n ≤ 9223372036854775807) (L3 : ∀ W, W = w → (Instr.loadAt 3 (.pointer (some ⟨g, o + 42 * i + 1, none⟩))).run Tryz.prog W = .ok (.int .i64 z) W) (CA : Calls Tryz.prog 8 #[.slice pa pn pc, .int .i64 z] w fun e w' => e = .returned p.v ∧ ∃ pb w1 w2, (Instr.alloc 68 true (.tuple #[])).run Tryz.prog w' = .ok (.pointer (some ⟨pb, 0, none⟩)) w1 ∧ (Instr.storeAt 68 (.pointer (some ⟨pb, 0, none⟩)) p.v).run Tryz.prog w1 = .ok () w2 ∧ Fin pb w2)
    (h : ∀ (pb : Nat) (a' : Act) (w' : World), Fin pb w' → a' = ((((((((a).put (some 32) (.slice pa pn pc)).put (some 33) (.slice (some ⟨g, o, none⟩) n c)).put (some 34) (.int .i64 (i : Int))).put (some 35) (.pointer (some ⟨g, o + 42 * i, none⟩))).put (some 36) (.pointer (some ⟨g, o + 42 * i + 1, none⟩))).put (some 37) (.int .i64 z)).put (some 38) (p.v)).put (some 8) (.pointer (some ⟨pb, 0, none⟩)) → Q .normal a' w') :
    (Code.region 10 rll10_ops false).wp Tryz.prog Q a w := by
  refine z0 rfl ?_
  refine zv rfl (exec_move rfl (zi t0 rfl)) ?_
  refine zv rfl (exec_move rfl (zi t1 rfl)) ?_
  refine zv rfl (exec_move rfl (zi t7 rfl)) ?_
  refine zv rfl (exec_indexAt rfl (zg zz rfl) (zg zz rfl) (ix_opR hi hm _)) ?_
  refine zv rfl (exec_fieldAt rfl (zg zz rfl) (fg_66_1 _ _ _)) ?_
  refine zv rfl (exec_load rfl (zg zz rfl) (L3 _ rfl)) ?_
  refine zc rfl (exec_c2 rfl (zg zz rfl) (zg zz rfl)) (CA) (fun e x6 hx => ?_)
  obtain ⟨rfl, pb, w1, w2, EA, ES, HF⟩ := hx
  replace h := h pb
  refine ⟨_, rfl, ?_⟩
  refine zv (v := .pointer (some ⟨pb, 0, none⟩)) rfl (exec_alloc rfl EA) ?_
  refine zs rfl (exec_store rfl (zg zz rfl) (zg zz rfl) ES) ?_
  exact ze rfl (h _ _ (HF) rfl)
def rll14_o0 : Oper := ⟨some 43, .move (.tmp 6), 34, "law.go:234", #[], none⟩
def rll14_o1 : Oper := ⟨some 44, .move (.tmp 5), 25, "law.go:234", #[], none⟩
def rll14_o2 : Oper := ⟨some 45, .nilCheck (.tmp 44), 0, "law.go:234", #[⟨1, .data⟩], none⟩
def rll14_o3 : Oper := ⟨some 46, .fieldAddr 33 (.tmp 45) 0, 0, "law.go:234", #[⟨2, .data⟩], none⟩
def rll14_o4 : Oper := ⟨some 47, .load 26 (.tmp 46), 26, "law.go:234", #[⟨3, .data⟩], none⟩
def rll14_o5 : Oper := ⟨some 48, .load 68 (.tmp 8), 68, "law.go:234", #[], none⟩
def rll14_o6 : Oper := ⟨some 49, .call { callee := Callee.value (Operand.func 10), args := #[.tmp 47, .tmp 48], argTypes := #[26, 68] }, 71, "law.go:234", #[⟨4, .data⟩, ⟨5, .data⟩], none⟩
def rll14_o7 : Oper := ⟨some 50, .call { callee := Callee.value (Operand.func 9), args := #[.tmp 43, .tmp 49], argTypes := #[34, 71] }, 0, "law.go:234", #[⟨0, .data⟩, ⟨6, .data⟩, ⟨6, .chain⟩], none⟩
def rll14_ops : Array Oper := #[rll14_o0, rll14_o1, rll14_o2, rll14_o3, rll14_o4, rll14_o5, rll14_o6, rll14_o7]
theorem rll14 {x rb q pb : Nat} {p : PlK} (S Fin : World → Prop) (a : Act) (w : World) (Q : Exit → Act → World → Prop) (zz : a.tmps.size = 101)
    (t5 : a.tmps.getD 5 undef = .pointer (some ⟨x, 0, none⟩))
    (t6 : a.tmps.getD 6 undef = .pointer (some ⟨q, 0, none⟩))
    (t8 : a.tmps.getD 8 undef = .pointer (some ⟨pb, 0, none⟩))
    (h0 : S w.drew) (L1 : ∀ W, S W → (Instr.loadAt 26 (.pointer (some ⟨x, 0 + 0, none⟩))).run Tryz.prog W = .ok (.pointer (some ⟨rb, 0, none⟩)) W) (L2 : ∀ W, S W → (Instr.loadAt 68 (.pointer (some ⟨pb, 0, none⟩))).run Tryz.prog W = .ok (p.v) W) (C1 : Calls Tryz.prog 10 #[.pointer (some ⟨rb, 0, none⟩), p.v] w.drew fun e w1 => ∃ u, e = .returned u ∧ S w1 ∧ Calls Tryz.prog 9 #[.pointer (some ⟨q, 0, none⟩), u] w1 fun e w2 => e = .returned (.tuple #[]) ∧ S w2 ∧ Fin w2)
    (h : ∀ (u : Value) (a' : Act) (w' : World), Fin w' → a' = ((((((((a).put (some 43) (.pointer (some ⟨q, 0, none⟩))).put (some 44) (.pointer (some ⟨x, 0, none⟩))).put (some 45) (.pointer (some ⟨x, 0, none⟩))).put (some 46) (.pointer (some ⟨x, 0 + 0, none⟩))).put (some 47) (.pointer (some ⟨rb, 0, none⟩))).put (some 48) (p.v)).put (some 49) (u)).put (some 50) (.tuple #[]) → Q .normal a' w') :
    (Code.region 14 rll14_ops true).wp Tryz.prog Q a w := by
  refine y0 (fun w' => S w') (h0) (fun hHeld => ?_)
  refine yv 0 rfl rfl (fun w1 hw => exec_move rfl (zi t6 rfl)) hHeld ?_
  refine yv 1 rfl rfl (fun w1 hw => exec_move rfl (zi t5 rfl)) hHeld ?_
  refine yv 2 rfl rfl (fun w1 hw => exec_nilCheck rfl (zg zz rfl)) hHeld ?_
  refine yv 3 rfl rfl (fun w1 hw => exec_fieldAt rfl (zg zz rfl) (fg_33_0 _ _ _)) hHeld ?_
  refine yv 4 rfl rfl (fun w1 hw => exec_load rfl (zg zz rfl) (L1 _ hw)) hHeld ?_
  refine yv 5 rfl rfl (fun w1 hw => exec_load rfl (zi t8 rfl) (L2 _ hw)) hHeld ?_
  refine yc 6 rfl rfl (exec_c2 rfl (zg zz rfl) (zg zz rfl)) (C1) (fun e x6 hx => ?_)
  obtain ⟨u, rfl, S1, C2⟩ := hx
  replace h := h u
  refine ⟨_, rfl, S1, fun hHeld => ?_⟩
  refine yc 7 rfl rfl (exec_c2 rfl (zg zz rfl) (zg zz rfl)) (C2) (fun e x7 hx => ?_)
  obtain ⟨rfl, S2, HF⟩ := hx
  refine ⟨_, rfl, S2, fun hHeld => ?_⟩
  exact ye rfl (h _ _ (HF) rfl)
def rll15_o0 : Oper := ⟨some 51, .move (.tmp 6), 34, "law.go:235", #[], none⟩
def rll15_o1 : Oper := ⟨some 52, .move (.tmp 5), 25, "law.go:235", #[], none⟩
def rll15_o2 : Oper := ⟨some 53, .nilCheck (.tmp 52), 0, "law.go:235", #[⟨1, .data⟩], none⟩
def rll15_o3 : Oper := ⟨some 54, .fieldAddr 33 (.tmp 53) 0, 0, "law.go:235", #[⟨2, .data⟩], none⟩
def rll15_o4 : Oper := ⟨some 55, .load 26 (.tmp 54), 26, "law.go:235", #[⟨3, .data⟩], none⟩
def rll15_o5 : Oper := ⟨some 56, .fieldAddr 68 (.tmp 8) 0, 0, "law.go:235", #[], none⟩
def rll15_o6 : Oper := ⟨some 57, .load 59 (.tmp 56), 59, "law.go:235", #[⟨5, .data⟩], none⟩
def rll15_o7 : Oper := ⟨some 58, .call { callee := Callee.value (Operand.func 12), args := #[.tmp 55, .tmp 57], argTypes := #[26, 59] }, 74, "law.go:235", #[⟨4, .data⟩, ⟨6, .data⟩], none⟩
def rll15_o8 : Oper := ⟨some 59, .call { callee := Callee.value (Operand.func 11), args := #[.tmp 51, .tmp 58], argTypes := #[34, 74] }, 0, "law.go:235", #[⟨0, .data⟩, ⟨7, .data⟩, ⟨7, .chain⟩], none⟩
def rll15_ops : Array Oper := #[rll15_o0, rll15_o1, rll15_o2, rll15_o3, rll15_o4, rll15_o5, rll15_o6, rll15_o7, rll15_o8]
theorem rll15 {x rb q pb : Nat} {p : PlK} (S Fin : World → Prop) (a : Act) (w : World) (Q : Exit → Act → World → Prop) (zz : a.tmps.size = 101)
    (t5 : a.tmps.getD 5 undef = .pointer (some ⟨x, 0, none⟩))
    (t6 : a.tmps.getD 6 undef = .pointer (some ⟨q, 0, none⟩))
    (t8 : a.tmps.getD 8 undef = .pointer (some ⟨pb, 0, none⟩))
    (h0 : S w.drew) (L1 : ∀ W, S W → (Instr.loadAt 26 (.pointer (some ⟨x, 0 + 0, none⟩))).run Tryz.prog W = .ok (.pointer (some ⟨rb, 0, none⟩)) W) (L2 : ∀ W, S W → (Instr.loadAt 59 (.pointer (some ⟨pb, 0 + 0, none⟩))).run Tryz.prog W = .ok (p.o.v) W) (C1 : Calls Tryz.prog 12 #[.pointer (some ⟨rb, 0, none⟩), p.o.v] w.drew fun e w1 => ∃ u, e = .returned u ∧ S w1 ∧ Calls Tryz.prog 11 #[.pointer (some ⟨q, 0, none⟩), u] w1 fun e w2 => e = .returned (.tuple #[]) ∧ S w2 ∧ Fin w2)
    (h : ∀ (u : Value) (a' : Act) (w' : World), Fin w' → a' = (((((((((a).put (some 51) (.pointer (some ⟨q, 0, none⟩))).put (some 52) (.pointer (some ⟨x, 0, none⟩))).put (some 53) (.pointer (some ⟨x, 0, none⟩))).put (some 54) (.pointer (some ⟨x, 0 + 0, none⟩))).put (some 55) (.pointer (some ⟨rb, 0, none⟩))).put (some 56) (.pointer (some ⟨pb, 0 + 0, none⟩))).put (some 57) (p.o.v)).put (some 58) (u)).put (some 59) (.tuple #[]) → Q .normal a' w') :
    (Code.region 15 rll15_ops true).wp Tryz.prog Q a w := by
  refine y0 (fun w' => S w') (h0) (fun hHeld => ?_)
  refine yv 0 rfl rfl (fun w1 hw => exec_move rfl (zi t6 rfl)) hHeld ?_
  refine yv 1 rfl rfl (fun w1 hw => exec_move rfl (zi t5 rfl)) hHeld ?_
  refine yv 2 rfl rfl (fun w1 hw => exec_nilCheck rfl (zg zz rfl)) hHeld ?_
  refine yv 3 rfl rfl (fun w1 hw => exec_fieldAt rfl (zg zz rfl) (fg_33_0 _ _ _)) hHeld ?_
  refine yv 4 rfl rfl (fun w1 hw => exec_load rfl (zg zz rfl) (L1 _ hw)) hHeld ?_
  refine yv 5 rfl rfl (fun w1 hw => exec_fieldAt rfl (zi t8 rfl) (fg_68_0 _ _ _)) hHeld ?_
  refine yv 6 rfl rfl (fun w1 hw => exec_load rfl (zg zz rfl) (L2 _ hw)) hHeld ?_
  refine yc 7 rfl rfl (exec_c2 rfl (zg zz rfl) (zg zz rfl)) (C1) (fun e x7 hx => ?_)
  obtain ⟨u, rfl, S1, C2⟩ := hx
  replace h := h u
  refine ⟨_, rfl, S1, fun hHeld => ?_⟩
  refine yc 8 rfl rfl (exec_c2 rfl (zg zz rfl) (zg zz rfl)) (C2) (fun e x8 hx => ?_)
  obtain ⟨rfl, S2, HF⟩ := hx
  refine ⟨_, rfl, S2, fun hHeld => ?_⟩
  exact ye rfl (h _ _ (HF) rfl)
def rll16_o0 : Oper := ⟨some 60, .move (.tmp 6), 34, "law.go:238", #[], none⟩
def rll16_o1 : Oper := ⟨some 61, .call { callee := Callee.value (Operand.func 13), args := #[.tmp 60], argTypes := #[34] }, 4, "law.go:238", #[⟨0, .data⟩], none⟩
def rll16_o2 : Oper := ⟨some 62, .unOp UnOp.not 4 (.tmp 61), 4, "law.go:238", #[⟨1, .data⟩], none⟩
def rll16_o3 : Oper := ⟨some 63, .move (.tmp 62), 4, "law.go:238", #[⟨2, .data⟩, ⟨1, .chain⟩], none⟩
def rll16_o4 : Oper := ⟨some 64, .move (.tmp 5), 25, "law.go:238", #[⟨3, .guard⟩], some (3, false)⟩
def rll16_o5 : Oper := ⟨some 65, .nilCheck (.tmp 64), 0, "law.go:238", #[⟨4, .data⟩, ⟨3, .guard⟩], some (3, false)⟩
def rll16_o6 : Oper := ⟨some 66, .fieldAddr 33 (.tmp 65) 0, 0, "law.go:238", #[⟨5, .data⟩, ⟨3, .guard⟩], some (3, false)⟩
def rll16_o7 : Oper := ⟨some 67, .load 26 (.tmp 66), 26, "law.go:238", #[⟨6, .data⟩, ⟨3, .guard⟩], some (3, false)⟩
def rll16_o8 : Oper := ⟨some 68, .move (.tmp 5), 25, "law.go:238", #[⟨3, .guard⟩], some (3, false)⟩
def rll16_o9 : Oper := ⟨some 69, .nilCheck (.tmp 68), 0, "law.go:238", #[⟨8, .data⟩, ⟨3, .guard⟩], some (3, false)⟩
def rll16_o10 : Oper := ⟨some 70, .fieldAddr 33 (.tmp 69) 1, 0, "law.go:238", #[⟨9, .data⟩, ⟨3, .guard⟩], some (3, false)⟩
def rll16_o11 : Oper := ⟨some 71, .load 28 (.tmp 70), 28, "law.go:238", #[⟨10, .data⟩, ⟨3, .guard⟩], some (3, false)⟩
def rll16_o12 : Oper := ⟨some 72, .move (.tmp 0), 22, "law.go:238", #[⟨3, .guard⟩], some (3, false)⟩
def rll16_o13 : Oper := ⟨some 73, .call { callee := Callee.value (Operand.func 14), args := #[.tmp 67, .tmp 71, .tmp 72], argTypes := #[26, 28, 22] }, 4, "law.go:238", #[⟨7, .data⟩, ⟨11, .data⟩, ⟨12, .data⟩, ⟨3, .chain⟩, ⟨3, .guard⟩], some (3, false)⟩
def rll16_o14 : Oper := ⟨some 74, .unOp UnOp.not 4 (.tmp 73), 4, "law.go:238", #[⟨13, .data⟩, ⟨3, .guard⟩], some (3, false)⟩
def rll16_o15 : Oper := ⟨some 75, .pick (.tmp 63) (Operand.const (Value.bool true)) (.tmp 74), 4, "law.go:238", #[⟨3, .data⟩, ⟨14, .data⟩], none⟩
def rll16_ops : Array Oper := #[rll16_o0, rll16_o1, rll16_o2, rll16_o3, rll16_o4, rll16_o5, rll16_o6, rll16_o7, rll16_o8, rll16_o9, rll16_o10, rll16_o11, rll16_o12, rll16_o13, rll16_o14, rll16_o15]
theorem rll16 {x rb d q pn pc : Nat} {pa : Option Addr} (S Fin : World → Prop) (a : Act) (w : World) (Q : Exit → Act → World → Prop) (zz : a.tmps.size = 101)
    (t0 : a.tmps.getD 0 undef = .slice pa pn pc)
    (t5 : a.tmps.getD 5 undef = .pointer (some ⟨x, 0, none⟩))
    (t6 : a.tmps.getD 6 undef = .pointer (some ⟨q, 0, none⟩))
    (h0 : S w.drew) (L1 : ∀ W, S W → (Instr.loadAt 26 (.pointer (some ⟨x, 0 + 0, none⟩))).run Tryz.prog W = .ok (.pointer (some ⟨rb, 0, none⟩)) W) (L2 : ∀ W, S W → (Instr.loadAt 28 (.pointer (some ⟨x, 0 + 1, none⟩))).run Tryz.prog W = .ok (.pointer (some ⟨d, 0, none⟩)) W) (C1 : Calls Tryz.prog 13 #[.pointer (some ⟨q, 0, none⟩)] w.drew fun e w1 => e = .returned (.bool true) ∧ S w1 ∧ Calls Tryz.prog 14 #[.pointer (some ⟨rb, 0, none⟩), .pointer (some ⟨d, 0, none⟩), .slice pa pn pc] w1 fun e w2 => e = .returned (.bool true) ∧ S w2 ∧ Fin w2)
    (h : ∀ (a' : Act) (w' : World), Fin w' → a' = ((((((((((((((((a).put (some 60) (.pointer (some ⟨q, 0, none⟩))).put (some 61) (.bool true)).put (some 62) (.bool false)).put (some 63) (.bool false)).put (some 64) (.pointer (some ⟨x, 0, none⟩))).put (some 65) (.pointer (some ⟨x, 0, none⟩))).put (some 66) (.pointer (some ⟨x, 0 + 0, none⟩))).put (some 67) (.pointer (some ⟨rb, 0, none⟩))).put (some 68) (.pointer (some ⟨x, 0, none⟩))).put (some 69) (.pointer (some ⟨x, 0, none⟩))).put (some 70) (.pointer (some ⟨x, 0 + 1, none⟩))).put (some 71) (.pointer (some ⟨d, 0, none⟩))).put (some 72) (.slice pa pn pc)).put (some 73) (.bool true)).put (some 74) (.bool false)).put (some 75) (.bool false) → Q .normal a' w') :
    (Code.region 16 rll16_ops true).wp Tryz.prog Q a w := by
  refine y0 (fun w' => S w') (h0) (fun hHeld => ?_)
  refine yv 0 rfl rfl (fun w1 hw => exec_move rfl (zi t6 rfl)) hHeld ?_
  refine yc 1 rfl rfl (exec_c1 rfl (zg zz rfl)) (C1) (fun e x1 hx => ?_)
  obtain ⟨rfl, S1, C2⟩ := hx
  refine ⟨_, rfl, S1, fun hHeld => ?_⟩
  refine yv 2 rfl rfl (fun w1 hw => exec_not rfl (zg zz rfl)) hHeld ?_
  refine yv 3 rfl rfl (fun w1 hw => exec_move rfl (zg zz rfl)) hHeld ?_
  refine yv 4 rfl (zw zz rfl rfl rfl (zg zz rfl)) (fun w1 hw => exec_move rfl (zi t5 rfl)) hHeld ?_
  refine yv 5 rfl (zw zz rfl rfl rfl (zg zz rfl)) (fun w1 hw => exec_nilCheck rfl (zg zz rfl)) hHeld ?_
  refine yv 6 rfl (zw zz rfl rfl rfl (zg zz rfl)) (fun w1 hw => exec_fieldAt rfl (zg zz rfl) (fg_33_0 _ _ _)) hHeld ?_
  refine yv 7 rfl (zw zz rfl rfl rfl (zg zz rfl)) (fun w1 hw => exec_load rfl (zg zz rfl) (L1 _ hw)) hHeld ?_
  refine yv 8 rfl (zw zz rfl rfl rfl (zg zz rfl)) (fun w1 hw => exec_move rfl (zi t5 rfl)) hHeld ?_
  refine yv 9 rfl (zw zz rfl rfl rfl (zg zz rfl)) (fun w1 hw => exec_nilCheck rfl (zg zz rfl)) hHeld ?_
  refine yv 10 rfl (zw zz rfl rfl rfl (zg zz rfl)) (fun w1 hw => exec_fieldAt rfl (zg zz rfl) (fg_33_1 _ _ _)) hHeld ?_
  refine yv 11 rfl (zw zz rfl rfl rfl (zg zz rfl)) (fun w1 hw => exec_load rfl (zg zz rfl) (L2 _ hw)) hHeld ?_
  refine yv 12 rfl (zw zz rfl rfl rfl (zg zz rfl)) (fun w1 hw => exec_move rfl (zi t0 rfl)) hHeld ?_
  refine yc 13 rfl (zw zz rfl rfl rfl (zg zz rfl)) (exec_c3 rfl (zg zz rfl) (zg zz rfl) (zg zz rfl)) (C2) (fun e x13 hx => ?_)
  obtain ⟨rfl, S2, HF⟩ := hx
  refine ⟨_, rfl, S2, fun hHeld => ?_⟩
  refine yv 14 rfl (zw zz rfl rfl rfl (zg zz rfl)) (fun w1 hw => exec_not rfl (zg zz rfl)) hHeld ?_
  refine yv 15 rfl rfl (fun w1 hw => exec_pickF rfl (zg zz rfl) (zg zz rfl)) hHeld ?_
  exact ye rfl (h _ _ (HF) rfl)
def rll19_o0 : Oper := ⟨some 79, .move (.tmp 5), 25, "law.go:242", #[], none⟩
def rll19_o1 : Oper := ⟨some 80, .call { callee := Callee.value (Operand.func 16), args := #[.tmp 79, Operand.const (Value.int IntKind.i64 (-1))], argTypes := #[25, 3] }, 4, "law.go:242", #[⟨0, .data⟩], none⟩
def rll19_o2 : Oper := ⟨some 81, .unOp UnOp.not 4 (.tmp 80), 4, "law.go:242", #[⟨1, .data⟩], none⟩
def rll19_o3 : Oper := ⟨some 82, .move (.tmp 81), 4, "law.go:242", #[⟨2, .data⟩, ⟨1, .chain⟩], none⟩
def rll19_o4 : Oper := ⟨some 83, .move (.tmp 5), 25, "law.go:242", #[⟨3, .guard⟩], some (3, false)⟩
def rll19_o5 : Oper := ⟨some 84, .nilCheck (.tmp 83), 0, "law.go:242", #[⟨4, .data⟩, ⟨3, .guard⟩], some (3, false)⟩
def rll19_o6 : Oper := ⟨some 85, .fieldAddr 33 (.tmp 84) 0, 0, "law.go:242", #[⟨5, .data⟩, ⟨3, .guard⟩], some (3, false)⟩
def rll19_o7 : Oper := ⟨some 86, .load 26 (.tmp 85), 26, "law.go:242", #[⟨6, .data⟩, ⟨3, .guard⟩], some (3, false)⟩
def rll19_o8 : Oper := ⟨some 87, .move (.tmp 5), 25, "law.go:242", #[⟨3, .guard⟩], some (3, false)⟩
def rll19_o9 : Oper := ⟨some 88, .nilCheck (.tmp 87), 0, "law.go:242", #[⟨8, .data⟩, ⟨3, .guard⟩], some (3, false)⟩
def rll19_o10 : Oper := ⟨some 89, .fieldAddr 33 (.tmp 88) 1, 0, "law.go:242", #[⟨9, .data⟩, ⟨3, .guard⟩], some (3, false)⟩
def rll19_o11 : Oper := ⟨some 90, .load 28 (.tmp 89), 28, "law.go:242", #[⟨10, .data⟩, ⟨3, .guard⟩], some (3, false)⟩
def rll19_o12 : Oper := ⟨some 91, .move (.tmp 0), 22, "law.go:242", #[⟨3, .guard⟩], some (3, false)⟩
def rll19_o13 : Oper := ⟨some 92, .call { callee := Callee.value (Operand.func 14), args := #[.tmp 86, .tmp 90, .tmp 91], argTypes := #[26, 28, 22] }, 4, "law.go:242", #[⟨7, .data⟩, ⟨11, .data⟩, ⟨12, .data⟩, ⟨3, .chain⟩, ⟨3, .guard⟩], some (3, false)⟩
def rll19_o14 : Oper := ⟨some 93, .unOp UnOp.not 4 (.tmp 92), 4, "law.go:242", #[⟨13, .data⟩, ⟨3, .guard⟩], some (3, false)⟩
def rll19_o15 : Oper := ⟨some 94, .pick (.tmp 82) (Operand.const (Value.bool true)) (.tmp 93), 4, "law.go:242", #[⟨3, .data⟩, ⟨14, .data⟩], none⟩
def rll19_ops : Array Oper := #[rll19_o0, rll19_o1, rll19_o2, rll19_o3, rll19_o4, rll19_o5, rll19_o6, rll19_o7, rll19_o8, rll19_o9, rll19_o10, rll19_o11, rll19_o12, rll19_o13, rll19_o14, rll19_o15]
theorem rll19 {x rb d pn pc : Nat} {pa : Option Addr} (S Fin : World → Prop) (a : Act) (w : World) (Q : Exit → Act → World → Prop) (zz : a.tmps.size = 101)
    (t0 : a.tmps.getD 0 undef = .slice pa pn pc)
    (t5 : a.tmps.getD 5 undef = .pointer (some ⟨x, 0, none⟩))
    (h0 : S w.drew) (L1 : ∀ W, S W → (Instr.loadAt 26 (.pointer (some ⟨x, 0 + 0, none⟩))).run Tryz.prog W = .ok (.pointer (some ⟨rb, 0, none⟩)) W) (L2 : ∀ W, S W → (Instr.loadAt 28 (.pointer (some ⟨x, 0 + 1, none⟩))).run Tryz.prog W = .ok (.pointer (some ⟨d, 0, none⟩)) W) (C1 : Calls Tryz.prog 16 #[.pointer (some ⟨x, 0, none⟩), .int .i64 (-1)] w.drew fun e w1 => e = .returned (.bool true) ∧ S w1 ∧ Calls Tryz.prog 14 #[.pointer (some ⟨rb, 0, none⟩), .pointer (some ⟨d, 0, none⟩), .slice pa pn pc] w1 fun e w2 => e = .returned (.bool true) ∧ S w2 ∧ Fin w2)
    (h : ∀ (a' : Act) (w' : World), Fin w' → a' = ((((((((((((((((a).put (some 79) (.pointer (some ⟨x, 0, none⟩))).put (some 80) (.bool true)).put (some 81) (.bool false)).put (some 82) (.bool false)).put (some 83) (.pointer (some ⟨x, 0, none⟩))).put (some 84) (.pointer (some ⟨x, 0, none⟩))).put (some 85) (.pointer (some ⟨x, 0 + 0, none⟩))).put (some 86) (.pointer (some ⟨rb, 0, none⟩))).put (some 87) (.pointer (some ⟨x, 0, none⟩))).put (some 88) (.pointer (some ⟨x, 0, none⟩))).put (some 89) (.pointer (some ⟨x, 0 + 1, none⟩))).put (some 90) (.pointer (some ⟨d, 0, none⟩))).put (some 91) (.slice pa pn pc)).put (some 92) (.bool true)).put (some 93) (.bool false)).put (some 94) (.bool false) → Q .normal a' w') :
    (Code.region 19 rll19_ops true).wp Tryz.prog Q a w := by
  refine y0 (fun w' => S w') (h0) (fun hHeld => ?_)
  refine yv 0 rfl rfl (fun w1 hw => exec_move rfl (zi t5 rfl)) hHeld ?_
  refine yc 1 rfl rfl (exec_c2 rfl (zg zz rfl) rfl) (C1) (fun e x1 hx => ?_)
  obtain ⟨rfl, S1, C2⟩ := hx
  refine ⟨_, rfl, S1, fun hHeld => ?_⟩
  refine yv 2 rfl rfl (fun w1 hw => exec_not rfl (zg zz rfl)) hHeld ?_
  refine yv 3 rfl rfl (fun w1 hw => exec_move rfl (zg zz rfl)) hHeld ?_
  refine yv 4 rfl (zw zz rfl rfl rfl (zg zz rfl)) (fun w1 hw => exec_move rfl (zi t5 rfl)) hHeld ?_
  refine yv 5 rfl (zw zz rfl rfl rfl (zg zz rfl)) (fun w1 hw => exec_nilCheck rfl (zg zz rfl)) hHeld ?_
  refine yv 6 rfl (zw zz rfl rfl rfl (zg zz rfl)) (fun w1 hw => exec_fieldAt rfl (zg zz rfl) (fg_33_0 _ _ _)) hHeld ?_
  refine yv 7 rfl (zw zz rfl rfl rfl (zg zz rfl)) (fun w1 hw => exec_load rfl (zg zz rfl) (L1 _ hw)) hHeld ?_
  refine yv 8 rfl (zw zz rfl rfl rfl (zg zz rfl)) (fun w1 hw => exec_move rfl (zi t5 rfl)) hHeld ?_
  refine yv 9 rfl (zw zz rfl rfl rfl (zg zz rfl)) (fun w1 hw => exec_nilCheck rfl (zg zz rfl)) hHeld ?_
  refine yv 10 rfl (zw zz rfl rfl rfl (zg zz rfl)) (fun w1 hw => exec_fieldAt rfl (zg zz rfl) (fg_33_1 _ _ _)) hHeld ?_
  refine yv 11 rfl (zw zz rfl rfl rfl (zg zz rfl)) (fun w1 hw => exec_load rfl (zg zz rfl) (L2 _ hw)) hHeld ?_
  refine yv 12 rfl (zw zz rfl rfl rfl (zg zz rfl)) (fun w1 hw => exec_move rfl (zi t0 rfl)) hHeld ?_
  refine yc 13 rfl (zw zz rfl rfl rfl (zg zz rfl)) (exec_c3 rfl (zg zz rfl) (zg zz rfl) (zg zz rfl)) (C2) (fun e x13 hx => ?_)
  obtain ⟨rfl, S2, HF⟩ := hx
  refine ⟨_, rfl, S2, fun hHeld => ?_⟩
  refine yv 14 rfl (zw zz rfl rfl rfl (zg zz rfl)) (fun w1 hw => exec_not rfl (zg zz rfl)) hHeld ?_
  refine yv 15 rfl rfl (fun w1 hw => exec_pickF rfl (zg zz rfl) (zg zz rfl)) hHeld ?_
  exact ye rfl (h _ _ (HF) rfl)
noncomputable def kof (I : Nat → Prop) (W : World) : Nat → Option Obj := fun j => @ite _ (I j) (Classical.propDecidable _) W.heap[j]? none
theorem kof_in {I : Nat → Prop} {W : World} {j : Nat} {o : Obj} (h : kof I W j = some o) : I j ∧ W.heap[j]? = some o := by
  unfold kof at h
  by_cases hi : I j
  · rw [if_pos hi] at h; exact ⟨hi, h⟩
  · rw [if_neg hi] at h; cases h
theorem kof_of {I : Nat → Prop} {W : World} {j : Nat} (hi : I j) : kof I W j = W.heap[j]? := by unfold kof; rw [if_pos hi]
theorem kof_same {I : Nat → Prop} {W W' : World} (h : ∀ j, I j → W'.heap[j]? = W.heap[j]?) : kof I W' = kof I W := by
  funext j
  unfold kof
  by_cases hi : I j
  · rw [if_pos hi, if_pos hi, h j hi]
  · rw [if_neg hi, if_neg hi]
def LBk (w0 : World) (B1 B2 x ro d q m cT cE : Nat) (W : World) : Prop := ∃ p tv RT ev RE, PY (kof (inB q tv RT ev RE) W) w0 B1 B2 x ro d m p W ∧ TB w0.heap.size q W tv RT ev RE ∧ RT.length = cT ∧ RE.length = cE
def SB (x ro d pb : Nat) (r : PlK) (W : World) : Prop := (∃ bv sv, W.heap[x]? = some (.cells #[.pointer (some ⟨ro, 0, none⟩), .pointer (some ⟨d, 0, none⟩), bv, sv] 33 (0, 0))) ∧ Np pb r W
section
variable {K : Nat → Option Obj} {w0 W W' : World} {B1 B2 x ro d q m cT cE pb : Nat} {r : PlK} {p : Pz}
theorem SB.l1 (h : SB x ro d pb r W) : (Instr.loadAt 26 (.pointer (some ⟨x, 0 + 0, none⟩))).run Tryz.prog W = .ok (.pointer (some ⟨ro, 0, none⟩)) W := by
  obtain ⟨⟨bv, sv, hx⟩, _⟩ := h
  have hc : W.cell? ⟨x, 0, none⟩ = some (.pointer (some ⟨ro, 0, none⟩)) := (cell_of_row W x 0 _ _ _ hx).trans rfl
  go_simp
theorem SB.l2 (hr : r.ok) (h : SB x ro d pb r W) : (Instr.loadAt 68 (.pointer (some ⟨pb, 0, none⟩))).run Tryz.prog W = .ok r.v W := ld_pl hr (rng_cells h.2)
theorem SB.l3 (hr : r.ok) (h : SB x ro d pb r W) : (Instr.loadAt 59 (.pointer (some ⟨pb, 0 + 0, none⟩))).run Tryz.prog W = .ok r.o.v W :=
  run_loadAt_mid (P := Tryz.prog) W pb 0 59 r.o.c _ (fun j v hv => rng_cells h.2 j v (by rw [PlK.c, List.getElem?_append_left (List.getElem?_eq_some_iff.1 hv).1]; exact hv)) Tryz.underlying59 rfl (by rw [IdK.len hr.o]; exact szId)
theorem PY.sb (h : PY K w0 B1 B2 x ro d m p W) (hn : Np pb r W) : SB x ro d pb r W := ⟨⟨_, _, h.pm.cell⟩, hn⟩
theorem SB.below (h : SB x ro d pb r W) (b : Below W.heap.size W W') : SB x ro d pb r W' := by
  obtain ⟨⟨bv, sv, hx⟩, hn⟩ := h
  exact ⟨⟨bv, sv, (b.block _ (Array.getElem?_eq_some_iff.1 hx).1).trans hx⟩, hn.below b⟩
theorem LBk.below (h : LBk w0 B1 B2 x ro d q m cT cE W) (b : Below W.heap.size W W') : LBk w0 B1 B2 x ro d q m cT cE W' := by
  obtain ⟨p, tv, RT, ev, RE, py, tb, h1, h2⟩ := h
  refine ⟨p, tv, RT, ev, RE, ?_, tb.below b, h1, h2⟩
  rw [kof_same (fun j hj => b.block j (tb.lt hj))]
  exact py.below b
theorem LBk.bel (h : LBk w0 B1 B2 x ro d q m cT cE W) : Below w0.heap.size w0 W := by
  obtain ⟨p, tv, RT, ev, RE, py, _⟩ := h
  exact py.bel
theorem LBk.step (h : LBk w0 B1 B2 x ro d q m cT cE W) (hm : m + 1 ≤ 1100000000000) {pa : Option Addr} {pc : Nat} {Ps : List PlK} (hP : RowAt 67 PlK.c w0 pa Ps) (okP : ∀ x ∈ Ps, x.ok) (hPn : Ps.length ≤ 2000000000000) {o : OpR} {I : List IdK} (ho : OpS w0 o I) :
    Calls Tryz.prog 7 #[.pointer (some ⟨x, 0, none⟩), o.a, .slice pa Ps.length pc] W fun e w' => e = .returned (.bool true) ∧ LBk w0 B1 B2 x ro d q (m + 1) cT cE w' := by
  obtain ⟨p, tv, RT, ev, RE, py, tb, h1, h2⟩ := h
  refine (dstep_any py hm hP okP hPn ho).mono ?_
  rintro e w' ⟨rfl, p', py'⟩
  have same : ∀ j, inB q tv RT ev RE j → w'.heap[j]? = W.heap[j]? := fun j hj => by
    obtain ⟨_, c, ty, hc, _⟩ := tb.typ hj
    rw [hc]
    exact (py'.pm.kf j _ ((kof_of hj).trans hc)).1
  refine ⟨rfl, p', tv, RT, ev, RE, ?_, tb.keep same, h1, h2⟩
  rw [kof_same same]
  exact py'
theorem book_typ {c : Array Value} {ty : TypeId} {fr : Nat × Nat} {j : Nat} {tv ev : Value} {RT : List (B.Lst × List Value)} {RE : List (B.Lst × List EnV)} {bb : Nat} (tb : TB bb q W tv RT ev RE) (hc : W.heap[j]? = some (.cells c ty fr)) (h1 : ty ≠ 54) (h2 : ty ≠ 74) (h3 : ty ≠ 71) (h4 : ty ≠ 9) (h5 : ty ≠ 85) : ¬ inB q tv RT ev RE j := fun hj => by
  obtain ⟨_, c', ty', hc', e⟩ := tb.typ hj
  have := two_types hc hc'
  rw [this] at h1 h2 h3 h4 h5
  rcases e with e | e | e | e | e
  · exact h1 e
  · exact h2 e
  · exact h3 e
  · exact h4 e
  · exact h5 e
theorem PY.book {tv ev tv' ev' : Value} {RT RT' : List (B.Lst × List Value)} {RE RE' : List (B.Lst × List EnV)} {W1 W2 : World} (py : PY (kof (inB q tv RT ev RE) W) w0 B1 B2 x ro d m p W) (tb : TB w0.heap.size q W tv RT ev RE) (b : Below W.heap.size W W1) (t : Tch (inB q tv RT ev RE) W1 W2) (tb2 : TB w0.heap.size q W2 tv' RT' ev' RE') (new : ∀ j, inB q tv' RT' ev' RE' j → inB q tv RT ev RE j ∨ W.heap.size ≤ j) : PY (kof (inB q tv' RT' ev' RE') W2) w0 B1 B2 x ro d m p W2 := by
  have off : ∀ j, inB q tv RT ev RE j → offP x d p j := fun j hj => by
    obtain ⟨_, c, ty, hc, _⟩ := tb.typ hj
    exact (py.pm.kf j _ ((kof_of hj).trans hc)).2
  have py1 := py.below b
  have tb1 := tb.below b
  refine (py1.side t (fun j hj => ⟨off j hj, (tb.typ hj).1⟩) (fun j c ty fr hc e => ?_)).frame (fun j o ho => ?_)
  · exact book_typ tb1 hc (by rcases e with rfl | rfl | rfl | rfl <;> decide) (by rcases e with rfl | rfl | rfl | rfl <;> decide) (by rcases e with rfl | rfl | rfl | rfl <;> decide) (by rcases e with rfl | rfl | rfl | rfl <;> decide) (by rcases e with rfl | rfl | rfl | rfl <;> decide)
  · obtain ⟨hj, ho2⟩ := kof_in ho
    refine ⟨ho2, ?_⟩
    rcases new j hj with h | h
    · exact off j h
    · exact py.pm.new h
theorem SB.book {tv ev : Value} {RT : List (B.Lst × List Value)} {RE : List (B.Lst × List EnV)} {W1 W2 : World} {bb : Nat} (h : SB x ro d pb r W1) (tb : TB bb q W1 tv RT ev RE) (t : Tch (inB q tv RT ev RE) W1 W2) : SB x ro d pb r W2 := by
  obtain ⟨⟨bv, sv, hx⟩, hn⟩ := h
  exact ⟨⟨bv, sv, (t.block _ (Array.getElem?_eq_some_iff.1 hx).1 (book_typ tb hx (by decide) (by decide) (by decide) (by decide) (by decide))).trans hx⟩, (t.block _ (Array.getElem?_eq_some_iff.1 hn).1 (book_typ tb hn (by decide) (by decide) (by decide) (by decide) (by decide))).trans hn⟩
theorem LBk.ent (h : LBk w0 B1 B2 x ro d q m cT cE W) (hm : m ≤ 1100000000000) (hc : cE ≤ 2500000000000) (hr : r.ok) (hn : Np pb r W) :
    Calls Tryz.prog 10 #[.pointer (some ⟨ro, 0, none⟩), r.v] W fun e w1 => ∃ u, e = .returned u ∧ SB x ro d pb r w1 ∧ Calls Tryz.prog 9 #[.pointer (some ⟨q, 0, none⟩), u] w1 fun e w2 => e = .returned (.tuple #[]) ∧ SB x ro d pb r w2 ∧ (LBk w0 B1 B2 x ro d q m cT (cE + 1) w2 ∧ Np pb r w2) := by
  obtain ⟨p, tv, RT, ev, RE, py, tb, h1, h2⟩ := h
  have pr := py.pr hm
  have sb := py.sb hn
  have ll : (liOf p.s.P r).length ≤ m := by
    have := (py.mx p.X (.inl rfl)).2 r
    rw [py.ln.eq] at this
    exact this
  have cc := entries_any pr.ra.mem hr (pr.li r).2
  rw [py.pm.r] at cc
  refine cc.mono ?_
  rintro e w1 ⟨u, rfl, own, b1⟩
  refine ⟨u, rfl, sb.below b1, ?_⟩
  refine (tb.takeE py.bel.size (by omega) b1 own (pr.li r).1 (by omega)).mono ?_
  rintro e w2 ⟨he, ev', RE', tb2, hl, bl, fr, new⟩
  have t : Tch (inB q tv RT ev RE) w1 w2 := ⟨bl.os, bl.tape, bl.output, bl.size, fun j hj hn => fr j hj (fun e => hn (.inl e)) (fun e => hn (.inr (.inr (.inl e))))⟩
  have sb2 := (sb.below b1).book (tb.below b1) t
  exact ⟨he, sb2, ⟨p, tv, RT, ev', RE', py.book tb b1 t tb2 new, tb2, h1, by rw [hl, h2]⟩, sb2.2⟩
theorem LBk.keys (h : LBk w0 B1 B2 x ro d q m cT cE W) (hm : m ≤ 1100000000000) (hc : cT ≤ 2500000000000) (hr : r.ok) (hn : Np pb r W) :
    Calls Tryz.prog 12 #[.pointer (some ⟨ro, 0, none⟩), r.o.v] W fun e w1 => ∃ u, e = .returned u ∧ SB x ro d pb r w1 ∧ Calls Tryz.prog 11 #[.pointer (some ⟨q, 0, none⟩), u] w1 fun e w2 => e = .returned (.tuple #[]) ∧ SB x ro d pb r w2 ∧ (LBk w0 B1 B2 x ro d q m (cT + 1) cE w2 ∧ Np pb r w2) := by
  obtain ⟨p, tv, RT, ev, RE, py, tb, h1, h2⟩ := h
  have pr := py.pr hm
  have sb := py.sb hn
  have kl : (keyL p.s.K r.o).length ≤ 1100000000000 := by
    have e0 := keyL_len pr.ra.mem pr.ra.key r.o
    have e1 := pr.len
    have e2 := pr.xl
    omega
  have cc := keys_any pr.ra.mem hr.o (by omega)
  rw [py.pm.r] at cc
  refine cc.mono ?_
  rintro e w1 ⟨u, rfl, own, b1⟩
  refine ⟨u, rfl, sb.below b1, ?_⟩
  refine (tb.takeT py.bel.size (by omega) b1 own (by rw [List.length_map, srtT_len]; omega)).mono ?_
  rintro e w2 ⟨he, tv', RT', tb2, hl, bl, fr, new⟩
  have t : Tch (inB q tv RT ev RE) w1 w2 := ⟨bl.os, bl.tape, bl.output, bl.size, fun j hj hn => fr j hj (fun e => hn (.inl e)) (fun e => hn (.inr (.inl e)))⟩
  have sb2 := (sb.below b1).book (tb.below b1) t
  exact ⟨he, sb2, ⟨p, tv', RT', ev, RE, py.book tb b1 t tb2 new, tb2, by rw [hl, h1], h2⟩, sb2.2⟩
theorem LBk.alone (h : LBk w0 B1 B2 x ro d q m cT cE W) (hc : cT ≤ 2600000000000) (hd : cE ≤ 2600000000000) :
    Calls Tryz.prog 13 #[.pointer (some ⟨q, 0, none⟩)] W fun e w' => e = .returned (.bool true) ∧ ∃ p, PY (fun _ => none) w0 B1 B2 x ro d m p w' := by
  obtain ⟨p, tv, RT, ev, RE, py, tb, h1, h2⟩ := h
  refine (tb.alone py.bel.size (by omega) (by omega)).mono ?_
  rintro e w' ⟨he, t⟩
  refine ⟨he, p, py.side t (fun j hj => ⟨?_, (tb.typ hj).1⟩) (fun j c ty fr hc e => ?_)⟩
  · obtain ⟨_, c, ty, hc, _⟩ := tb.typ hj
    exact (py.pm.kf j _ ((kof_of hj).trans hc)).2
  · exact book_typ tb hc (by rcases e with rfl | rfl | rfl | rfl <;> decide) (by rcases e with rfl | rfl | rfl | rfl <;> decide) (by rcases e with rfl | rfl | rfl | rfl <;> decide) (by rcases e with rfl | rfl | rfl | rfl <;> decide) (by rcases e with rfl | rfl | rfl | rfl <;> decide)
end
theorem book_new {w0 W : World} {B1 B2 x ro d m : Nat} {p : Pz} (py : PY (fun _ => none) w0 B1 B2 x ro d m p W) : LBk w0 B1 B2 x ro d W.heap.size m 0 0 (W.alloc (.cells (B.bkR (.slice none 0 0) (.slice none 0 0)) 54)) := by
  have b : Below W.heap.size W (W.alloc (.cells (B.bkR (.slice none 0 0) (.slice none 0 0)) 54)) := (Below.refl _ _).alloc (Nat.le_refl _) _
  refine ⟨p, .slice none 0 0, [], .slice none 0 0, [], (py.below b).frame (fun j o ho => ?_), ⟨heap_alloc_new _ _, ⟨rfl, .inl ⟨rfl, rfl⟩⟩, ⟨rfl, .inl ⟨rfl, rfl⟩⟩, py.bel.size, (fun r hr => by cases hr), (fun r hr => by cases hr), (fun i j r r' b h => by cases h), (fun i j r r' b h => by cases h), fun _ => rfl, fun _ => rfl⟩, rfl, rfl⟩
  obtain ⟨hj, ho2⟩ := kof_in ho
  refine ⟨ho2, ?_⟩
  rcases hj with rfl | h | h | ⟨r, hr, _⟩ | ⟨r, hr, _⟩
  · exact py.pm.new (Nat.le_refl _)
  · cases h
  · cases h
  · cases hr
  · cases hr
def stepsAt (d : Nat) (W : World) : Nat := match W.heap[d]? with
  | some (Obj.cells c _ _) => (match (c[1]? : Option Value) with
    | some (Value.slice _ n _) => n
    | _ => 0)
  | _ => 0
theorem PY.stepsAt {K : Nat → Option Obj} {w0 W : World} {B1 B2 x ro d m : Nat} {p : Pz} (h : PY K w0 B1 B2 x ro d m p W) : stepsAt d W = p.H.length := by
  obtain ⟨a, c, e, _⟩ := h.pm.rf.past.open
  have hc := h.pm.rf.cell
  rw [e] at hc
  unfold Go.Proofs.YtldlljobofnmmaaGreatDoor.stepsAt
  rw [hc]
  simp [h.ln.len2]
theorem PY.none {K : Nat → Option Obj} {w0 W : World} {B1 B2 x ro d m : Nat} {p : Pz} (h : PY K w0 B1 B2 x ro d m p W) (hH : p.H = []) : p.s.P = [] := by
  have ho := h.pm.ra.hok
  rw [hH] at ho
  cases hP : p.s.P with
  | nil => rfl
  | cons z t =>
    have hz : z ∈ p.s.P := by rw [hP]; simp
    have hl := M.look_of_mem h.pm.ra.mem.places hz
    have := ho z.1
    unfold liOf at this
    rw [hl] at this
    exact absurd this (h.pm.ra.mem.en z hz).2.1
theorem PlI.rng {w : World} {pa : Option Addr} {Ps : List PlK} {a : Option Addr} {L : List OpR} (h : PlI w pa Ps a L) {i : Nat} (hi : i < L.length) : ∃ q I g o, OpS w q I ∧ a = some ⟨g, o, none⟩ ∧ (∀ W, Below w.heap.size w W → (Instr.loadAt 66 (.pointer (some ⟨g, o + 42 * i, none⟩))).run Tryz.prog W = .ok q.a W) ∧ ∀ W, Below w.heap.size w W → (Instr.loadAt 3 (.pointer (some ⟨g, o + 42 * i + 1, none⟩))).run Tryz.prog W = .ok (.int .i64 q.pl) W := by
  obtain ⟨x, hx⟩ : ∃ x, L[i]? = some x := ⟨_, List.getElem?_eq_getElem hi⟩
  obtain ⟨I, ho⟩ := h.okL x (List.mem_of_getElem? hx)
  rcases h.hL with e | ⟨g, o, e, h1, h2⟩
  · rw [e] at hx; cases hx
  · have hr : ∀ W, Below w.heap.size w W → W.rangeAt g (o + 42 * i) x.c := fun W b => rangeAt_keep (by rw [Nat.mul_comm]; exact h2 i x hx) (b.block _ h1)
    exact ⟨x, I, g, o, ho, e, fun W b => ld_op ho.ok (hr W b), fun W b => op_plc (hr W b)⟩
set_option maxHeartbeats 8000000 in
theorem lists_all (pa : Option Addr) (pc : Nat) (Ps : List PlK) (a : Option Addr) (c : Nat) (L : List OpR) (w : World) (li : PlI w pa Ps a L) :
    Calls Tryz.prog 3 #[.slice pa Ps.length pc, .slice a L.length c] w fun e w' => e = .returned (.bool true) ∧ Below w.heap.size w w' := by
  have LI := hidMk li
  obtain ⟨n, hnn⟩ : ∃ n, L.length = n := ⟨_, rfl⟩
  obtain ⟨pn, hpn⟩ : ∃ n, Ps.length = n := ⟨_, rfl⟩
  have HN := hidMk (And.intro hnn hpn)
  have hn := li.hLn
  rw [hnn] at hn ⊢
  rw [hpn]
  clear li hnn hpn
  have HA := hidMk (live_any w)
  have HNEW := hidMk newR_any
  have HRN := hidMk rf_new
  go_enter Tryz.func3, Tryz.ntmps3
  go_upto_region 4 with (first
    | (go_at_call 4; refine HA.out.mono ?_; rintro e w1 ⟨rfl, b1⟩; clear HA)
    | (go_at_call 5; refine (HNEW.out _).mono ?_; rintro e w2 ⟨so, rfl, ra, rl, rp, b2⟩)
    | (go_at_call 6; refine (HRN.out _).mono ?_; rintro e w3 ⟨d, rfl, rf, b3⟩)
    | fail)
  have hj0 : Hid (∃ p, PY (fun _ => none) w w1.heap.size w2.heap.size w3.heap.size so.r d 0 p _) := ⟨_, py_start b1 ra rl b2 rf b3⟩
  clear ra rl rp b1 b2 rf b3 HNEW HRN
  generalize w3.alloc (.cells #[.pointer (some ⟨so.r, 0, none⟩), .pointer (some ⟨d, 0, none⟩), .slice none 0 0, .slice none 0 0] 33) = w4 at *
  generalize so.r = ro at *
  generalize w1.heap.size = B1 at *
  generalize w2.heap.size = B2 at *
  generalize w3.heap.size = x at *
  have hj1 : Hid (LBk w B1 B2 x ro d w4.heap.size 0 0 0 (w4.alloc (.cells (B.bkR (.slice none 0 0) (.slice none 0 0)) 54))) := by
    obtain ⟨p, py⟩ := hj0.out
    exact book_new py
  clear hj0
  go_upto_region 5 with (first
    | (refine wpList_build_row rfl 54 rfl (B.bkR (.slice none 0 0) (.slice none 0 0)) B.hbBkR ?_)
    | fail)
  generalize w4.alloc (.cells (B.bkR (.slice none 0 0) (.slice none 0 0)) 54) = w5 at *
  generalize w4.heap.size = q at *
  go_wp2
  go_loopw [7] (fun v7 wr => ∃ i : Nat, v7 = .int .i64 (i : Int) ∧ i ≤ n ∧ Hid (LBk w B1 B2 x ro d q i (2 * i) (2 * i) wr)) (fun v7 wr => n - (match v7 with | .int _ i => i.toNat | _ => 0))
  case atStart => exact ⟨0, rfl, Nat.zero_le _, hj1⟩
  case round =>
    clear hj1
    obtain ⟨i, rfl, hin, HI⟩ := hrel
    by_cases hi : i < n
    · obtain ⟨op, I, g, o, ho, rfl, hld, hlp⟩ := LI.out.rng (i := i) (by rw [HN.out.1]; exact hi)
      have HLD : Hid ((Instr.loadAt 66 (.pointer (some ⟨g, o + 42 * i, none⟩))).run Tryz.prog wr = .ok op.a wr) := hld wr HI.out.bel
      have HLP := hidMk hlp
      have HOS := hidMk ho
      have h63 : n ≤ 9223372036854775807 := by omega
      have CS : Hid (Calls Tryz.prog 7 #[.pointer (some ⟨x, 0, none⟩), op.a, .slice pa pn pc] wr fun e w1 => e = .returned (.bool true) ∧ LBk w B1 B2 x ro d q (i + 1) (2 * i) (2 * i) w1) := by
        rw [← HN.out.2]
        exact HI.out.step (by omega) LI.out.hP LI.out.okP LI.out.hPn HOS.out
      clear HI hld hlp ho
      go_upto_region 8 with fail
      refine rll8 (x := x) (g := g) (o := o) (n := n) (c := c) (i := i) (pn := pn) (pc := pc) (pa := pa) (q := op) (fun W => LBk w B1 B2 x ro d q (i + 1) (2 * i) (2 * i) W) _ wr _ rfl rfl rfl rfl rfl hi h63 (fun W e => by rw [e]; exact HLD.out) CS.out ?_
      intro a' w6 hf ha
      subst ha
      simp only [Act.put, List.setIfInBounds_toArray, List.set_cons_zero, List.set_cons_succ]
      have K6 := hidMk hf
      clear hf CS HLD
      obtain ⟨r, hr0⟩ : ∃ r, atP Ps op.pl = r := ⟨_, rfl⟩
      have hr : Hid r.ok := by rw [← hr0]; exact atP_ok LI.out.okP _
      have CA : Hid (Calls Tryz.prog 8 #[.slice pa pn pc, .int .i64 op.pl] w6 fun e w' => e = .returned r.v ∧ ∃ pb w1 w2, (Instr.alloc 68 true (.tuple #[])).run Tryz.prog w' = .ok (.pointer (some ⟨pb, 0, none⟩)) w1 ∧ (Instr.storeAt 68 (.pointer (some ⟨pb, 0, none⟩)) r.v).run Tryz.prog w1 = .ok () w2 ∧ (LBk w B1 B2 x ro d q (i + 1) (2 * i + 0) (2 * i + 0) w2 ∧ Np pb r w2)) := by
        rw [← HN.out.2]
        refine (at_any (LI.out.hP.below K6.out.bel) LI.out.okP LI.out.hPn HOS.out.ok.pl).mono ?_
        rintro e w' ⟨rfl, b⟩
        rw [hr0]
        obtain ⟨w1, w2, e1, e2, n2, b2⟩ := pl_new w' hr.out
        have b12 := b.trans (b2.mono b.size)
        exact ⟨rfl, w'.heap.size, w1, w2, e1, e2, K6.out.below b12, n2⟩
      have LP : Hid ((Instr.loadAt 3 (.pointer (some ⟨g, o + 42 * i + 1, none⟩))).run Tryz.prog w6 = .ok (.int .i64 op.pl) w6) := HLP.out w6 K6.out.bel
      clear K6 HLP HOS hr0
      go_upto_region 10 with fail
      refine rll10 (g := g) (o := o) (n := n) (c := c) (i := i) (pn := pn) (pc := pc) (pa := pa) (z := op.pl) (p := r) (fun pb W => LBk w B1 B2 x ro d q (i + 1) (2 * i + 0) (2 * i + 0) W ∧ Np pb r W) _ w6 _ rfl rfl rfl rfl hi h63 (fun W e => by rw [e]; exact LP.out) CA.out ?_
      intro pb a' w7 hf ha
      subst ha
      simp only [Act.put, List.setIfInBounds_toArray, List.set_cons_zero, List.set_cons_succ]
      have K7 := hidMk hf
      clear hf CA LP
      generalize op.a = opa at *
      generalize op.pl = opl at *
      generalize hrv : r.v = rv at *
      have HRV := hidMk hrv
      clear hrv
      go_wp2
      go_loopw [9] (fun v9 wr => ∃ k : Nat, v9 = .int .i64 (k : Int) ∧ k ≤ 2 ∧ Hid (LBk w B1 B2 x ro d q (i + 1) (2 * i + k) (2 * i + k) wr ∧ Np pb r wr)) (fun v9 wr => 2 - (match v9 with | .int _ i => i.toNat | _ => 0))
      case atStart => exact ⟨0, rfl, by omega, K7⟩
      case round =>
        clear K7
        obtain ⟨k, rfl, hk2, HK⟩ := hrel
        by_cases hk : k < 2
        · have bd : Hid (LBk w B1 B2 x ro d q (i + 1) (2 * i + k) (2 * i + k) wr.drew ∧ Np pb r wr.drew) := ⟨HK.out.1.below (Below.refl _ _).drew, HK.out.2⟩
          have S0 : Hid (SB x ro d pb r wr.drew) := by
            obtain ⟨p, tv, RT, ev, RE, py, _⟩ := bd.out.1
            exact py.sb bd.out.2
          have CE := hidMk (bd.out.1.ent (by omega) (by omega) hr.out bd.out.2)
          clear HK bd
          go_upto_region 14 with fail
          refine rll14 (x := x) (rb := ro) (q := q) (pb := pb) (p := r) (SB x ro d pb r) (fun W => LBk w B1 B2 x ro d q (i + 1) (2 * i + k) (2 * i + k + 1) W ∧ Np pb r W) _ wr _ rfl rfl rfl rfl S0.out (fun W h => h.l1) (fun W h => h.l2 hr.out) CE.out ?_
          intro u a' w8 hf ha
          subst ha
          simp only [Act.put, List.setIfInBounds_toArray, List.set_cons_zero, List.set_cons_succ]
          have K8 := hidMk hf
          clear hf CE S0
          have bd : Hid (LBk w B1 B2 x ro d q (i + 1) (2 * i + k) (2 * i + k + 1) w8.drew ∧ Np pb r w8.drew) := ⟨K8.out.1.below (Below.refl _ _).drew, K8.out.2⟩
          have S0 : Hid (SB x ro d pb r w8.drew) := by
            obtain ⟨p, tv, RT, ev, RE, py, _⟩ := bd.out.1
            exact py.sb bd.out.2
          have CE := hidMk (bd.out.1.keys (by omega) (by omega) hr.out bd.out.2)
          clear K8 bd
          go_upto_region 15 with fail
          refine rll15 (x := x) (rb := ro) (q := q) (pb := pb) (p := r) (SB x ro d pb r) (fun W => LBk w B1 B2 x ro d q (i + 1) (2 * i + k + 1) (2 * i + k + 1) W ∧ Np pb r W) _ w8 _ rfl rfl rfl rfl S0.out (fun W h => h.l1) (fun W h => h.l3 hr.out) CE.out ?_
          intro u2 a' w9 hf ha
          subst ha
          simp only [Act.put, List.setIfInBounds_toArray, List.set_cons_zero, List.set_cons_succ]
          have K9 := hidMk hf
          clear hf CE S0
          generalize r.o.v = rov at *
          generalize r.v = rv2 at *
          go_wp2
          rw [show ((k : Int) + 1) = ((k + 1 : Nat) : Int) by omega]
          refine ⟨⟨k + 1, rfl, hk, K9⟩, ?_⟩
          show 2 - ((k + 1 : Nat) : Int).toNat < 2 - (k : Int).toNat
          omega
        · obtain rfl : k = 2 := by omega
          have K8 : Hid (LBk w B1 B2 x ro d q (i + 1) (2 * (i + 1)) (2 * (i + 1)) wr) := by
            have := HK.out.1
            exact this
          clear hk hk2 HK
          go_wp2
          rw [show ((i : Int) + 1) = ((i + 1 : Nat) : Int) by omega]
          refine ⟨⟨i + 1, rfl, hi, K8⟩, ?_⟩
          show n - ((i + 1 : Nat) : Int).toNat < n - (i : Int).toNat
          omega
    · obtain rfl : i = n := by omega
      clear hin hi
      have bd : Hid (LBk w B1 B2 x ro d q i (2 * i) (2 * i) wr.drew) := HI.out.below (Below.refl _ _).drew
      have ALK : Hid (∀ W p, PY (fun _ => none) w B1 B2 x ro d i p W → Calls Tryz.prog 14 #[.pointer (some ⟨ro, 0, none⟩), .pointer (some ⟨d, 0, none⟩), .slice pa pn pc] W fun e w' => e = .returned (.bool true) ∧ PY (fun _ => none) w B1 B2 x ro d i p w') := fun W p py => by
        rw [← HN.out.2]
        exact LI.out.alike py (by omega)
      have C1 : Hid (Calls Tryz.prog 13 #[.pointer (some ⟨q, 0, none⟩)] wr.drew fun e w1 => e = .returned (.bool true) ∧ (∃ K p, PY K w B1 B2 x ro d i p w1) ∧ Calls Tryz.prog 14 #[.pointer (some ⟨ro, 0, none⟩), .pointer (some ⟨d, 0, none⟩), .slice pa pn pc] w1 fun e w2 => e = .returned (.bool true) ∧ (∃ K p, PY K w B1 B2 x ro d i p w2) ∧ ∃ p, PY (fun _ => none) w B1 B2 x ro d i p w2) := by
        refine (bd.out.alone (by omega) (by omega)).mono ?_
        rintro e w1 ⟨rfl, p, py⟩
        refine ⟨rfl, ⟨_, p, py⟩, (ALK.out w1 p py).mono ?_⟩
        rintro e w2 ⟨rfl, py2⟩
        exact ⟨rfl, ⟨_, p, py2⟩, p, py2⟩
      have S0 : Hid (∃ K p, PY K w B1 B2 x ro d i p wr.drew) := by
        obtain ⟨p, tv, RT, ev, RE, py, _⟩ := bd.out
        exact ⟨_, p, py⟩
      clear HI bd
      go_upto_region 16 with fail
      refine rll16 (x := x) (rb := ro) (d := d) (q := q) (pn := pn) (pc := pc) (pa := pa) (fun W => ∃ K p, PY K w B1 B2 x ro d i p W) (fun W => ∃ p, PY (fun _ => none) w B1 B2 x ro d i p W) _ wr _ rfl rfl rfl rfl S0.out (fun W h => by obtain ⟨K, p, py⟩ := h; exact py.pm.ldr) (fun W h => by obtain ⟨K, p, py⟩ := h; exact py.pm.ldd) C1.out ?_
      intro a' w6 hf ha
      subst ha
      simp only [Act.put, List.setIfInBounds_toArray, List.set_cons_zero, List.set_cons_succ]
      have K6 := hidMk hf
      clear hf C1 S0
      go_wp2
      go_loopw [] (fun wr => Hid (∃ p, PY (fun _ => none) w B1 B2 x ro d i p wr)) (fun wr => stepsAt d wr)
      case atStart => exact K6
      case round =>
        clear K6
        obtain ⟨p, py⟩ := hrel
        have HMS := hidMk py.stepsAt
        have HPY := hidMk py
        by_cases hH : p.H = []
        · have CL : Hid (Calls Tryz.prog 15 #[.pointer (some ⟨x, 0, none⟩)] wr fun e w' => e = .returned (.int .i64 (-1)) ∧ Below wr.heap.size wr w') := (dlast_any py (by omega)).mono fun e w' h => by
            obtain ⟨z, he, hz, bz⟩ := h
            rcases hz with ⟨rfl, _⟩ | ⟨i0, rfl, _, _, hp⟩
            · exact ⟨he, bz⟩
            · rw [← py.ln.len2, hH] at hp
              simp at hp
          have HHH := hidMk hH
          clear py hH
          go_upto_region 21 with (first
            | (go_at_call 15; refine CL.out.mono ?_; rintro e w7 ⟨rfl, b7⟩; clear CL)
            | fail)
          have PY7 := hidMk (HPY.out.below b7)
          have hP := PY7.out.none HHH.out
          have cl := len_any PY7.out.pm.ra.mem
          rw [hP, PY7.out.pm.r] at cl
          have CLN := hidMk cl
          have c0 : w7.cell? ⟨x, 0, none⟩ = some (.pointer (some ⟨ro, 0, none⟩)) := (cell_of_row w7 x 0 _ _ _ PY7.out.pm.cell).trans rfl
          clear hP cl HPY b7
          go_wp2_with (first
            | (go_at_call 17; refine CLN.out.mono ?_; rintro e w8 ⟨rfl, hw8⟩; obtain rfl : w7 = w8 := hw8.symm)
            | fail)
          go_ret
          exact ⟨rfl, PY7.out.bel⟩
        · have CL : Hid (Calls Tryz.prog 15 #[.pointer (some ⟨x, 0, none⟩)] wr fun e w' => ∃ i0 : Nat, e = .returned (.int .i64 (i0 : Int)) ∧ Below wr.heap.size wr w') := (dlast_any py (by omega)).mono fun e w' h => by
            obtain ⟨z, he, hz, bz⟩ := h
            rcases hz with ⟨rfl, h0⟩ | ⟨i0, rfl, _, _, hp⟩
            · exact absurd h0 hH
            · exact ⟨i0, he, bz⟩
          have HLEN : Hid (0 < p.H.length) := List.length_pos_iff.2 hH
          clear py hH
          go_upto_region 19 with (first
            | (go_at_call 15; refine CL.out.mono ?_; rintro e w7 ⟨i0, rfl, b7⟩; have hge : (0 : Int) ≤ (i0 : Int) := (by omega); clear CL)
            | fail)
          have PY7 := hidMk (HPY.out.below b7)
          clear HPY b7 hge
          have PYd := hidMk (PY7.out.below (Below.refl w7.heap.size w7).drew)
          have C1 : Hid (Calls Tryz.prog 16 #[.pointer (some ⟨x, 0, none⟩), .int .i64 (-1)] w7.drew fun e w1 => e = .returned (.bool true) ∧ (∃ K p, PY K w B1 B2 x ro d i p w1) ∧ Calls Tryz.prog 14 #[.pointer (some ⟨ro, 0, none⟩), .pointer (some ⟨d, 0, none⟩), .slice pa pn pc] w1 fun e w2 => e = .returned (.bool true) ∧ (∃ K p, PY K w B1 B2 x ro d i p w2) ∧ ∃ p', PY (fun _ => none) w B1 B2 x ro d i p' w2 ∧ p'.H.length < p.H.length) := by
            refine (dundo_any PYd.out (by omega) (z := -1) ⟨by omega, by omega⟩).mono ?_
            rintro e w1 ⟨rfl, p', py', hl⟩
            have hl' : p'.H.length < p.H.length := by have := hl rfl; have := HLEN.out; omega
            refine ⟨rfl, ⟨_, p', py'⟩, (ALK.out w1 p' py').mono ?_⟩
            rintro e w2 ⟨rfl, py2⟩
            exact ⟨rfl, ⟨_, p', py2⟩, p', py2, hl'⟩
          clear PY7
          refine rll19 (x := x) (rb := ro) (d := d) (pn := pn) (pc := pc) (pa := pa) (fun W => ∃ K p, PY K w B1 B2 x ro d i p W) (fun W => ∃ p', PY (fun _ => none) w B1 B2 x ro d i p' W ∧ p'.H.length < p.H.length) _ w7 _ rfl rfl rfl ⟨_, p, PYd.out⟩ (fun W h => by obtain ⟨K, p, py⟩ := h; exact py.pm.ldr) (fun W h => by obtain ⟨K, p, py⟩ := h; exact py.pm.ldd) C1.out ?_
          intro a' w8 hf ha
          subst ha
          simp only [Act.put, List.setIfInBounds_toArray, List.set_cons_zero, List.set_cons_succ]
          obtain ⟨p8, py8, hl8⟩ := hf
          have K8 := hidMk py8
          have HL8 := hidMk hl8
          clear py8 hl8 C1 PYd HLEN
          go_wp2
          refine ⟨⟨p8, K8.out⟩, ?_⟩
          show stepsAt d w8 < stepsAt d wr
          rw [HMS.out, K8.out.stepsAt]
          exact HL8.out
end Go.Proofs.YtldlljobofnmmaaGreatDoor
namespace Go.Proofs.YtldlljobofnmmaaGreatDoor
open Go.ChangeShapes Go.WideShapes Go.ChangeAt Go.RowKit
set_option linter.unusedVariables false
set_option linter.unusedSimpArgs false
def Sm {H : Type} (t : TypeId) (d : DataW H) : Prop := ∀ n ∈ d.weights Tryz.prog t, n ≤ reachBytes
theorem wAll {H : Type} {P : Program} {e : TypeId} : ∀ {l : List (DataW H)} {i : Nat} {d : DataW H}, l[i]? = some d → ∀ n ∈ d.weights P e, n ∈ DataW.weightsAll P e l
  | x :: r, 0, d, h, n, hn => by
    simp only [List.getElem?_cons_zero, Option.some.injEq] at h
    subst h
    simp only [DataW.weightsAll, List.mem_append]
    exact .inl hn
  | x :: r, i + 1, d, h, n, hn => by
    simp only [List.getElem?_cons_succ] at h
    simp only [DataW.weightsAll, List.mem_append]
    exact .inr (wAll h n hn)
  | [], i, d, h, n, hn => by simp at h
theorem bytes_idR : Tryz.prog.bytesOf 59 = 40 := by kernel_rfl
section
variable {H : Type} {enc : TypeId × Value → H} {W : World}
theorem view_rowsS {κ : Type} {T e k : Nat} {encd : κ → List Value} {ok : κ → Prop} (hT : Tryz.prog.underlying T = some (.slice e)) (hce : Tryz.prog.cellsOf e = k) (hk : 0 < k) (hlen : ∀ x, ok x → (encd x).length = k)
    (hcells : ∀ (fuel : Nat) (cs : List Value) (y : DataW H × List MemPlace), DataW.trod enc Tryz.prog W 0 (fun _ => true) true fuel e cs = some y → Sm e y.1 → ∃ x, ok x ∧ cs = encd x)
    {a : Option Addr} {len cap : Nat} {d : DataW H} {p : List MemPlace} (h : DataW.Trod enc Tryz.prog W 0 (fun _ => true) true T (.slice a len cap) d p) (hb0 : Sm T d) :
    ∃ L : List κ, L.length = len ∧ (∀ x ∈ L, ok x) ∧ RowAt k encd W a L ∧ (d = .nil ∧ len = 0 ∨ ∃ el sp, d = .slice el sp ∧ el.length = len) := by
  obtain ⟨fuel, hf⟩ := h
  rcases DataW.trod_slice hT hf with ⟨hcs', hx⟩ | ⟨ad, l, c, elems, rest, n, _, hcs', hx, _, hl, hm, hel, hcell, _, _⟩
  · simp [Value.cells] at hcs'
    obtain ⟨rfl, rfl, rfl⟩ := hcs'
    simp only [Prod.mk.injEq] at hx
    exact ⟨[], rfl, fun v hv => (by cases hv), .inl rfl, .inl ⟨hx.1, rfl⟩⟩
  · simp [Value.cells] at hcs'
    obtain ⟨rfl, rfl, rfl⟩ := hcs'
    simp only [Prod.mk.injEq] at hx
    obtain ⟨b, off, spot⟩ := ad
    rw [hx.1] at hb0
    have raw : ∀ i, i < len → ∃ v : κ, ok v ∧ ∀ j u, (encd v)[j]? = some u → W.cell? (((⟨b, off, spot⟩ : Addr).add (i * k)).add j) = some u := fun i hi => by
      have hi2 := hcell i hi
      rw [List.getElem?_eq_getElem (by omega), hce, Option.bind_eq_some_iff] at hi2
      obtain ⟨cs, hc1, hc2⟩ := hi2
      obtain ⟨v, hv, rfl⟩ := hcells _ _ _ hc2 fun n hn => hb0 n (by
        simp only [DataW.weights, hT]
        exact List.mem_cons_of_mem _ (List.mem_append_left _ (wAll (i := i) (d := (elems[i]'(by omega)).1) (by rw [List.getElem?_map, List.getElem?_eq_getElem (by omega)]; rfl) n hn)))
      obtain ⟨_, _, hc3⟩ := World.cells?_some hc1
      refine ⟨v, hv, fun j u hu => ?_⟩
      have hj := (List.getElem?_eq_some_iff.1 hu).1
      rw [hlen v hv] at hj
      rw [hc3 j hj]
      exact hu
    have hspot : 0 < len → spot = none ∧ b < W.heap.size := fun h0 => by
      obtain ⟨v, hv, hc⟩ := raw 0 h0
      have q := hc 0 _ (List.getElem?_eq_getElem (by rw [hlen v hv]; omega))
      have q1 := World.cell?_spot q
      have q2 : spot = none := by simpa [Addr.add] using q1
      subst q2
      refine ⟨rfl, ?_⟩
      rw [Addr.add_mid, Addr.add_mid] at q
      exact block_lt_of_cell q
    by_cases h0 : 0 < len
    · obtain ⟨hs, hb⟩ := hspot h0
      subst hs
      obtain ⟨v0, _⟩ := raw 0 h0
      let F : Nat → κ := fun i => if h : i < len then Classical.choose (raw i h) else v0
      have hF : ∀ i (h : i < len), F i = Classical.choose (raw i h) := fun i h => dif_pos h
      refine ⟨(List.range len).map F, by simp, fun v hv => ?_, ?_, .inr ⟨_, _, hx.1, by simp [hel]⟩⟩
      · rw [List.mem_map] at hv
        obtain ⟨i, hi, rfl⟩ := hv
        rw [List.mem_range] at hi
        rw [hF i hi]
        exact (Classical.choose_spec (raw i hi)).1
      · refine .inr ⟨b, off, rfl, hb, fun i v hv => ?_⟩
        have hi : i < len := by
          have := (List.getElem?_eq_some_iff.1 hv).1
          simpa using this
        rw [List.getElem?_map, List.getElem?_range hi] at hv
        simp only [Option.map_some, Option.some.injEq] at hv
        subst hv
        rw [hF i hi]
        intro j u hu
        have := (Classical.choose_spec (raw i hi)).2 j u hu
        rwa [Addr.add_mid, Addr.add_mid] at this
    · obtain rfl : len = 0 := by omega
      exact ⟨[], rfl, fun v hv => (by cases hv), .inl rfl, .inr ⟨_, _, hx.1, by simp [hel]⟩⟩
theorem opS_cells (fuel : Nat) (cs : List Value) (y : DataW H × List MemPlace) (h : DataW.trod enc Tryz.prog W 0 (fun _ => true) true fuel 66 cs = some y) : ∃ x : OpR, x.ok W ∧ cs = x.c ∧ (Sm 66 y.1 → ∃ I, OpS W x I) := by
  obtain ⟨xs, n, _, hx, hcl, hlen, hfs⟩ := DataW.trod_struct Tryz.underlying66 h
  rw [cells_opR] at hcl
  have hlen : xs.length = 7 := hlen
  obtain ⟨A, R, rfl, hA, hR⟩ := list_split (n := 2) (m := 40) hcl
  obtain ⟨B, R, rfl, hB, hR⟩ := list_split (n := 33) (m := 7) hR
  obtain ⟨C, D, rfl, hC, hD⟩ := list_split (n := 4) (m := 3) hR
  obtain ⟨a0, a1, rfl⟩ : ∃ a b, A = [a, b] := by
    match A, hA with
    | [a, b], _ => exact ⟨a, b, rfl⟩
  obtain ⟨d0, d1, d2, rfl⟩ : ∃ a b c, D = [a, b, c] := by
    match D, hD with
    | [a, b, c], _ => exact ⟨a, b, c, rfl⟩
  match xs, hlen with
  | [y0, y1, y2, y3, y4, y5, y6], _ =>
    have t0 : DataW.trod enc Tryz.prog W 0 (fun _ => true) true n 3 ((([a0, a1] ++ (B ++ (C ++ [d0, d1, d2]))).drop 0).take (Tryz.prog.cellsOf 3)) = some y0 := hfs 0 _ rfl
    have t1 : DataW.trod enc Tryz.prog W 0 (fun _ => true) true n 3 ((([a0, a1] ++ (B ++ (C ++ [d0, d1, d2]))).drop 1).take (Tryz.prog.cellsOf 3)) = some y1 := hfs 1 _ rfl
    have t2 : DataW.trod enc Tryz.prog W 0 (fun _ => true) true n 59 ((([a0, a1] ++ (B ++ (C ++ [d0, d1, d2]))).drop 2).take (Tryz.prog.cellsOf 59)) = some y2 := hfs 2 _ rfl
    have t3 : DataW.trod enc Tryz.prog W 0 (fun _ => true) true n 63 ((([a0, a1] ++ (B ++ (C ++ [d0, d1, d2]))).drop 35).take (Tryz.prog.cellsOf 63)) = some y3 := hfs 3 _ rfl
    have t4 : DataW.trod enc Tryz.prog W 0 (fun _ => true) true n 2 ((([a0, a1] ++ (B ++ (C ++ [d0, d1, d2]))).drop 39).take (Tryz.prog.cellsOf 2)) = some y4 := hfs 4 _ rfl
    have t5 : DataW.trod enc Tryz.prog W 0 (fun _ => true) true n 64 ((([a0, a1] ++ (B ++ (C ++ [d0, d1, d2]))).drop 40).take (Tryz.prog.cellsOf 64)) = some y5 := hfs 5 _ rfl
    have t6 : DataW.trod enc Tryz.prog W 0 (fun _ => true) true n 3 ((([a0, a1] ++ (B ++ (C ++ [d0, d1, d2]))).drop 41).take (Tryz.prog.cellsOf 3)) = some y6 := hfs 6 _ rfl
    have dB : ([a0, a1] ++ (B ++ (C ++ [d0, d1, d2]))).drop 2 = B ++ (C ++ [d0, d1, d2]) := rfl
    have dC : ([a0, a1] ++ (B ++ (C ++ [d0, d1, d2]))).drop 35 = C ++ [d0, d1, d2] := by
      rw [show 35 = 2 + B.length by omega, ← List.drop_drop, dB, List.drop_left]
    have dD : ([a0, a1] ++ (B ++ (C ++ [d0, d1, d2]))).drop 39 = [d0, d1, d2] := by
      rw [show 39 = 35 + C.length by omega, ← List.drop_drop, dC, List.drop_left]
    have dE : ([a0, a1] ++ (B ++ (C ++ [d0, d1, d2]))).drop 40 = [d1, d2] := by
      rw [show 40 = 39 + 1 by omega, ← List.drop_drop, dD]; rfl
    have dF : ([a0, a1] ++ (B ++ (C ++ [d0, d1, d2]))).drop 41 = [d2] := by
      rw [show 41 = 39 + 2 by omega, ← List.drop_drop, dD]; rfl
    rw [cells_int] at t0 t1 t6
    rw [cells_id, dB, ← hB, List.take_left] at t2
    rw [cells_va, dC, ← hC, List.take_left] at t3
    rw [cells_i64, dD] at t4
    rw [cells_ids, dE] at t5
    rw [dF] at t6
    obtain ⟨z0, q0, _, w0⟩ := DataW.trod_int Tryz.underlying3 t0
    obtain ⟨z1, q1, _, w1⟩ := DataW.trod_int Tryz.underlying3 t1
    obtain ⟨x2, o2, q2⟩ := id_cells t2
    obtain ⟨x3, o3, q3⟩ := va_cells _ _ _ t3
    obtain ⟨z4, q4, _, w4⟩ := DataW.trod_int Tryz.underlying2 t4
    obtain ⟨z6, q6, _, w6⟩ := DataW.trod_int Tryz.underlying3 t6
    have t5' : DataW.trod enc Tryz.prog W 0 (fun _ => true) true n 64 [d1] = some y5 := t5
    obtain ⟨sa, sl, sc, hs⟩ : ∃ a l c, d1 = .slice a l c := by
      rcases DataW.trod_slice Tryz.underlying64 t5' with ⟨e, _⟩ | ⟨ad, l, c, _, _, _, _, e, _⟩
      · exact ⟨none, 0, 0, (List.cons.inj e).1⟩
      · exact ⟨some ad, l, c, (List.cons.inj e).1⟩
    subst hs
    obtain ⟨L, hl, hok, hat, hdd⟩ := view_rows (k := 33) (encd := IdK.c) (ok := IdK.ok) Tryz.underlying64 cells_id (by omega) (fun x hx => IdK.len hx) (fun fuel cs y h => id_cells h) (d := y5.1) (p := y5.2) ⟨n, t5'⟩
    simp at q0 q1 q4 q6
    subst q0 q1 q2 q3 q4 q6 hl
    have hokk : (⟨z0, z1, x2, x3, z4, .slice sa L.length sc, z6⟩ : OpR).ok W := ⟨o2, o3, i64_wf w0, i64_wf w1, i64_wf w4, i64_wf w6, sa, sc, L, rfl, hok, hat⟩
    refine ⟨⟨z0, z1, x2, x3, z4, .slice sa L.length sc, z6⟩, hokk, rfl, fun hb => ?_⟩
    have hn : L.length ≤ 3518437208883 := by
      rcases hdd with ⟨_, e⟩ | ⟨el, sp, e, hl⟩
      · omega
      · rw [hx] at hb
        have := hb ((el.length + sp.length) * Tryz.prog.bytesOf 59) (by
          simp only [DataW.weights, Tryz.underlying66]
          exact DataW.weights_mem_each (j := 5) (t := 64) rfl rfl _ (by show _ ∈ DataW.weights Tryz.prog 64 y5.1; rw [e]; simp [DataW.weights, Tryz.underlying64]))
        rw [bytes_idR] at this
        simp only [reachBytes] at this
        omega
    refine ⟨L, hokk, ⟨⟨sa, sc, rfl, ?_⟩, hok, by omega⟩, hn⟩
    rcases hat with h | ⟨b, off, e, h1, h2⟩
    · exact .inl h
    · exact .inr ⟨b, off, e, h1, fun i x hx => by show W.rangeAt b (off + 33 * i) _; rw [Nat.mul_comm]; exact h2 i x hx⟩
theorem sm_of {ts : List TypeId} {ds : List (DataW H)} (h : (DataW.weightsEach Tryz.prog ts ds).all (· ≤ reachBytes) = true) {j : Nat} {t : TypeId} {d : DataW H} (ht : ts[j]? = some t) (hd : ds[j]? = some d) : Sm t d := fun n hn => by
  have := List.all_eq_true.1 h n (DataW.weights_mem_each ht hd n hn)
  simpa using this
theorem view_opsS {a : Option Addr} {len cap : Nat} {d : DataW H} {p : List MemPlace} (h : DataW.Trod enc Tryz.prog W 0 (fun _ => true) true 23 (.slice a len cap) d p) (hb : Sm 23 d) :
    ∃ L : List OpR, L.length = len ∧ (∀ x ∈ L, ∃ I, OpS W x I) ∧ RowAt 42 OpR.c W a L ∧ (d = .nil ∧ len = 0 ∨ ∃ el sp, d = .slice el sp ∧ el.length = len) :=
  view_rowsS (ok := fun x => ∃ I, OpS W x I) Tryz.underlying23 cells_opR (by omega) (fun x hx => by obtain ⟨I, h⟩ := hx; exact OpR.len h.ok) (fun fuel cs y h hs => by
    obtain ⟨x, _, e, hi⟩ := opS_cells fuel cs y h
    exact ⟨x, hi hs, e⟩) h hb
end
end Go.Proofs.YtldlljobofnmmaaGreatDoor
