import Derived.Test.YtldlljobofnmmabDoorZr
import Derived.Test.YtldlljobofnmmabDoorRgi
namespace Go.Proofs.YtldlljobofnmmabDoor
open Go.RowKit
set_option linter.unusedVariables false
set_option linter.unusedSimpArgs false

def lay2_o0 : Oper := { dst := some 9, op := Op.move (Operand.tmp 0), type := 25, pos := "regs.go:106", after := #[], guard := none }
def lay2_o1 : Oper := { dst := some 10, op := Op.nilCheck (Operand.tmp 9), type := 0, pos := "regs.go:106", after := #[{ on := 0, ground := Ground.data }], guard := none }
def lay2_o2 : Oper := { dst := some 11, op := Op.fieldAddr 69 (Operand.tmp 10) 0, type := 0, pos := "regs.go:106", after := #[{ on := 1, ground := Ground.data }], guard := none }
def lay2_o3 : Oper := { dst := some 12, op := Op.load 66 (Operand.tmp 11), type := 66, pos := "regs.go:106", after := #[{ on := 2, ground := Ground.data }], guard := none }
def lay2_o4 : Oper := { dst := some 13, op := Op.load 34 (Operand.tmp 4), type := 34, pos := "regs.go:106", after := #[], guard := none }
def lay2_o5 : Oper := { dst := none, op := Op.call { callee := Callee.builtin Builtin.delete, args := #[Operand.tmp 12, Operand.tmp 13], argTypes := #[66, 34] }, type := 0, pos := "regs.go:106", after := #[{ on := 3, ground := Ground.data }, { on := 4, ground := Ground.data }], guard := none }
def lay2_ops : Array Oper := #[lay2_o0, lay2_o1, lay2_o2, lay2_o3, lay2_o4, lay2_o5]
set_option maxRecDepth 100000 in
set_option maxHeartbeats 4000000 in
theorem lay2 {rb mb kb pb : Nat} {p : PlK} {w2 : World} (a : Act) (w : World) (Q : Exit → Act → World → Prop) (zz : a.tmps.size = 26)
    (t0 : a.tmps.getD 0 undef = .pointer (some ⟨rb, 0, none⟩))
    (t4 : a.tmps.getD 4 undef = .pointer (some ⟨pb, 0, none⟩))
    (hp : p.ok) (h0 : RS rb mb kb pb p w.drew) (ED : (Builtin.delete_ #[66, 34] 0 #[.map (some mb), p.v]).run Tryd.prog w.drew = .ok (.tuple #[]) w2)
    (h : ∀ (a' : Act) (w' : World), w' = w2 → a' = (((((a).put (some 9) (.pointer (some ⟨rb, 0, none⟩))).put (some 10) (.pointer (some ⟨rb, 0, none⟩))).put (some 11) (.pointer (some ⟨rb, 0 + 0, none⟩))).put (some 12) (.map (some mb))).put (some 13) (p.v) → Q .normal a' w') :
    (Code.region 2 lay2_ops true).wp Tryd.prog Q a w := by
  refine x0 5 (fun w' => RS rb mb kb pb p w' ∧ w' = w.drew) (⟨h0, rfl⟩) (fun hHeld => ?_)
  refine xv 0 rfl rfl (fun w1 hw => exec_move rfl (zi t0 rfl)) hHeld ?_
  refine xv 1 rfl rfl (fun w1 hw => exec_nilCheck rfl (zg zz rfl)) hHeld ?_
  refine xv 2 rfl rfl (fun w1 hw => exec_fieldAt rfl (zg zz rfl) (fg_69_0 _ _ _)) hHeld ?_
  refine xv 3 rfl rfl (fun w1 hw => exec_load rfl (zg zz rfl) (RS.l0 hw.1)) hHeld ?_
  refine xv 4 rfl rfl (fun w1 hw => exec_load rfl (zi t4 rfl) (RS.lp hw.1 hp)) hHeld ?_
  refine xd 5 rfl rfl (exec_delete rfl (zg zz rfl) (zg zz rfl) ED) (fun hne => absurd rfl hne) (fun _ => ?_)
  exact xe rfl (h _ _ (rfl) rfl)
def lay3_o0 : Oper := { dst := some 14, op := Op.move (Operand.tmp 0), type := 25, pos := "regs.go:107", after := #[], guard := none }
def lay3_o1 : Oper := { dst := some 15, op := Op.load 34 (Operand.tmp 4), type := 34, pos := "regs.go:107", after := #[], guard := none }
def lay3_o2 : Oper := { dst := some 16, op := Op.call { callee := Callee.value (Operand.func 42), args := #[Operand.tmp 14, Operand.tmp 15], argTypes := #[25, 34] }, type := 0, pos := "regs.go:107", after := #[{ on := 0, ground := Ground.data }, { on := 1, ground := Ground.data }], guard := none }
def lay3_ops : Array Oper := #[lay3_o0, lay3_o1, lay3_o2]
set_option maxRecDepth 100000 in
set_option maxHeartbeats 4000000 in
theorem lay3 {rb mb kb pb : Nat} {p : PlK} (Fin : World → Prop) (a : Act) (w : World) (Q : Exit → Act → World → Prop) (zz : a.tmps.size = 26)
    (t0 : a.tmps.getD 0 undef = .pointer (some ⟨rb, 0, none⟩))
    (t4 : a.tmps.getD 4 undef = .pointer (some ⟨pb, 0, none⟩))
    (hp : p.ok) (h0 : RS rb mb kb pb p w) (CF : Calls Tryd.prog 42 #[.pointer (some ⟨rb, 0, none⟩), p.v] w fun e w' => e = .returned (.tuple #[]) ∧ Fin w')
    (h : ∀ (a' : Act) (w' : World), Fin w' → a' = (((a).put (some 14) (.pointer (some ⟨rb, 0, none⟩))).put (some 15) (p.v)).put (some 16) (.tuple #[]) → Q .normal a' w') :
    (Code.region 3 lay3_ops false).wp Tryd.prog Q a w := by
  refine z0 rfl ?_
  refine zv rfl (exec_move rfl (zi t0 rfl)) ?_
  refine zv rfl (exec_load rfl (zi t4 rfl) (RS.lp h0 hp)) ?_
  refine zc rfl (exec_c2 rfl (zg zz rfl) (zg zz rfl)) (CF) (fun e x2 hx => ?_)
  obtain ⟨rfl, HF⟩ := hx
  refine ⟨_, rfl, ?_⟩
  exact ze rfl (h _ _ (HF) rfl)
def lay4_o0 : Oper := { dst := some 17, op := Op.move (Operand.tmp 0), type := 25, pos := "regs.go:110", after := #[], guard := none }
def lay4_o1 : Oper := { dst := some 18, op := Op.nilCheck (Operand.tmp 17), type := 0, pos := "regs.go:110", after := #[{ on := 0, ground := Ground.data }], guard := none }
def lay4_o2 : Oper := { dst := some 19, op := Op.fieldAddr 69 (Operand.tmp 18) 0, type := 0, pos := "regs.go:110", after := #[{ on := 1, ground := Ground.data }], guard := none }
def lay4_o3 : Oper := { dst := some 20, op := Op.load 66 (Operand.tmp 19), type := 66, pos := "regs.go:110", after := #[{ on := 2, ground := Ground.data }], guard := none }
def lay4_o4 : Oper := { dst := some 21, op := Op.load 34 (Operand.tmp 4), type := 34, pos := "regs.go:110", after := #[], guard := none }
def lay4_o5 : Oper := { dst := some 22, op := Op.move (Operand.tmp 2), type := 44, pos := "regs.go:110", after := #[], guard := none }
def lay4_o6 : Oper := { dst := none, op := Op.mapUpdate 66 (Operand.tmp 20) (Operand.tmp 21) (Operand.tmp 22), type := 0, pos := "regs.go:110", after := #[{ on := 3, ground := Ground.data }, { on := 4, ground := Ground.data }, { on := 5, ground := Ground.data }, { on := 0, ground := Ground.phase }, { on := 1, ground := Ground.phase }, { on := 2, ground := Ground.phase }, { on := 3, ground := Ground.phase }, { on := 4, ground := Ground.phase }, { on := 5, ground := Ground.phase }], guard := none }
def lay4_ops : Array Oper := #[lay4_o0, lay4_o1, lay4_o2, lay4_o3, lay4_o4, lay4_o5, lay4_o6]
set_option maxRecDepth 100000 in
set_option maxHeartbeats 4000000 in
theorem lay4 {rb mb kb pb : Nat} {p : PlK} {lv : Value} {w2 : World} (a : Act) (w : World) (Q : Exit → Act → World → Prop) (zz : a.tmps.size = 26)
    (t0 : a.tmps.getD 0 undef = .pointer (some ⟨rb, 0, none⟩))
    (t4 : a.tmps.getD 4 undef = .pointer (some ⟨pb, 0, none⟩))
    (t2 : a.tmps.getD 2 undef = lv)
    (hp : p.ok) (h0 : RS rb mb kb pb p w.drew) (EU : (Instr.mapUpdate 66 (.map (some mb)) p.v lv).run Tryd.prog w.drew = .ok () w2)
    (h : ∀ (a' : Act) (w' : World), w' = w2 → a' = ((((((a).put (some 17) (.pointer (some ⟨rb, 0, none⟩))).put (some 18) (.pointer (some ⟨rb, 0, none⟩))).put (some 19) (.pointer (some ⟨rb, 0 + 0, none⟩))).put (some 20) (.map (some mb))).put (some 21) (p.v)).put (some 22) (lv) → Q .normal a' w') :
    (Code.region 4 lay4_ops true).wp Tryd.prog Q a w := by
  refine x0 6 (fun w' => RS rb mb kb pb p w' ∧ w' = w.drew) (⟨h0, rfl⟩) (fun hHeld => ?_)
  refine xv 0 rfl rfl (fun w1 hw => exec_move rfl (zi t0 rfl)) hHeld ?_
  refine xv 1 rfl rfl (fun w1 hw => exec_nilCheck rfl (zg zz rfl)) hHeld ?_
  refine xv 2 rfl rfl (fun w1 hw => exec_fieldAt rfl (zg zz rfl) (fg_69_0 _ _ _)) hHeld ?_
  refine xv 3 rfl rfl (fun w1 hw => exec_load rfl (zg zz rfl) (RS.l0 hw.1)) hHeld ?_
  refine xv 4 rfl rfl (fun w1 hw => exec_load rfl (zi t4 rfl) (RS.lp hw.1 hp)) hHeld ?_
  refine xv 5 rfl rfl (fun w1 hw => exec_move rfl (zi t2 rfl)) hHeld ?_
  refine xs 6 rfl rfl (exec_mapUpdate rfl (zg zz rfl) (zg zz rfl) (zg zz rfl) EU) (fun hne => absurd rfl hne) (fun _ => ?_)
  exact xe rfl (h _ _ (rfl) rfl)
def lay5_o0 : Oper := { dst := some 23, op := Op.move (Operand.tmp 0), type := 25, pos := "regs.go:111", after := #[], guard := none }
def lay5_o1 : Oper := { dst := some 24, op := Op.load 34 (Operand.tmp 4), type := 34, pos := "regs.go:111", after := #[], guard := none }
def lay5_o2 : Oper := { dst := some 25, op := Op.call { callee := Callee.value (Operand.func 43), args := #[Operand.tmp 23, Operand.tmp 24], argTypes := #[25, 34] }, type := 0, pos := "regs.go:111", after := #[{ on := 0, ground := Ground.data }, { on := 1, ground := Ground.data }], guard := none }
def lay5_ops : Array Oper := #[lay5_o0, lay5_o1, lay5_o2]
set_option maxRecDepth 100000 in
set_option maxHeartbeats 4000000 in
theorem lay5 {rb mb kb pb : Nat} {p : PlK} (Fin : World → Prop) (a : Act) (w : World) (Q : Exit → Act → World → Prop) (zz : a.tmps.size = 26)
    (t0 : a.tmps.getD 0 undef = .pointer (some ⟨rb, 0, none⟩))
    (t4 : a.tmps.getD 4 undef = .pointer (some ⟨pb, 0, none⟩))
    (hp : p.ok) (h0 : RS rb mb kb pb p w) (CF : Calls Tryd.prog 43 #[.pointer (some ⟨rb, 0, none⟩), p.v] w fun e w' => e = .returned (.tuple #[]) ∧ Fin w')
    (h : ∀ (a' : Act) (w' : World), Fin w' → a' = (((a).put (some 23) (.pointer (some ⟨rb, 0, none⟩))).put (some 24) (p.v)).put (some 25) (.tuple #[]) → Q .normal a' w') :
    (Code.region 5 lay5_ops false).wp Tryd.prog Q a w := by
  refine z0 rfl ?_
  refine zv rfl (exec_move rfl (zi t0 rfl)) ?_
  refine zv rfl (exec_load rfl (zi t4 rfl) (RS.lp h0 hp)) ?_
  refine zc rfl (exec_c2 rfl (zg zz rfl) (zg zz rfl)) (CF) (fun e x2 hx => ?_)
  obtain ⟨rfl, HF⟩ := hx
  refine ⟨_, rfl, ?_⟩
  exact ze rfl (h _ _ (HF) rfl)
def note1_o0 : Oper := { dst := some 4, op := Op.fieldAddr 34 (Operand.tmp 3) 2, type := 0, pos := "regs.go:116", after := #[], guard := none }
def note1_o1 : Oper := { dst := some 5, op := Op.load 32 (Operand.tmp 4), type := 32, pos := "regs.go:116", after := #[{ on := 0, ground := Ground.data }], guard := none }
def note1_o2 : Oper := { dst := some 6, op := Op.build 32 #[], type := 32, pos := "regs.go:116", after := #[], guard := none }
def note1_o3 : Oper := { dst := some 7, op := Op.binOp BinOp.neq 32 (Operand.tmp 5) (Operand.tmp 6) 32, type := 4, pos := "regs.go:116", after := #[{ on := 1, ground := Ground.data }, { on := 2, ground := Ground.data }], guard := none }
def note1_ops : Array Oper := #[note1_o0, note1_o1, note1_o2, note1_o3]
set_option maxRecDepth 100000 in
set_option maxHeartbeats 4000000 in
theorem note1 {pb : Nat} {p : PlK} {r : Bool} (a : Act) (w : World) (Q : Exit → Act → World → Prop) (zz : a.tmps.size = 33)
    (t3 : a.tmps.getD 3 undef = .pointer (some ⟨pb, 0, none⟩))
    (hp : p.ok) (h0 : w.rangeAt pb 0 p.c) (hr : decide (p.a ≠ zId) = r)
    (h : ∀ (a' : Act) (w' : World), w' = w → a' = ((((a).put (some 4) (.pointer (some ⟨pb, 0 + 34, none⟩))).put (some 5) (p.a.v)).put (some 6) (zId.v)).put (some 7) (.bool r) → Q .normal a' w') :
    (Code.region 1 note1_ops false).wp Tryd.prog Q a w := by
  refine z0 rfl ?_
  refine zv rfl (exec_fieldAt rfl (zi t3 rfl) (fg_34_2 _ _ _)) ?_
  refine zv rfl (exec_load rfl (zg zz rfl) (pl_a hp h0)) ?_
  refine zv rfl (exec_build0 rfl (build_id _)) ?_
  refine zv (v := .bool r) rfl (ex_neqI rfl (zg zz rfl) (zg zz rfl) hp.a zId_ok hr) ?_
  exact ze rfl (h _ _ (rfl) rfl)
def note2_o0 : Oper := { dst := some 8, op := Op.move (Operand.tmp 0), type := 25, pos := "regs.go:119", after := #[], guard := none }
def note2_o1 : Oper := { dst := some 9, op := Op.nilCheck (Operand.tmp 8), type := 0, pos := "regs.go:119", after := #[{ on := 0, ground := Ground.data }], guard := none }
def note2_o2 : Oper := { dst := some 10, op := Op.fieldAddr 69 (Operand.tmp 9) 1, type := 0, pos := "regs.go:119", after := #[{ on := 1, ground := Ground.data }], guard := none }
def note2_o3 : Oper := { dst := some 11, op := Op.load 67 (Operand.tmp 10), type := 67, pos := "regs.go:119", after := #[{ on := 2, ground := Ground.data }], guard := none }
def note2_o4 : Oper := { dst := some 12, op := Op.fieldAddr 34 (Operand.tmp 3) 0, type := 0, pos := "regs.go:119", after := #[], guard := none }
def note2_o5 : Oper := { dst := some 13, op := Op.load 32 (Operand.tmp 12), type := 32, pos := "regs.go:119", after := #[{ on := 4, ground := Ground.data }], guard := none }
def note2_o6 : Oper := { dst := some 14, op := Op.lookup 67 (Operand.tmp 11) (Operand.tmp 13) false, type := 97, pos := "regs.go:119", after := #[{ on := 3, ground := Ground.data }, { on := 5, ground := Ground.data }], guard := none }
def note2_o7 : Oper := { dst := some 15, op := Op.binOp BinOp.eql 97 (Operand.tmp 14) (Operand.const (Value.map none)) 97, type := 4, pos := "regs.go:119", after := #[{ on := 6, ground := Ground.data }], guard := none }
def note2_ops : Array Oper := #[note2_o0, note2_o1, note2_o2, note2_o3, note2_o4, note2_o5, note2_o6, note2_o7]
set_option maxRecDepth 100000 in
set_option maxHeartbeats 4000000 in
theorem note2 {rb mb kb pb : Nat} {p : PlK} {im : Option Nat} {r : Bool} (a : Act) (w : World) (Q : Exit → Act → World → Prop) (zz : a.tmps.size = 33)
    (t0 : a.tmps.getD 0 undef = .pointer (some ⟨rb, 0, none⟩))
    (t3 : a.tmps.getD 3 undef = .pointer (some ⟨pb, 0, none⟩))
    (hp : p.ok) (h0 : RS rb mb kb pb p w.drew) (LK : ∀ W, W = w.drew → (Instr.lookup 67 (.map (some kb)) p.o.v false).run Tryd.prog W = .ok (.map im) W) (hr : im.isNone = r)
    (h : ∀ (a' : Act) (w' : World), w' = w.drew → a' = ((((((((a).put (some 8) (.pointer (some ⟨rb, 0, none⟩))).put (some 9) (.pointer (some ⟨rb, 0, none⟩))).put (some 10) (.pointer (some ⟨rb, 0 + 1, none⟩))).put (some 11) (.map (some kb))).put (some 12) (.pointer (some ⟨pb, 0 + 0, none⟩))).put (some 13) (p.o.v)).put (some 14) (.map im)).put (some 15) (.bool r) → Q .normal a' w') :
    (Code.region 2 note2_ops true).wp Tryd.prog Q a w := by
  refine y0 (fun w' => RS rb mb kb pb p w' ∧ w' = w.drew) (⟨h0, rfl⟩) (fun hHeld => ?_)
  refine yv 0 rfl rfl (fun w1 hw => exec_move rfl (zi t0 rfl)) hHeld ?_
  refine yv 1 rfl rfl (fun w1 hw => exec_nilCheck rfl (zg zz rfl)) hHeld ?_
  refine yv 2 rfl rfl (fun w1 hw => exec_fieldAt rfl (zg zz rfl) (fg_69_1 _ _ _)) hHeld ?_
  refine yv 3 rfl rfl (fun w1 hw => exec_load rfl (zg zz rfl) (RS.l1 hw.1)) hHeld ?_
  refine yv 4 rfl rfl (fun w1 hw => exec_fieldAt rfl (zi t3 rfl) (fg_34_0 _ _ _)) hHeld ?_
  refine yv 5 rfl rfl (fun w1 hw => exec_load rfl (zg zz rfl) (RS.lo hw.1 hp)) hHeld ?_
  refine yv (v := .map im) 6 rfl rfl (fun w1 hw => exec_lookup rfl (zg zz rfl) (zg zz rfl) (LK _ hw.2)) hHeld ?_
  refine yv (v := .bool r) 7 rfl rfl (fun w1 hw => ex_eqm rfl (zg zz rfl) rfl hr) hHeld ?_
  exact ye rfl (h _ _ (hHeld.2) rfl)
def note3_o0 : Oper := { dst := some 16, op := Op.move (Operand.tmp 0), type := 25, pos := "regs.go:120", after := #[], guard := none }
def note3_o1 : Oper := { dst := some 17, op := Op.nilCheck (Operand.tmp 16), type := 0, pos := "regs.go:120", after := #[{ on := 0, ground := Ground.data }], guard := none }
def note3_o2 : Oper := { dst := some 18, op := Op.fieldAddr 69 (Operand.tmp 17) 1, type := 0, pos := "regs.go:120", after := #[{ on := 1, ground := Ground.data }], guard := none }
def note3_o3 : Oper := { dst := some 19, op := Op.load 67 (Operand.tmp 18), type := 67, pos := "regs.go:120", after := #[{ on := 2, ground := Ground.data }], guard := none }
def note3_o4 : Oper := { dst := some 20, op := Op.fieldAddr 34 (Operand.tmp 3) 0, type := 0, pos := "regs.go:120", after := #[], guard := none }
def note3_o5 : Oper := { dst := some 21, op := Op.load 32 (Operand.tmp 20), type := 32, pos := "regs.go:120", after := #[{ on := 4, ground := Ground.data }], guard := none }
def note3_o6 : Oper := { dst := some 22, op := Op.makeMap 97 none, type := 97, pos := "regs.go:120", after := #[], guard := none }
def note3_o7 : Oper := { dst := none, op := Op.mapUpdate 67 (Operand.tmp 19) (Operand.tmp 21) (Operand.tmp 22), type := 0, pos := "regs.go:120", after := #[{ on := 3, ground := Ground.data }, { on := 5, ground := Ground.data }, { on := 6, ground := Ground.data }, { on := 0, ground := Ground.phase }, { on := 1, ground := Ground.phase }, { on := 2, ground := Ground.phase }, { on := 3, ground := Ground.phase }, { on := 4, ground := Ground.phase }, { on := 5, ground := Ground.phase }, { on := 6, ground := Ground.phase }], guard := none }
def note3_ops : Array Oper := #[note3_o0, note3_o1, note3_o2, note3_o3, note3_o4, note3_o5, note3_o6, note3_o7]
set_option maxRecDepth 100000 in
set_option maxHeartbeats 4000000 in
theorem note3 {rb mb kb pb : Nat} {p : PlK} {ib : Nat} {w1 w2 : World} (a : Act) (w : World) (Q : Exit → Act → World → Prop) (zz : a.tmps.size = 33)
    (t0 : a.tmps.getD 0 undef = .pointer (some ⟨rb, 0, none⟩))
    (t3 : a.tmps.getD 3 undef = .pointer (some ⟨pb, 0, none⟩))
    (hp : p.ok) (h0 : RS rb mb kb pb p w.drew) (EM : (Instr.makeMap 97 none).run Tryd.prog w.drew = .ok (.map (some ib)) w1) (S1 : RS rb mb kb pb p w1) (EU : (Instr.mapUpdate 67 (.map (some kb)) p.o.v (.map (some ib))).run Tryd.prog w1 = .ok () w2)
    (h : ∀ (a' : Act) (w' : World), w' = w2 → a' = (((((((a).put (some 16) (.pointer (some ⟨rb, 0, none⟩))).put (some 17) (.pointer (some ⟨rb, 0, none⟩))).put (some 18) (.pointer (some ⟨rb, 0 + 1, none⟩))).put (some 19) (.map (some kb))).put (some 20) (.pointer (some ⟨pb, 0 + 0, none⟩))).put (some 21) (p.o.v)).put (some 22) (.map (some ib)) → Q .normal a' w') :
    (Code.region 3 note3_ops true).wp Tryd.prog Q a w := by
  refine x0 7 (fun w' => RS rb mb kb pb p w') (h0) (fun hHeld => ?_)
  refine xv 0 rfl rfl (fun w1 hw => exec_move rfl (zi t0 rfl)) hHeld ?_
  refine xv 1 rfl rfl (fun w1 hw => exec_nilCheck rfl (zg zz rfl)) hHeld ?_
  refine xv 2 rfl rfl (fun w1 hw => exec_fieldAt rfl (zg zz rfl) (fg_69_1 _ _ _)) hHeld ?_
  refine xv 3 rfl rfl (fun w1 hw => exec_load rfl (zg zz rfl) (RS.l1 hw)) hHeld ?_
  refine xv 4 rfl rfl (fun w1 hw => exec_fieldAt rfl (zi t3 rfl) (fg_34_0 _ _ _)) hHeld ?_
  refine xv 5 rfl rfl (fun w1 hw => exec_load rfl (zg zz rfl) (RS.lo hw hp)) hHeld ?_
  refine xr (v := .map (some ib)) 6 rfl rfl (exec_makeMap rfl EM) (fun _ => S1) (fun hHeld => ?_)
  replace hHeld := hHeld (by decide)
  refine xs 7 rfl rfl (exec_mapUpdate rfl (zg zz rfl) (zg zz rfl) (zg zz rfl) EU) (fun hne => absurd rfl hne) (fun _ => ?_)
  exact xe rfl (h _ _ (rfl) rfl)
def note4_o0 : Oper := { dst := some 23, op := Op.move (Operand.tmp 0), type := 25, pos := "regs.go:122", after := #[], guard := none }
def note4_o1 : Oper := { dst := some 24, op := Op.nilCheck (Operand.tmp 23), type := 0, pos := "regs.go:122", after := #[{ on := 0, ground := Ground.data }], guard := none }
def note4_o2 : Oper := { dst := some 25, op := Op.fieldAddr 69 (Operand.tmp 24) 1, type := 0, pos := "regs.go:122", after := #[{ on := 1, ground := Ground.data }], guard := none }
def note4_o3 : Oper := { dst := some 26, op := Op.load 67 (Operand.tmp 25), type := 67, pos := "regs.go:122", after := #[{ on := 2, ground := Ground.data }], guard := none }
def note4_o4 : Oper := { dst := some 27, op := Op.fieldAddr 34 (Operand.tmp 3) 0, type := 0, pos := "regs.go:122", after := #[], guard := none }
def note4_o5 : Oper := { dst := some 28, op := Op.load 32 (Operand.tmp 27), type := 32, pos := "regs.go:122", after := #[{ on := 4, ground := Ground.data }], guard := none }
def note4_o6 : Oper := { dst := some 29, op := Op.lookup 67 (Operand.tmp 26) (Operand.tmp 28) false, type := 97, pos := "regs.go:122", after := #[{ on := 3, ground := Ground.data }, { on := 5, ground := Ground.data }], guard := none }
def note4_o7 : Oper := { dst := some 30, op := Op.fieldAddr 34 (Operand.tmp 3) 1, type := 0, pos := "regs.go:122", after := #[], guard := none }
def note4_o8 : Oper := { dst := some 31, op := Op.load 9 (Operand.tmp 30), type := 9, pos := "regs.go:122", after := #[{ on := 7, ground := Ground.data }], guard := none }
def note4_o9 : Oper := { dst := some 32, op := Op.build 98 #[], type := 98, pos := "regs.go:122", after := #[], guard := none }
def note4_o10 : Oper := { dst := none, op := Op.mapUpdate 97 (Operand.tmp 29) (Operand.tmp 31) (Operand.tmp 32), type := 0, pos := "regs.go:122", after := #[{ on := 6, ground := Ground.data }, { on := 8, ground := Ground.data }, { on := 9, ground := Ground.data }, { on := 0, ground := Ground.phase }, { on := 1, ground := Ground.phase }, { on := 2, ground := Ground.phase }, { on := 3, ground := Ground.phase }, { on := 4, ground := Ground.phase }, { on := 5, ground := Ground.phase }, { on := 6, ground := Ground.phase }, { on := 7, ground := Ground.phase }, { on := 8, ground := Ground.phase }, { on := 9, ground := Ground.phase }], guard := none }
def note4_ops : Array Oper := #[note4_o0, note4_o1, note4_o2, note4_o3, note4_o4, note4_o5, note4_o6, note4_o7, note4_o8, note4_o9, note4_o10]
set_option maxRecDepth 100000 in
set_option maxHeartbeats 4000000 in
theorem note4 {rb mb kb pb : Nat} {p : PlK} {ib : Nat} {w2 : World} (a : Act) (w : World) (Q : Exit → Act → World → Prop) (zz : a.tmps.size = 33)
    (t0 : a.tmps.getD 0 undef = .pointer (some ⟨rb, 0, none⟩))
    (t3 : a.tmps.getD 3 undef = .pointer (some ⟨pb, 0, none⟩))
    (hp : p.ok) (h0 : RS rb mb kb pb p w.drew) (LK : ∀ W, W = w.drew → (Instr.lookup 67 (.map (some kb)) p.o.v false).run Tryd.prog W = .ok (.map (some ib)) W) (EU : (Instr.mapUpdate 97 (.map (some ib)) (.string p.k) (.agg #[])).run Tryd.prog w.drew = .ok () w2)
    (h : ∀ (a' : Act) (w' : World), w' = w2 → a' = ((((((((((a).put (some 23) (.pointer (some ⟨rb, 0, none⟩))).put (some 24) (.pointer (some ⟨rb, 0, none⟩))).put (some 25) (.pointer (some ⟨rb, 0 + 1, none⟩))).put (some 26) (.map (some kb))).put (some 27) (.pointer (some ⟨pb, 0 + 0, none⟩))).put (some 28) (p.o.v)).put (some 29) (.map (some ib))).put (some 30) (.pointer (some ⟨pb, 0 + 33, none⟩))).put (some 31) (.string p.k)).put (some 32) (.agg #[]) → Q .normal a' w') :
    (Code.region 4 note4_ops true).wp Tryd.prog Q a w := by
  refine x0 10 (fun w' => RS rb mb kb pb p w' ∧ w' = w.drew) (⟨h0, rfl⟩) (fun hHeld => ?_)
  refine xv 0 rfl rfl (fun w1 hw => exec_move rfl (zi t0 rfl)) hHeld ?_
  refine xv 1 rfl rfl (fun w1 hw => exec_nilCheck rfl (zg zz rfl)) hHeld ?_
  refine xv 2 rfl rfl (fun w1 hw => exec_fieldAt rfl (zg zz rfl) (fg_69_1 _ _ _)) hHeld ?_
  refine xv 3 rfl rfl (fun w1 hw => exec_load rfl (zg zz rfl) (RS.l1 hw.1)) hHeld ?_
  refine xv 4 rfl rfl (fun w1 hw => exec_fieldAt rfl (zi t3 rfl) (fg_34_0 _ _ _)) hHeld ?_
  refine xv 5 rfl rfl (fun w1 hw => exec_load rfl (zg zz rfl) (RS.lo hw.1 hp)) hHeld ?_
  refine xv (v := .map (some ib)) 6 rfl rfl (fun w1 hw => exec_lookup rfl (zg zz rfl) (zg zz rfl) (LK _ hw.2)) hHeld ?_
  refine xv 7 rfl rfl (fun w1 hw => exec_fieldAt rfl (zi t3 rfl) (fg_34_1 _ _ _)) hHeld ?_
  refine xv 8 rfl rfl (fun w1 hw => exec_load rfl (zg zz rfl) (RS.lk hw.1 hp)) hHeld ?_
  refine xv 9 rfl rfl (fun w1 hw => exec_build0 rfl (build_un _)) hHeld ?_
  refine xs 10 rfl rfl (exec_mapUpdate rfl (zg zz rfl) (zg zz rfl) (zg zz rfl) EU) (fun hne => absurd rfl hne) (fun _ => ?_)
  exact xe rfl (h _ _ (rfl) rfl)
def forg1_o0 : Oper := { dst := some 4, op := Op.fieldAddr 34 (Operand.tmp 3) 2, type := 0, pos := "regs.go:127", after := #[], guard := none }
def forg1_o1 : Oper := { dst := some 5, op := Op.load 32 (Operand.tmp 4), type := 32, pos := "regs.go:127", after := #[{ on := 0, ground := Ground.data }], guard := none }
def forg1_o2 : Oper := { dst := some 6, op := Op.build 32 #[], type := 32, pos := "regs.go:127", after := #[], guard := none }
def forg1_o3 : Oper := { dst := some 7, op := Op.binOp BinOp.neq 32 (Operand.tmp 5) (Operand.tmp 6) 32, type := 4, pos := "regs.go:127", after := #[{ on := 1, ground := Ground.data }, { on := 2, ground := Ground.data }], guard := none }
def forg1_ops : Array Oper := #[forg1_o0, forg1_o1, forg1_o2, forg1_o3]
set_option maxRecDepth 100000 in
set_option maxHeartbeats 4000000 in
theorem forg1 {pb : Nat} {p : PlK} {r : Bool} (a : Act) (w : World) (Q : Exit → Act → World → Prop) (zz : a.tmps.size = 32)
    (t3 : a.tmps.getD 3 undef = .pointer (some ⟨pb, 0, none⟩))
    (hp : p.ok) (h0 : w.rangeAt pb 0 p.c) (hr : decide (p.a ≠ zId) = r)
    (h : ∀ (a' : Act) (w' : World), w' = w → a' = ((((a).put (some 4) (.pointer (some ⟨pb, 0 + 34, none⟩))).put (some 5) (p.a.v)).put (some 6) (zId.v)).put (some 7) (.bool r) → Q .normal a' w') :
    (Code.region 1 forg1_ops false).wp Tryd.prog Q a w := by
  refine z0 rfl ?_
  refine zv rfl (exec_fieldAt rfl (zi t3 rfl) (fg_34_2 _ _ _)) ?_
  refine zv rfl (exec_load rfl (zg zz rfl) (pl_a hp h0)) ?_
  refine zv rfl (exec_build0 rfl (build_id _)) ?_
  refine zv (v := .bool r) rfl (ex_neqI rfl (zg zz rfl) (zg zz rfl) hp.a zId_ok hr) ?_
  exact ze rfl (h _ _ (rfl) rfl)
def forg2_o0 : Oper := { dst := some 8, op := Op.move (Operand.tmp 0), type := 25, pos := "regs.go:130", after := #[], guard := none }
def forg2_o1 : Oper := { dst := some 9, op := Op.nilCheck (Operand.tmp 8), type := 0, pos := "regs.go:130", after := #[{ on := 0, ground := Ground.data }], guard := none }
def forg2_o2 : Oper := { dst := some 10, op := Op.fieldAddr 69 (Operand.tmp 9) 1, type := 0, pos := "regs.go:130", after := #[{ on := 1, ground := Ground.data }], guard := none }
def forg2_o3 : Oper := { dst := some 11, op := Op.load 67 (Operand.tmp 10), type := 67, pos := "regs.go:130", after := #[{ on := 2, ground := Ground.data }], guard := none }
def forg2_o4 : Oper := { dst := some 12, op := Op.fieldAddr 34 (Operand.tmp 3) 0, type := 0, pos := "regs.go:130", after := #[], guard := none }
def forg2_o5 : Oper := { dst := some 13, op := Op.load 32 (Operand.tmp 12), type := 32, pos := "regs.go:130", after := #[{ on := 4, ground := Ground.data }], guard := none }
def forg2_o6 : Oper := { dst := some 14, op := Op.lookup 67 (Operand.tmp 11) (Operand.tmp 13) false, type := 97, pos := "regs.go:130", after := #[{ on := 3, ground := Ground.data }, { on := 5, ground := Ground.data }], guard := none }
def forg2_o7 : Oper := { dst := some 15, op := Op.fieldAddr 34 (Operand.tmp 3) 1, type := 0, pos := "regs.go:130", after := #[], guard := none }
def forg2_o8 : Oper := { dst := some 16, op := Op.load 9 (Operand.tmp 15), type := 9, pos := "regs.go:130", after := #[{ on := 7, ground := Ground.data }], guard := none }
def forg2_o9 : Oper := { dst := none, op := Op.call { callee := Callee.builtin Builtin.delete, args := #[Operand.tmp 14, Operand.tmp 16], argTypes := #[97, 9] }, type := 0, pos := "regs.go:130", after := #[{ on := 6, ground := Ground.data }, { on := 8, ground := Ground.data }], guard := none }
def forg2_ops : Array Oper := #[forg2_o0, forg2_o1, forg2_o2, forg2_o3, forg2_o4, forg2_o5, forg2_o6, forg2_o7, forg2_o8, forg2_o9]
set_option maxRecDepth 100000 in
set_option maxHeartbeats 4000000 in
theorem forg2 {rb mb kb pb : Nat} {p : PlK} {im : Option Nat} {w2 : World} (a : Act) (w : World) (Q : Exit → Act → World → Prop) (zz : a.tmps.size = 32)
    (t0 : a.tmps.getD 0 undef = .pointer (some ⟨rb, 0, none⟩))
    (t3 : a.tmps.getD 3 undef = .pointer (some ⟨pb, 0, none⟩))
    (hp : p.ok) (h0 : RS rb mb kb pb p w.drew) (LK : ∀ W, W = w.drew → (Instr.lookup 67 (.map (some kb)) p.o.v false).run Tryd.prog W = .ok (.map im) W) (ED : (Builtin.delete_ #[97, 9] 0 #[.map im, .string p.k]).run Tryd.prog w.drew = .ok (.tuple #[]) w2)
    (h : ∀ (a' : Act) (w' : World), w' = w2 → a' = (((((((((a).put (some 8) (.pointer (some ⟨rb, 0, none⟩))).put (some 9) (.pointer (some ⟨rb, 0, none⟩))).put (some 10) (.pointer (some ⟨rb, 0 + 1, none⟩))).put (some 11) (.map (some kb))).put (some 12) (.pointer (some ⟨pb, 0 + 0, none⟩))).put (some 13) (p.o.v)).put (some 14) (.map im)).put (some 15) (.pointer (some ⟨pb, 0 + 33, none⟩))).put (some 16) (.string p.k) → Q .normal a' w') :
    (Code.region 2 forg2_ops true).wp Tryd.prog Q a w := by
  refine x0 9 (fun w' => RS rb mb kb pb p w' ∧ w' = w.drew) (⟨h0, rfl⟩) (fun hHeld => ?_)
  refine xv 0 rfl rfl (fun w1 hw => exec_move rfl (zi t0 rfl)) hHeld ?_
  refine xv 1 rfl rfl (fun w1 hw => exec_nilCheck rfl (zg zz rfl)) hHeld ?_
  refine xv 2 rfl rfl (fun w1 hw => exec_fieldAt rfl (zg zz rfl) (fg_69_1 _ _ _)) hHeld ?_
  refine xv 3 rfl rfl (fun w1 hw => exec_load rfl (zg zz rfl) (RS.l1 hw.1)) hHeld ?_
  refine xv 4 rfl rfl (fun w1 hw => exec_fieldAt rfl (zi t3 rfl) (fg_34_0 _ _ _)) hHeld ?_
  refine xv 5 rfl rfl (fun w1 hw => exec_load rfl (zg zz rfl) (RS.lo hw.1 hp)) hHeld ?_
  refine xv (v := .map im) 6 rfl rfl (fun w1 hw => exec_lookup rfl (zg zz rfl) (zg zz rfl) (LK _ hw.2)) hHeld ?_
  refine xv 7 rfl rfl (fun w1 hw => exec_fieldAt rfl (zi t3 rfl) (fg_34_1 _ _ _)) hHeld ?_
  refine xv 8 rfl rfl (fun w1 hw => exec_load rfl (zg zz rfl) (RS.lk hw.1 hp)) hHeld ?_
  refine xd 9 rfl rfl (exec_delete rfl (zg zz rfl) (zg zz rfl) ED) (fun hne => absurd rfl hne) (fun _ => ?_)
  exact xe rfl (h _ _ (rfl) rfl)
def forg3_o0 : Oper := { dst := some 17, op := Op.move (Operand.tmp 0), type := 25, pos := "regs.go:131", after := #[], guard := none }
def forg3_o1 : Oper := { dst := some 18, op := Op.nilCheck (Operand.tmp 17), type := 0, pos := "regs.go:131", after := #[{ on := 0, ground := Ground.data }], guard := none }
def forg3_o2 : Oper := { dst := some 19, op := Op.fieldAddr 69 (Operand.tmp 18) 1, type := 0, pos := "regs.go:131", after := #[{ on := 1, ground := Ground.data }], guard := none }
def forg3_o3 : Oper := { dst := some 20, op := Op.load 67 (Operand.tmp 19), type := 67, pos := "regs.go:131", after := #[{ on := 2, ground := Ground.data }], guard := none }
def forg3_o4 : Oper := { dst := some 21, op := Op.fieldAddr 34 (Operand.tmp 3) 0, type := 0, pos := "regs.go:131", after := #[], guard := none }
def forg3_o5 : Oper := { dst := some 22, op := Op.load 32 (Operand.tmp 21), type := 32, pos := "regs.go:131", after := #[{ on := 4, ground := Ground.data }], guard := none }
def forg3_o6 : Oper := { dst := some 23, op := Op.lookup 67 (Operand.tmp 20) (Operand.tmp 22) false, type := 97, pos := "regs.go:131", after := #[{ on := 3, ground := Ground.data }, { on := 5, ground := Ground.data }], guard := none }
def forg3_o7 : Oper := { dst := some 24, op := Op.call { callee := Callee.builtin Builtin.len, args := #[Operand.tmp 23], argTypes := #[97] }, type := 3, pos := "regs.go:131", after := #[{ on := 6, ground := Ground.data }], guard := none }
def forg3_o8 : Oper := { dst := some 25, op := Op.binOp BinOp.eql 3 (Operand.tmp 24) (Operand.const (Value.int IntKind.i64 0)) 3, type := 4, pos := "regs.go:131", after := #[{ on := 7, ground := Ground.data }], guard := none }
def forg3_ops : Array Oper := #[forg3_o0, forg3_o1, forg3_o2, forg3_o3, forg3_o4, forg3_o5, forg3_o6, forg3_o7, forg3_o8]
set_option maxRecDepth 100000 in
set_option maxHeartbeats 4000000 in
theorem forg3 {rb mb kb pb : Nat} {p : PlK} {im : Option Nat} {n : Nat} {r : Bool} (a : Act) (w : World) (Q : Exit → Act → World → Prop) (zz : a.tmps.size = 32)
    (t0 : a.tmps.getD 0 undef = .pointer (some ⟨rb, 0, none⟩))
    (t3 : a.tmps.getD 3 undef = .pointer (some ⟨pb, 0, none⟩))
    (hp : p.ok) (h0 : RS rb mb kb pb p w.drew) (LK : ∀ W, W = w.drew → (Instr.lookup 67 (.map (some kb)) p.o.v false).run Tryd.prog W = .ok (.map im) W) (LN : ∀ W, W = w.drew → (Builtin.len_ #[97] 3 #[.map im]).run Tryd.prog W = .ok (.int .i64 (n : Int)) W) (hr : decide (n = 0) = r)
    (h : ∀ (a' : Act) (w' : World), w' = w.drew → a' = (((((((((a).put (some 17) (.pointer (some ⟨rb, 0, none⟩))).put (some 18) (.pointer (some ⟨rb, 0, none⟩))).put (some 19) (.pointer (some ⟨rb, 0 + 1, none⟩))).put (some 20) (.map (some kb))).put (some 21) (.pointer (some ⟨pb, 0 + 0, none⟩))).put (some 22) (p.o.v)).put (some 23) (.map im)).put (some 24) (.int .i64 (n : Int))).put (some 25) (.bool r) → Q .normal a' w') :
    (Code.region 3 forg3_ops true).wp Tryd.prog Q a w := by
  refine y0 (fun w' => RS rb mb kb pb p w' ∧ w' = w.drew) (⟨h0, rfl⟩) (fun hHeld => ?_)
  refine yv 0 rfl rfl (fun w1 hw => exec_move rfl (zi t0 rfl)) hHeld ?_
  refine yv 1 rfl rfl (fun w1 hw => exec_nilCheck rfl (zg zz rfl)) hHeld ?_
  refine yv 2 rfl rfl (fun w1 hw => exec_fieldAt rfl (zg zz rfl) (fg_69_1 _ _ _)) hHeld ?_
  refine yv 3 rfl rfl (fun w1 hw => exec_load rfl (zg zz rfl) (RS.l1 hw.1)) hHeld ?_
  refine yv 4 rfl rfl (fun w1 hw => exec_fieldAt rfl (zi t3 rfl) (fg_34_0 _ _ _)) hHeld ?_
  refine yv 5 rfl rfl (fun w1 hw => exec_load rfl (zg zz rfl) (RS.lo hw.1 hp)) hHeld ?_
  refine yv (v := .map im) 6 rfl rfl (fun w1 hw => exec_lookup rfl (zg zz rfl) (zg zz rfl) (LK _ hw.2)) hHeld ?_
  refine yv 7 rfl rfl (fun w1 hw => exec_len rfl (zg zz rfl) (LN _ hw.2)) hHeld ?_
  refine yv (v := .bool r) 8 rfl rfl (fun w1 hw => ex_eq0 rfl (zg zz rfl) rfl hr) hHeld ?_
  exact ye rfl (h _ _ (hHeld.2) rfl)
def forg4_o0 : Oper := { dst := some 26, op := Op.move (Operand.tmp 0), type := 25, pos := "regs.go:132", after := #[], guard := none }
def forg4_o1 : Oper := { dst := some 27, op := Op.nilCheck (Operand.tmp 26), type := 0, pos := "regs.go:132", after := #[{ on := 0, ground := Ground.data }], guard := none }
def forg4_o2 : Oper := { dst := some 28, op := Op.fieldAddr 69 (Operand.tmp 27) 1, type := 0, pos := "regs.go:132", after := #[{ on := 1, ground := Ground.data }], guard := none }
def forg4_o3 : Oper := { dst := some 29, op := Op.load 67 (Operand.tmp 28), type := 67, pos := "regs.go:132", after := #[{ on := 2, ground := Ground.data }], guard := none }
def forg4_o4 : Oper := { dst := some 30, op := Op.fieldAddr 34 (Operand.tmp 3) 0, type := 0, pos := "regs.go:132", after := #[], guard := none }
def forg4_o5 : Oper := { dst := some 31, op := Op.load 32 (Operand.tmp 30), type := 32, pos := "regs.go:132", after := #[{ on := 4, ground := Ground.data }], guard := none }
def forg4_o6 : Oper := { dst := none, op := Op.call { callee := Callee.builtin Builtin.delete, args := #[Operand.tmp 29, Operand.tmp 31], argTypes := #[67, 32] }, type := 0, pos := "regs.go:132", after := #[{ on := 3, ground := Ground.data }, { on := 5, ground := Ground.data }], guard := none }
def forg4_ops : Array Oper := #[forg4_o0, forg4_o1, forg4_o2, forg4_o3, forg4_o4, forg4_o5, forg4_o6]
set_option maxRecDepth 100000 in
set_option maxHeartbeats 4000000 in
theorem forg4 {rb mb kb pb : Nat} {p : PlK} {w2 : World} (a : Act) (w : World) (Q : Exit → Act → World → Prop) (zz : a.tmps.size = 32)
    (t0 : a.tmps.getD 0 undef = .pointer (some ⟨rb, 0, none⟩))
    (t3 : a.tmps.getD 3 undef = .pointer (some ⟨pb, 0, none⟩))
    (hp : p.ok) (h0 : RS rb mb kb pb p w.drew) (ED : (Builtin.delete_ #[67, 32] 0 #[.map (some kb), p.o.v]).run Tryd.prog w.drew = .ok (.tuple #[]) w2)
    (h : ∀ (a' : Act) (w' : World), w' = w2 → a' = ((((((a).put (some 26) (.pointer (some ⟨rb, 0, none⟩))).put (some 27) (.pointer (some ⟨rb, 0, none⟩))).put (some 28) (.pointer (some ⟨rb, 0 + 1, none⟩))).put (some 29) (.map (some kb))).put (some 30) (.pointer (some ⟨pb, 0 + 0, none⟩))).put (some 31) (p.o.v) → Q .normal a' w') :
    (Code.region 4 forg4_ops true).wp Tryd.prog Q a w := by
  refine x0 6 (fun w' => RS rb mb kb pb p w' ∧ w' = w.drew) (⟨h0, rfl⟩) (fun hHeld => ?_)
  refine xv 0 rfl rfl (fun w1 hw => exec_move rfl (zi t0 rfl)) hHeld ?_
  refine xv 1 rfl rfl (fun w1 hw => exec_nilCheck rfl (zg zz rfl)) hHeld ?_
  refine xv 2 rfl rfl (fun w1 hw => exec_fieldAt rfl (zg zz rfl) (fg_69_1 _ _ _)) hHeld ?_
  refine xv 3 rfl rfl (fun w1 hw => exec_load rfl (zg zz rfl) (RS.l1 hw.1)) hHeld ?_
  refine xv 4 rfl rfl (fun w1 hw => exec_fieldAt rfl (zi t3 rfl) (fg_34_0 _ _ _)) hHeld ?_
  refine xv 5 rfl rfl (fun w1 hw => exec_load rfl (zg zz rfl) (RS.lo hw.1 hp)) hHeld ?_
  refine xd 6 rfl rfl (exec_delete rfl (zg zz rfl) (zg zz rfl) ED) (fun hne => absurd rfl hne) (fun _ => ?_)
  exact xe rfl (h _ _ (rfl) rfl)
def step1_o0 : Oper := { dst := some 5, op := Op.move (Operand.tmp 0), type := 25, pos := "regs.go:86", after := #[], guard := none }
def step1_o1 : Oper := { dst := some 6, op := Op.move (Operand.tmp 0), type := 25, pos := "regs.go:86", after := #[], guard := none }
def step1_o2 : Oper := { dst := some 7, op := Op.nilCheck (Operand.tmp 6), type := 0, pos := "regs.go:86", after := #[{ on := 1, ground := Ground.data }], guard := none }
def step1_o3 : Oper := { dst := some 8, op := Op.fieldAddr 69 (Operand.tmp 7) 2, type := 0, pos := "regs.go:86", after := #[{ on := 2, ground := Ground.data }], guard := none }
def step1_o4 : Oper := { dst := some 9, op := Op.load 27 (Operand.tmp 8), type := 27, pos := "regs.go:86", after := #[{ on := 3, ground := Ground.data }], guard := none }
def step1_o5 : Oper := { dst := some 10, op := Op.move (Operand.tmp 1), type := 79, pos := "regs.go:86", after := #[], guard := none }
def step1_o6 : Oper := { dst := some 11, op := Op.build 81 #[(0, Operand.tmp 9), (1, Operand.tmp 10)], type := 81, pos := "regs.go:86", after := #[{ on := 4, ground := Ground.data }, { on := 5, ground := Ground.data }], guard := none }
def step1_o7 : Oper := { dst := some 12, op := Op.box 81 (Operand.tmp 11), type := 27, pos := "regs.go:86", after := #[{ on := 6, ground := Ground.data }], guard := none }
def step1_o8 : Oper := { dst := some 13, op := Op.nilCheck (Operand.tmp 5), type := 0, pos := "regs.go:86", after := #[{ on := 0, ground := Ground.data }, { on := 0, ground := Ground.phase }, { on := 1, ground := Ground.phase }, { on := 2, ground := Ground.phase }, { on := 3, ground := Ground.phase }, { on := 4, ground := Ground.phase }, { on := 5, ground := Ground.phase }, { on := 6, ground := Ground.phase }, { on := 7, ground := Ground.phase }], guard := none }
def step1_o9 : Oper := { dst := some 14, op := Op.fieldAddr 69 (Operand.tmp 13) 2, type := 0, pos := "regs.go:86", after := #[{ on := 8, ground := Ground.data }, { on := 0, ground := Ground.phase }, { on := 1, ground := Ground.phase }, { on := 2, ground := Ground.phase }, { on := 3, ground := Ground.phase }, { on := 4, ground := Ground.phase }, { on := 5, ground := Ground.phase }, { on := 6, ground := Ground.phase }, { on := 7, ground := Ground.phase }], guard := none }
def step1_o10 : Oper := { dst := none, op := Op.store 27 (Operand.tmp 14) (Operand.tmp 12), type := 0, pos := "regs.go:86", after := #[{ on := 9, ground := Ground.data }, { on := 7, ground := Ground.data }, { on := 0, ground := Ground.phase }, { on := 1, ground := Ground.phase }, { on := 2, ground := Ground.phase }, { on := 3, ground := Ground.phase }, { on := 4, ground := Ground.phase }, { on := 5, ground := Ground.phase }, { on := 6, ground := Ground.phase }, { on := 7, ground := Ground.phase }], guard := none }
def step1_ops : Array Oper := #[step1_o0, step1_o1, step1_o2, step1_o3, step1_o4, step1_o5, step1_o6, step1_o7, step1_o8, step1_o9, step1_o10]
set_option maxRecDepth 100000 in
set_option maxHeartbeats 4000000 in
theorem step1 {rb F : Nat} {c : Array Value} {la : Option Addr} {w2 : World} (a : Act) (w : World) (Q : Exit → Act → World → Prop) (zz : a.tmps.size = 19)
    (t0 : a.tmps.getD 0 undef = .pointer (some ⟨rb, 0, none⟩))
    (t1 : a.tmps.getD 1 undef = .func (.func F) #[] c)
    (h0 : (Instr.loadAt 27 (.pointer (some ⟨rb, 0 + 2, none⟩))).run Tryd.prog w = .ok (.pointer la) w) (ES : (Instr.storeAt 27 (.pointer (some ⟨rb, 0 + 2, none⟩)) (.pointer (some ⟨w.heap.size, 0, none⟩))).run Tryd.prog (w.alloc (.cells #[.pointer la, .func (.func F) #[] c] 81)) = .ok () w2)
    (h : ∀ (a' : Act) (w' : World), w' = w2 → a' = ((((((((((a).put (some 5) (.pointer (some ⟨rb, 0, none⟩))).put (some 6) (.pointer (some ⟨rb, 0, none⟩))).put (some 7) (.pointer (some ⟨rb, 0, none⟩))).put (some 8) (.pointer (some ⟨rb, 0 + 2, none⟩))).put (some 9) (.pointer la)).put (some 10) (.func (.func F) #[] c)).put (some 11) (.agg #[.pointer la, .func (.func F) #[] c])).put (some 12) (.pointer (some ⟨w.heap.size, 0, none⟩))).put (some 13) (.pointer (some ⟨rb, 0, none⟩))).put (some 14) (.pointer (some ⟨rb, 0 + 2, none⟩)) → Q .normal a' w') :
    (Code.region 1 step1_ops false).wp Tryd.prog Q a w := by
  refine z0 rfl ?_
  refine zv rfl (exec_move rfl (zi t0 rfl)) ?_
  refine zv rfl (exec_move rfl (zi t0 rfl)) ?_
  refine zv rfl (exec_nilCheck rfl (zg zz rfl)) ?_
  refine zv rfl (exec_fieldAt rfl (zg zz rfl) (fg_69_2 _ _ _)) ?_
  refine zv rfl (exec_load rfl (zg zz rfl) h0) ?_
  refine zv rfl (exec_move rfl (zi t1 rfl)) ?_
  refine zv (v := .agg #[.pointer la, .func (.func F) #[] c]) rfl (exec_bbk rfl (zg zz rfl) (zg zz rfl) (build_bk _ _ _ _)) ?_
  refine zv (v := .pointer (some ⟨w.heap.size, 0, none⟩)) rfl (exec_boxE rfl (zg zz rfl) (run_box _ _ _)) ?_
  refine zv rfl (exec_nilCheck rfl (zg zz rfl)) ?_
  refine zv rfl (exec_fieldAt rfl (zg zz rfl) (fg_69_2 _ _ _)) ?_
  refine zs rfl (exec_store rfl (zg zz rfl) (zg zz rfl) ES) ?_
  exact ze rfl (h _ _ (rfl) rfl)
end Go.Proofs.YtldlljobofnmmabDoor
