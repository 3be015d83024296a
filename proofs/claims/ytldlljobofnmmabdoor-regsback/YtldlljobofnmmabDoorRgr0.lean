import Derived.Test.YtldlljobofnmmabDoorZr
import Derived.Test.YtldlljobofnmmabDoorRgi
namespace Go.Proofs.YtldlljobofnmmabDoor
open Go.RowKit
set_option linter.unusedVariables false
set_option linter.unusedSimpArgs false

def und5_o0 : Oper := { dst := some 17, op := Op.move (Operand.tmp 1), type := 27, pos := "regs.go:98", after := #[], guard := none }
def und5_o1 : Oper := { dst := some 18, op := Op.nilCheck (Operand.tmp 17), type := 0, pos := "regs.go:98", after := #[{ on := 0, ground := Ground.data }], guard := none }
def und5_o2 : Oper := { dst := some 19, op := Op.fieldAddr 81 (Operand.tmp 18) 1, type := 0, pos := "regs.go:98", after := #[{ on := 1, ground := Ground.data }], guard := none }
def und5_o3 : Oper := { dst := some 20, op := Op.load 79 (Operand.tmp 19), type := 79, pos := "regs.go:98", after := #[{ on := 2, ground := Ground.data }], guard := none }
def und5_o4 : Oper := { dst := some 21, op := Op.move (Operand.tmp 0), type := 25, pos := "regs.go:98", after := #[], guard := none }
def und5_o5 : Oper := { dst := some 22, op := Op.call { callee := Callee.value (Operand.tmp 20), args := #[Operand.tmp 21], argTypes := #[25] }, type := 0, pos := "regs.go:98", after := #[{ on := 3, ground := Ground.data }, { on := 4, ground := Ground.data }], guard := none }
def und5_ops : Array Oper := #[und5_o0, und5_o1, und5_o2, und5_o3, und5_o4, und5_o5]
set_option maxRecDepth 100000 in
set_option maxHeartbeats 4000000 in
theorem und5 {rb bk F : Nat} {caps : Array Value} (Fin : World → Prop) (a : Act) (w : World) (Q : Exit → Act → World → Prop) (zz : a.tmps.size = 30)
    (t0 : a.tmps.getD 0 undef = .pointer (some ⟨rb, 0, none⟩))
    (t1 : a.tmps.getD 1 undef = .pointer (some ⟨bk, 0, none⟩))
    (V1 : ∀ W, W = w → (Instr.loadAt 79 (.pointer (some ⟨bk, 0 + 1, none⟩))).run Tryd.prog W = .ok (.func (.func F) #[] caps) W) (EN : ∀ vs W, (callFunc F vs).run Tryd.prog W = .ok (.enter F vs) W) (CB : Calls Tryd.prog F (#[.pointer (some ⟨rb, 0, none⟩)] ++ caps) w fun e w' => e = .returned (.tuple #[]) ∧ Fin w')
    (h : ∀ (a' : Act) (w' : World), Fin w' → a' = ((((((a).put (some 17) (.pointer (some ⟨bk, 0, none⟩))).put (some 18) (.pointer (some ⟨bk, 0, none⟩))).put (some 19) (.pointer (some ⟨bk, 0 + 1, none⟩))).put (some 20) (.func (.func F) #[] caps)).put (some 21) (.pointer (some ⟨rb, 0, none⟩))).put (some 22) (.tuple #[]) → Q .normal a' w') :
    (Code.region 5 und5_ops false).wp Tryd.prog Q a w := by
  refine z0 rfl ?_
  refine zv rfl (exec_move rfl (zi t1 rfl)) ?_
  refine zv rfl (exec_nilCheck rfl (zg zz rfl)) ?_
  refine zv rfl (exec_fieldAt rfl (zg zz rfl) (fg_81_1 _ _ _)) ?_
  refine zv rfl (exec_load rfl (zg zz rfl) (V1 _ rfl)) ?_
  refine zv rfl (exec_move rfl (zi t0 rfl)) ?_
  refine zc rfl (exec_cv1 rfl (zg zz rfl) (zg zz rfl) EN) (CB) (fun e x5 hx => ?_)
  obtain ⟨rfl, HF⟩ := hx
  refine ⟨_, rfl, ?_⟩
  exact ze rfl (h _ _ (HF) rfl)
def und6_o0 : Oper := { dst := some 23, op := Op.move (Operand.tmp 0), type := 25, pos := "regs.go:99", after := #[], guard := none }
def und6_o1 : Oper := { dst := some 24, op := Op.move (Operand.tmp 1), type := 27, pos := "regs.go:99", after := #[], guard := none }
def und6_o2 : Oper := { dst := some 25, op := Op.nilCheck (Operand.tmp 24), type := 0, pos := "regs.go:99", after := #[{ on := 1, ground := Ground.data }], guard := none }
def und6_o3 : Oper := { dst := some 26, op := Op.fieldAddr 81 (Operand.tmp 25) 0, type := 0, pos := "regs.go:99", after := #[{ on := 2, ground := Ground.data }], guard := none }
def und6_o4 : Oper := { dst := some 27, op := Op.load 27 (Operand.tmp 26), type := 27, pos := "regs.go:99", after := #[{ on := 3, ground := Ground.data }], guard := none }
def und6_o5 : Oper := { dst := some 28, op := Op.nilCheck (Operand.tmp 23), type := 0, pos := "regs.go:99", after := #[{ on := 0, ground := Ground.data }, { on := 0, ground := Ground.phase }, { on := 1, ground := Ground.phase }, { on := 2, ground := Ground.phase }, { on := 3, ground := Ground.phase }, { on := 4, ground := Ground.phase }], guard := none }
def und6_o6 : Oper := { dst := some 29, op := Op.fieldAddr 69 (Operand.tmp 28) 2, type := 0, pos := "regs.go:99", after := #[{ on := 5, ground := Ground.data }, { on := 0, ground := Ground.phase }, { on := 1, ground := Ground.phase }, { on := 2, ground := Ground.phase }, { on := 3, ground := Ground.phase }, { on := 4, ground := Ground.phase }], guard := none }
def und6_o7 : Oper := { dst := none, op := Op.store 27 (Operand.tmp 29) (Operand.tmp 27), type := 0, pos := "regs.go:99", after := #[{ on := 6, ground := Ground.data }, { on := 4, ground := Ground.data }, { on := 0, ground := Ground.phase }, { on := 1, ground := Ground.phase }, { on := 2, ground := Ground.phase }, { on := 3, ground := Ground.phase }, { on := 4, ground := Ground.phase }], guard := none }
def und6_ops : Array Oper := #[und6_o0, und6_o1, und6_o2, und6_o3, und6_o4, und6_o5, und6_o6, und6_o7]
set_option maxRecDepth 100000 in
set_option maxHeartbeats 4000000 in
theorem und6 {rb bk : Nat} {la : Option Addr} {w1 : World} (a : Act) (w : World) (Q : Exit → Act → World → Prop) (zz : a.tmps.size = 30)
    (t0 : a.tmps.getD 0 undef = .pointer (some ⟨rb, 0, none⟩))
    (t1 : a.tmps.getD 1 undef = .pointer (some ⟨bk, 0, none⟩))
    (V1 : ∀ W, W = w → (Instr.loadAt 27 (.pointer (some ⟨bk, 0 + 0, none⟩))).run Tryd.prog W = .ok (.pointer la) W) (ES : (Instr.storeAt 27 (.pointer (some ⟨rb, 0 + 2, none⟩)) (.pointer la)).run Tryd.prog w = .ok () w1)
    (h : ∀ (a' : Act) (w' : World), w' = w1 → a' = (((((((a).put (some 23) (.pointer (some ⟨rb, 0, none⟩))).put (some 24) (.pointer (some ⟨bk, 0, none⟩))).put (some 25) (.pointer (some ⟨bk, 0, none⟩))).put (some 26) (.pointer (some ⟨bk, 0 + 0, none⟩))).put (some 27) (.pointer la)).put (some 28) (.pointer (some ⟨rb, 0, none⟩))).put (some 29) (.pointer (some ⟨rb, 0 + 2, none⟩)) → Q .normal a' w') :
    (Code.region 6 und6_ops false).wp Tryd.prog Q a w := by
  refine z0 rfl ?_
  refine zv rfl (exec_move rfl (zi t0 rfl)) ?_
  refine zv rfl (exec_move rfl (zi t1 rfl)) ?_
  refine zv rfl (exec_nilCheck rfl (zg zz rfl)) ?_
  refine zv rfl (exec_fieldAt rfl (zg zz rfl) (fg_81_0 _ _ _)) ?_
  refine zv rfl (exec_load rfl (zg zz rfl) (V1 _ rfl)) ?_
  refine zv rfl (exec_nilCheck rfl (zg zz rfl)) ?_
  refine zv rfl (exec_fieldAt rfl (zg zz rfl) (fg_69_2 _ _ _)) ?_
  refine zs rfl (exec_store rfl (zg zz rfl) (zg zz rfl) ES) ?_
  exact ze rfl (h _ _ (rfl) rfl)
end Go.Proofs.YtldlljobofnmmabDoor
