import Derived.Test.YtldlljobofnmmabDoorZr
import Derived.Test.YtldlljobofnmmabDoorRgi
namespace Go.Proofs.YtldlljobofnmmabDoor
open Go.RowKit
set_option linter.unusedVariables false
set_option linter.unusedSimpArgs false

def ent3_o0 : Oper := { dst := some 7, op := Op.move (Operand.tmp 0), type := 25, pos := "regs.go:141", after := #[], guard := none }
def ent3_o1 : Oper := { dst := some 8, op := Op.nilCheck (Operand.tmp 7), type := 0, pos := "regs.go:141", after := #[{ on := 0, ground := Ground.data }], guard := none }
def ent3_o2 : Oper := { dst := some 9, op := Op.fieldAddr 69 (Operand.tmp 8) 0, type := 0, pos := "regs.go:141", after := #[{ on := 1, ground := Ground.data }], guard := none }
def ent3_o3 : Oper := { dst := some 10, op := Op.load 66 (Operand.tmp 9), type := 66, pos := "regs.go:141", after := #[{ on := 2, ground := Ground.data }], guard := none }
def ent3_o4 : Oper := { dst := some 11, op := Op.load 34 (Operand.tmp 3), type := 34, pos := "regs.go:141", after := #[], guard := none }
def ent3_o5 : Oper := { dst := some 12, op := Op.lookup 66 (Operand.tmp 10) (Operand.tmp 11) false, type := 44, pos := "regs.go:141", after := #[{ on := 3, ground := Ground.data }, { on := 4, ground := Ground.data }], guard := none }
def ent3_o6 : Oper := { dst := some 13, op := Op.call { callee := Callee.value (Operand.func 24), args := #[Operand.tmp 12], argTypes := #[44] }, type := 44, pos := "regs.go:141", after := #[{ on := 5, ground := Ground.data }], guard := none }
def ent3_o7 : Oper := { dst := some 4, op := Op.assign (Operand.tmp 13), type := 44, pos := "regs.go:141", after := #[{ on := 6, ground := Ground.data }, { on := 6, ground := Ground.chain }, { on := 0, ground := Ground.phase }, { on := 1, ground := Ground.phase }, { on := 2, ground := Ground.phase }, { on := 3, ground := Ground.phase }, { on := 4, ground := Ground.phase }, { on := 5, ground := Ground.phase }, { on := 6, ground := Ground.phase }], guard := none }
def ent3_ops : Array Oper := #[ent3_o0, ent3_o1, ent3_o2, ent3_o3, ent3_o4, ent3_o5, ent3_o6, ent3_o7]
set_option maxRecDepth 100000 in
set_option maxHeartbeats 4000000 in
theorem ent3 {rb mb pb : Nat} {p : PlK} {lv : Value} (S : World → Prop) (Fin : Value → World → Prop) (a : Act) (w : World) (Q : Exit → Act → World → Prop) (zz : a.tmps.size = 14)
    (t0 : a.tmps.getD 0 undef = .pointer (some ⟨rb, 0, none⟩))
    (t3 : a.tmps.getD 3 undef = .pointer (some ⟨pb, 0, none⟩))
    (h0 : S w.drew) (LR : ∀ W, S W → (Instr.loadAt 66 (.pointer (some ⟨rb, 0 + 0, none⟩))).run Tryd.prog W = .ok (.map (some mb)) W) (LP : ∀ W, S W → (Instr.loadAt 34 (.pointer (some ⟨pb, 0, none⟩))).run Tryd.prog W = .ok (p.v) W) (LK : ∀ W, S W → (Instr.lookup 66 (.map (some mb)) p.v false).run Tryd.prog W = .ok lv W) (CA : Calls Tryd.prog 24 #[lv] w.drew fun e w' => ∃ u, e = .returned u ∧ S w' ∧ Fin u w')
    (h : ∀ (u : Value) (a' : Act) (w' : World), Fin u w' → a' = ((((((((a).put (some 7) (.pointer (some ⟨rb, 0, none⟩))).put (some 8) (.pointer (some ⟨rb, 0, none⟩))).put (some 9) (.pointer (some ⟨rb, 0 + 0, none⟩))).put (some 10) (.map (some mb))).put (some 11) (p.v)).put (some 12) (lv)).put (some 13) (u)).put (some 4) (u) → Q .normal a' w') :
    (Code.region 3 ent3_ops true).wp Tryd.prog Q a w := by
  refine y0 (fun w' => S w') (h0) (fun hHeld => ?_)
  refine yv 0 rfl rfl (fun w1 hw => exec_move rfl (zi t0 rfl)) hHeld ?_
  refine yv 1 rfl rfl (fun w1 hw => exec_nilCheck rfl (zg zz rfl)) hHeld ?_
  refine yv 2 rfl rfl (fun w1 hw => exec_fieldAt rfl (zg zz rfl) (fg_69_0 _ _ _)) hHeld ?_
  refine yv 3 rfl rfl (fun w1 hw => exec_load rfl (zg zz rfl) (LR _ hw)) hHeld ?_
  refine yv 4 rfl rfl (fun w1 hw => exec_load rfl (zi t3 rfl) (LP _ hw)) hHeld ?_
  refine yv (v := lv) 5 rfl rfl (fun w1 hw => exec_lookup rfl (zg zz rfl) (zg zz rfl) (LK _ hw)) hHeld ?_
  refine yc 6 rfl rfl (exec_c1 rfl (zg zz rfl)) (CA) (fun e x6 hx => ?_)
  obtain ⟨u, rfl, S1, HF⟩ := hx
  replace h := h u
  refine ⟨_, rfl, S1, fun hHeld => ?_⟩
  refine yv 7 rfl rfl (fun w1 hw => exec_assign rfl (zg zz rfl)) hHeld ?_
  exact ye rfl (h _ _ (HF) rfl)
end Go.Proofs.YtldlljobofnmmabDoor
