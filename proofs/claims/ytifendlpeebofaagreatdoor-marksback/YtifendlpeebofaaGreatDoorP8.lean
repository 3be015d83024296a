import Derived.Test.YtifendlpeebofaaGreatDoorP0
import Derived.Test.YtifendlpeebofaaGreatDoorP7
import Derived.Laws.FloatArith
import Derived.Test.YtifendlpeebofaaGreatDoorTie
import Derived.Test.YtifendlpeebofaaGreatDoorCards
import Derived.Lib.LaidU8T
import Derived.Lib.LaidU8
import Derived.LaidMore
import Derived.MakeChecks
import Derived.Lay
import Derived.Lib.SmallJoins
import Derived.Stop.Joined
import Derived.SevenTiedAt
import Derived.SizedLaws
import Derived.Deep.DeepHandedRow
import Derived.JoinedCond
set_option linter.unusedSimpArgs false
set_option linter.unusedVariables false
set_option maxRecDepth 100000
set_option maxHeartbeats 4000000
namespace Go.Proofs.YtifendlpeebofaaGreatDoor
open Go.RowKit
section
variable {w : World} {a : Act} {o : Oper} {x y : Operand}
theorem ex_netx {s : ByteArray} (ho : o.op = .binOp .neq 9 x y 9) (hx : a.eval x = .string s) (hy : a.eval y = .string s) : (execOp a.eval o).run Tryz.prog w = .ok (.value (.bool false)) w := by
  refine exec_binOp ho hx hy ?_ ?_
  · kernel_rfl
  · have : (s.toList != s.toList) = false := by simp
    go_simp
theorem ex_eqlE {p q : Int} {r : Bool} (ho : o.op = .binOp .eql 43 x y 43) (hx : a.eval x = .int .i64 p) (hy : a.eval y = .int .i64 q) (h : decide (p = q) = r) : (execOp a.eval o).run Tryz.prog w = .ok (.value (.bool r)) w := by
  unfold execOp
  simp only [ho, hx, hy]
  subst h
  by_cases e : p = q <;> go_simp
end
def ssp1_o0 : Oper := ⟨some 6, .move (.tmp 0), 49, "mem.go:162", #[], none⟩
def ssp1_o1 : Oper := ⟨some 7, .call { callee := Callee.builtin Builtin.len, args := #[.tmp 6], argTypes := #[49] }, 3, "mem.go:162", #[⟨0, .data⟩], none⟩
def ssp1_o2 : Oper := ⟨some 8, .move (.tmp 1), 49, "mem.go:162", #[], none⟩
def ssp1_o3 : Oper := ⟨some 9, .call { callee := Callee.builtin Builtin.len, args := #[.tmp 8], argTypes := #[49] }, 3, "mem.go:162", #[⟨2, .data⟩], none⟩
def ssp1_o4 : Oper := ⟨some 10, .binOp BinOp.neq 3 (.tmp 7) (.tmp 9) 3, 4, "mem.go:162", #[⟨1, .data⟩, ⟨3, .data⟩], none⟩
def ssp1_ops : Array Oper := #[ssp1_o0, ssp1_o1, ssp1_o2, ssp1_o3, ssp1_o4]
theorem ssp1 {la lb : Option Addr} {n c c2 : Nat} (a : Act) (w : World) (Q : Exit → Act → World → Prop) (zz : a.tmps.size = 68)
    (t0 : a.tmps.getD 0 undef = .slice la n c)
    (t1 : a.tmps.getD 1 undef = .slice lb n c2)
    (h : ∀ (a' : Act) (w' : World), w' = w → a' = (((((a).put (some 6) (.slice la n c)).put (some 7) (.int .i64 (n : Int))).put (some 8) (.slice lb n c2)).put (some 9) (.int .i64 (n : Int))).put (some 10) (.bool false) → Q .normal a' w') :
    (Code.region 1 ssp1_ops false).wp Tryz.prog Q a w := by
  refine z0 rfl ?_
  refine zv rfl (xmv rfl (zi t0 rfl)) ?_
  refine zv rfl (exec_len rfl (zg zz rfl) (len_sq _ _ _ _)) ?_
  refine zv rfl (xmv rfl (zi t1 rfl)) ?_
  refine zv rfl (exec_len rfl (zg zz rfl) (len_sq _ _ _ _)) ?_
  refine zv (v := .bool false) rfl (ex_neqZ rfl (zg zz rfl) (zg zz rfl) (decide_eq_false (fun q => q rfl))) ?_
  exact ze rfl (h _ _ (rfl) rfl)
def ssp6_o0 : Oper := ⟨some 17, .move (.tmp 0), 49, "mem.go:166", #[], none⟩
def ssp6_o1 : Oper := ⟨some 18, .move (.tmp 5), 3, "mem.go:166", #[], none⟩
def ssp6_o2 : Oper := ⟨some 19, .indexAddr 49 (.tmp 17) (.tmp 18), 0, "mem.go:166", #[⟨0, .data⟩, ⟨1, .data⟩], none⟩
def ssp6_o3 : Oper := ⟨some 20, .fieldAddr 65 (.tmp 19) 0, 0, "mem.go:166", #[⟨2, .data⟩], none⟩
def ssp6_o4 : Oper := ⟨some 21, .load 3 (.tmp 20), 3, "mem.go:166", #[⟨3, .data⟩], none⟩
def ssp6_o5 : Oper := ⟨some 22, .move (.tmp 1), 49, "mem.go:166", #[], none⟩
def ssp6_o6 : Oper := ⟨some 23, .move (.tmp 5), 3, "mem.go:166", #[], none⟩
def ssp6_o7 : Oper := ⟨some 24, .indexAddr 49 (.tmp 22) (.tmp 23), 0, "mem.go:166", #[⟨5, .data⟩, ⟨6, .data⟩], none⟩
def ssp6_o8 : Oper := ⟨some 25, .fieldAddr 65 (.tmp 24) 0, 0, "mem.go:166", #[⟨7, .data⟩], none⟩
def ssp6_o9 : Oper := ⟨some 26, .load 3 (.tmp 25), 3, "mem.go:166", #[⟨8, .data⟩], none⟩
def ssp6_o10 : Oper := ⟨some 27, .binOp BinOp.neq 3 (.tmp 21) (.tmp 26) 3, 4, "mem.go:166", #[⟨4, .data⟩, ⟨9, .data⟩], none⟩
def ssp6_o11 : Oper := ⟨some 28, .move (.tmp 27), 4, "mem.go:166", #[⟨10, .data⟩], none⟩
def ssp6_o12 : Oper := ⟨some 29, .move (.tmp 0), 49, "mem.go:166", #[⟨11, .guard⟩], some (11, false)⟩
def ssp6_o13 : Oper := ⟨some 30, .move (.tmp 5), 3, "mem.go:166", #[⟨11, .guard⟩], some (11, false)⟩
def ssp6_o14 : Oper := ⟨some 31, .indexAddr 49 (.tmp 29) (.tmp 30), 0, "mem.go:166", #[⟨12, .data⟩, ⟨13, .data⟩, ⟨11, .guard⟩], some (11, false)⟩
def ssp6_o15 : Oper := ⟨some 32, .fieldAddr 65 (.tmp 31) 1, 0, "mem.go:166", #[⟨14, .data⟩, ⟨11, .guard⟩], some (11, false)⟩
def ssp6_o16 : Oper := ⟨some 33, .load 3 (.tmp 32), 3, "mem.go:166", #[⟨15, .data⟩, ⟨11, .guard⟩], some (11, false)⟩
def ssp6_o17 : Oper := ⟨some 34, .move (.tmp 1), 49, "mem.go:166", #[⟨11, .guard⟩], some (11, false)⟩
def ssp6_o18 : Oper := ⟨some 35, .move (.tmp 5), 3, "mem.go:166", #[⟨11, .guard⟩], some (11, false)⟩
def ssp6_o19 : Oper := ⟨some 36, .indexAddr 49 (.tmp 34) (.tmp 35), 0, "mem.go:166", #[⟨17, .data⟩, ⟨18, .data⟩, ⟨11, .guard⟩], some (11, false)⟩
def ssp6_o20 : Oper := ⟨some 37, .fieldAddr 65 (.tmp 36) 1, 0, "mem.go:166", #[⟨19, .data⟩, ⟨11, .guard⟩], some (11, false)⟩
def ssp6_o21 : Oper := ⟨some 38, .load 3 (.tmp 37), 3, "mem.go:166", #[⟨20, .data⟩, ⟨11, .guard⟩], some (11, false)⟩
def ssp6_o22 : Oper := ⟨some 39, .binOp BinOp.neq 3 (.tmp 33) (.tmp 38) 3, 4, "mem.go:166", #[⟨16, .data⟩, ⟨21, .data⟩, ⟨11, .guard⟩], some (11, false)⟩
def ssp6_o23 : Oper := ⟨some 40, .pick (.tmp 28) (Operand.const (Value.bool true)) (.tmp 39), 4, "mem.go:166", #[⟨11, .data⟩, ⟨22, .data⟩], none⟩
def ssp6_o24 : Oper := ⟨some 41, .move (.tmp 40), 4, "mem.go:166", #[⟨23, .data⟩, ⟨11, .chain⟩], none⟩
def ssp6_o25 : Oper := ⟨some 42, .move (.tmp 0), 49, "mem.go:166", #[⟨24, .guard⟩], some (24, false)⟩
def ssp6_o26 : Oper := ⟨some 43, .move (.tmp 5), 3, "mem.go:166", #[⟨24, .guard⟩], some (24, false)⟩
def ssp6_o27 : Oper := ⟨some 44, .indexAddr 49 (.tmp 42) (.tmp 43), 0, "mem.go:166", #[⟨25, .data⟩, ⟨26, .data⟩, ⟨24, .guard⟩], some (24, false)⟩
def ssp6_o28 : Oper := ⟨some 45, .fieldAddr 65 (.tmp 44) 2, 0, "mem.go:166", #[⟨27, .data⟩, ⟨24, .guard⟩], some (24, false)⟩
def ssp6_o29 : Oper := ⟨some 46, .load 9 (.tmp 45), 9, "mem.go:166", #[⟨28, .data⟩, ⟨24, .guard⟩], some (24, false)⟩
def ssp6_o30 : Oper := ⟨some 47, .move (.tmp 1), 49, "mem.go:166", #[⟨24, .guard⟩], some (24, false)⟩
def ssp6_o31 : Oper := ⟨some 48, .move (.tmp 5), 3, "mem.go:166", #[⟨24, .guard⟩], some (24, false)⟩
def ssp6_o32 : Oper := ⟨some 49, .indexAddr 49 (.tmp 47) (.tmp 48), 0, "mem.go:166", #[⟨30, .data⟩, ⟨31, .data⟩, ⟨24, .guard⟩], some (24, false)⟩
def ssp6_o33 : Oper := ⟨some 50, .fieldAddr 65 (.tmp 49) 2, 0, "mem.go:166", #[⟨32, .data⟩, ⟨24, .guard⟩], some (24, false)⟩
def ssp6_o34 : Oper := ⟨some 51, .load 9 (.tmp 50), 9, "mem.go:166", #[⟨33, .data⟩, ⟨24, .guard⟩], some (24, false)⟩
def ssp6_o35 : Oper := ⟨some 52, .binOp BinOp.neq 9 (.tmp 46) (.tmp 51) 9, 4, "mem.go:166", #[⟨29, .data⟩, ⟨34, .data⟩, ⟨24, .guard⟩], some (24, false)⟩
def ssp6_o36 : Oper := ⟨some 53, .pick (.tmp 41) (Operand.const (Value.bool true)) (.tmp 52), 4, "mem.go:166", #[⟨24, .data⟩, ⟨35, .data⟩], none⟩
def ssp6_o37 : Oper := ⟨some 54, .move (.tmp 53), 4, "mem.go:166", #[⟨36, .data⟩, ⟨24, .chain⟩], none⟩
def ssp6_o38 : Oper := ⟨some 55, .move (.tmp 0), 49, "mem.go:166", #[⟨37, .guard⟩], some (37, false)⟩
def ssp6_o39 : Oper := ⟨some 56, .move (.tmp 5), 3, "mem.go:166", #[⟨37, .guard⟩], some (37, false)⟩
def ssp6_o40 : Oper := ⟨some 57, .indexAddr 49 (.tmp 55) (.tmp 56), 0, "mem.go:166", #[⟨38, .data⟩, ⟨39, .data⟩, ⟨37, .guard⟩], some (37, false)⟩
def ssp6_o41 : Oper := ⟨some 58, .fieldAddr 65 (.tmp 57) 3, 0, "mem.go:166", #[⟨40, .data⟩, ⟨37, .guard⟩], some (37, false)⟩
def ssp6_o42 : Oper := ⟨some 59, .load 40 (.tmp 58), 40, "mem.go:166", #[⟨41, .data⟩, ⟨37, .guard⟩], some (37, false)⟩
def ssp6_o43 : Oper := ⟨some 60, .move (.tmp 1), 49, "mem.go:166", #[⟨37, .guard⟩], some (37, false)⟩
def ssp6_o44 : Oper := ⟨some 61, .move (.tmp 5), 3, "mem.go:166", #[⟨37, .guard⟩], some (37, false)⟩
def ssp6_o45 : Oper := ⟨some 62, .indexAddr 49 (.tmp 60) (.tmp 61), 0, "mem.go:166", #[⟨43, .data⟩, ⟨44, .data⟩, ⟨37, .guard⟩], some (37, false)⟩
def ssp6_o46 : Oper := ⟨some 63, .fieldAddr 65 (.tmp 62) 3, 0, "mem.go:166", #[⟨45, .data⟩, ⟨37, .guard⟩], some (37, false)⟩
def ssp6_o47 : Oper := ⟨some 64, .load 40 (.tmp 63), 40, "mem.go:166", #[⟨46, .data⟩, ⟨37, .guard⟩], some (37, false)⟩
def ssp6_o48 : Oper := ⟨some 65, .call { callee := Callee.value (Operand.func 53), args := #[.tmp 59, .tmp 64], argTypes := #[40, 40] }, 4, "mem.go:166", #[⟨42, .data⟩, ⟨47, .data⟩, ⟨37, .chain⟩, ⟨37, .guard⟩], some (37, false)⟩
def ssp6_o49 : Oper := ⟨some 66, .unOp UnOp.not 4 (.tmp 65), 4, "mem.go:166", #[⟨48, .data⟩, ⟨37, .guard⟩], some (37, false)⟩
def ssp6_o50 : Oper := ⟨some 67, .pick (.tmp 54) (Operand.const (Value.bool true)) (.tmp 66), 4, "mem.go:166", #[⟨37, .data⟩, ⟨49, .data⟩], none⟩
def ssp6_ops : Array Oper := #[ssp6_o0, ssp6_o1, ssp6_o2, ssp6_o3, ssp6_o4, ssp6_o5, ssp6_o6, ssp6_o7, ssp6_o8, ssp6_o9, ssp6_o10, ssp6_o11, ssp6_o12, ssp6_o13, ssp6_o14, ssp6_o15, ssp6_o16, ssp6_o17, ssp6_o18, ssp6_o19, ssp6_o20, ssp6_o21, ssp6_o22, ssp6_o23, ssp6_o24, ssp6_o25, ssp6_o26, ssp6_o27, ssp6_o28, ssp6_o29, ssp6_o30, ssp6_o31, ssp6_o32, ssp6_o33, ssp6_o34, ssp6_o35, ssp6_o36, ssp6_o37, ssp6_o38, ssp6_o39, ssp6_o40, ssp6_o41, ssp6_o42, ssp6_o43, ssp6_o44, ssp6_o45, ssp6_o46, ssp6_o47, ssp6_o48, ssp6_o49, ssp6_o50]
theorem ssp6 {g o g2 o2 n c c2 i : Nat} {x : SpV} (S : World → Prop) (a : Act) (w : World) (Q : Exit → Act → World → Prop) (zz : a.tmps.size = 68)
    (t0 : a.tmps.getD 0 undef = .slice (some ⟨g, o, none⟩) n c)
    (t1 : a.tmps.getD 1 undef = .slice (some ⟨g2, o2, none⟩) n c2)
    (t5 : a.tmps.getD 5 undef = .int .i64 (i : Int))
    (h0 : S w.drew) (hi : i < n) (hm : n ≤ 9223372036854775807) (LA0 : ∀ W, S W → (Instr.loadAt 3 (.pointer (some ⟨g, o + 7 * i + 0, none⟩))).run Tryz.prog W = .ok (.int .i64 x.fr) W) (LA1 : ∀ W, S W → (Instr.loadAt 3 (.pointer (some ⟨g, o + 7 * i + 1, none⟩))).run Tryz.prog W = .ok (.int .i64 x.to) W) (LA2 : ∀ W, S W → (Instr.loadAt 9 (.pointer (some ⟨g, o + 7 * i + 2, none⟩))).run Tryz.prog W = .ok (.string x.nm) W) (LA3 : ∀ W, S W → (Instr.loadAt 40 (.pointer (some ⟨g, o + 7 * i + 3, none⟩))).run Tryz.prog W = .ok (x.v.v) W) (LB0 : ∀ W, S W → (Instr.loadAt 3 (.pointer (some ⟨g2, o2 + 7 * i + 0, none⟩))).run Tryz.prog W = .ok (.int .i64 x.fr) W) (LB1 : ∀ W, S W → (Instr.loadAt 3 (.pointer (some ⟨g2, o2 + 7 * i + 1, none⟩))).run Tryz.prog W = .ok (.int .i64 x.to) W) (LB2 : ∀ W, S W → (Instr.loadAt 9 (.pointer (some ⟨g2, o2 + 7 * i + 2, none⟩))).run Tryz.prog W = .ok (.string x.nm) W) (LB3 : ∀ W, S W → (Instr.loadAt 40 (.pointer (some ⟨g2, o2 + 7 * i + 3, none⟩))).run Tryz.prog W = .ok (x.v.v) W) (CS : Calls Tryz.prog 53 #[x.v.v, x.v.v] w.drew fun e w' => e = .returned (.bool true) ∧ S w')
    (h : ∀ (a' : Act) (w' : World), S w' → a' = (((((((((((((((((((((((((((((((((((((((((((((((((((a).put (some 17) (.slice (some ⟨g, o, none⟩) n c)).put (some 18) (.int .i64 (i : Int))).put (some 19) (.pointer (some ⟨g, o + 7 * i, none⟩))).put (some 20) (.pointer (some ⟨g, o + 7 * i + 0, none⟩))).put (some 21) (.int .i64 x.fr)).put (some 22) (.slice (some ⟨g2, o2, none⟩) n c2)).put (some 23) (.int .i64 (i : Int))).put (some 24) (.pointer (some ⟨g2, o2 + 7 * i, none⟩))).put (some 25) (.pointer (some ⟨g2, o2 + 7 * i + 0, none⟩))).put (some 26) (.int .i64 x.fr)).put (some 27) (.bool false)).put (some 28) (.bool false)).put (some 29) (.slice (some ⟨g, o, none⟩) n c)).put (some 30) (.int .i64 (i : Int))).put (some 31) (.pointer (some ⟨g, o + 7 * i, none⟩))).put (some 32) (.pointer (some ⟨g, o + 7 * i + 1, none⟩))).put (some 33) (.int .i64 x.to)).put (some 34) (.slice (some ⟨g2, o2, none⟩) n c2)).put (some 35) (.int .i64 (i : Int))).put (some 36) (.pointer (some ⟨g2, o2 + 7 * i, none⟩))).put (some 37) (.pointer (some ⟨g2, o2 + 7 * i + 1, none⟩))).put (some 38) (.int .i64 x.to)).put (some 39) (.bool false)).put (some 40) (.bool false)).put (some 41) (.bool false)).put (some 42) (.slice (some ⟨g, o, none⟩) n c)).put (some 43) (.int .i64 (i : Int))).put (some 44) (.pointer (some ⟨g, o + 7 * i, none⟩))).put (some 45) (.pointer (some ⟨g, o + 7 * i + 2, none⟩))).put (some 46) (.string x.nm)).put (some 47) (.slice (some ⟨g2, o2, none⟩) n c2)).put (some 48) (.int .i64 (i : Int))).put (some 49) (.pointer (some ⟨g2, o2 + 7 * i, none⟩))).put (some 50) (.pointer (some ⟨g2, o2 + 7 * i + 2, none⟩))).put (some 51) (.string x.nm)).put (some 52) (.bool false)).put (some 53) (.bool false)).put (some 54) (.bool false)).put (some 55) (.slice (some ⟨g, o, none⟩) n c)).put (some 56) (.int .i64 (i : Int))).put (some 57) (.pointer (some ⟨g, o + 7 * i, none⟩))).put (some 58) (.pointer (some ⟨g, o + 7 * i + 3, none⟩))).put (some 59) (x.v.v)).put (some 60) (.slice (some ⟨g2, o2, none⟩) n c2)).put (some 61) (.int .i64 (i : Int))).put (some 62) (.pointer (some ⟨g2, o2 + 7 * i, none⟩))).put (some 63) (.pointer (some ⟨g2, o2 + 7 * i + 3, none⟩))).put (some 64) (x.v.v)).put (some 65) (.bool true)).put (some 66) (.bool false)).put (some 67) (.bool false) → Q .normal a' w') :
    (Code.region 6 ssp6_ops true).wp Tryz.prog Q a w := by
  refine y0 (fun w' => S w') (h0) (fun hHeld => ?_)
  refine yv 0 rfl rfl (fun w1 hw => xmv rfl (zi t0 rfl)) hHeld ?_
  refine yv 1 rfl rfl (fun w1 hw => xmv rfl (zi t5 rfl)) hHeld ?_
  refine yv 2 rfl rfl (fun w1 hw => xia rfl (zg zz rfl) (zg zz rfl) (ix_sp hi hm _)) hHeld ?_
  refine yv 3 rfl rfl (fun w1 hw => xfa rfl (zg zz rfl) (fg_65_0 _ _ _)) hHeld ?_
  refine yv 4 rfl rfl (fun w1 hw => xld rfl (zg zz rfl) (LA0 _ hw)) hHeld ?_
  refine yv 5 rfl rfl (fun w1 hw => xmv rfl (zi t1 rfl)) hHeld ?_
  refine yv 6 rfl rfl (fun w1 hw => xmv rfl (zi t5 rfl)) hHeld ?_
  refine yv 7 rfl rfl (fun w1 hw => xia rfl (zg zz rfl) (zg zz rfl) (ix_sp hi hm _)) hHeld ?_
  refine yv 8 rfl rfl (fun w1 hw => xfa rfl (zg zz rfl) (fg_65_0 _ _ _)) hHeld ?_
  refine yv 9 rfl rfl (fun w1 hw => xld rfl (zg zz rfl) (LB0 _ hw)) hHeld ?_
  refine yv (v := .bool false) 10 rfl rfl (fun w1 hw => ex_neqZ rfl (zg zz rfl) (zg zz rfl) (decide_eq_false (fun q => q rfl))) hHeld ?_
  refine yv 11 rfl rfl (fun w1 hw => xmv rfl (zg zz rfl)) hHeld ?_
  refine yv 12 rfl (zw zz rfl rfl rfl (zg zz rfl)) (fun w1 hw => xmv rfl (zi t0 rfl)) hHeld ?_
  refine yv 13 rfl (zw zz rfl rfl rfl (zg zz rfl)) (fun w1 hw => xmv rfl (zi t5 rfl)) hHeld ?_
  refine yv 14 rfl (zw zz rfl rfl rfl (zg zz rfl)) (fun w1 hw => xia rfl (zg zz rfl) (zg zz rfl) (ix_sp hi hm _)) hHeld ?_
  refine yv 15 rfl (zw zz rfl rfl rfl (zg zz rfl)) (fun w1 hw => xfa rfl (zg zz rfl) (fg_65_1 _ _ _)) hHeld ?_
  refine yv 16 rfl (zw zz rfl rfl rfl (zg zz rfl)) (fun w1 hw => xld rfl (zg zz rfl) (LA1 _ hw)) hHeld ?_
  refine yv 17 rfl (zw zz rfl rfl rfl (zg zz rfl)) (fun w1 hw => xmv rfl (zi t1 rfl)) hHeld ?_
  refine yv 18 rfl (zw zz rfl rfl rfl (zg zz rfl)) (fun w1 hw => xmv rfl (zi t5 rfl)) hHeld ?_
  refine yv 19 rfl (zw zz rfl rfl rfl (zg zz rfl)) (fun w1 hw => xia rfl (zg zz rfl) (zg zz rfl) (ix_sp hi hm _)) hHeld ?_
  refine yv 20 rfl (zw zz rfl rfl rfl (zg zz rfl)) (fun w1 hw => xfa rfl (zg zz rfl) (fg_65_1 _ _ _)) hHeld ?_
  refine yv 21 rfl (zw zz rfl rfl rfl (zg zz rfl)) (fun w1 hw => xld rfl (zg zz rfl) (LB1 _ hw)) hHeld ?_
  refine yv (v := .bool false) 22 rfl (zw zz rfl rfl rfl (zg zz rfl)) (fun w1 hw => ex_neqZ rfl (zg zz rfl) (zg zz rfl) (decide_eq_false (fun q => q rfl))) hHeld ?_
  refine yv 23 rfl rfl (fun w1 hw => exec_pickF rfl (zg zz rfl) (zg zz rfl)) hHeld ?_
  refine yv 24 rfl rfl (fun w1 hw => xmv rfl (zg zz rfl)) hHeld ?_
  refine yv 25 rfl (zw zz rfl rfl rfl (zg zz rfl)) (fun w1 hw => xmv rfl (zi t0 rfl)) hHeld ?_
  refine yv 26 rfl (zw zz rfl rfl rfl (zg zz rfl)) (fun w1 hw => xmv rfl (zi t5 rfl)) hHeld ?_
  refine yv 27 rfl (zw zz rfl rfl rfl (zg zz rfl)) (fun w1 hw => xia rfl (zg zz rfl) (zg zz rfl) (ix_sp hi hm _)) hHeld ?_
  refine yv 28 rfl (zw zz rfl rfl rfl (zg zz rfl)) (fun w1 hw => xfa rfl (zg zz rfl) (fg_65_2 _ _ _)) hHeld ?_
  refine yv 29 rfl (zw zz rfl rfl rfl (zg zz rfl)) (fun w1 hw => xld rfl (zg zz rfl) (LA2 _ hw)) hHeld ?_
  refine yv 30 rfl (zw zz rfl rfl rfl (zg zz rfl)) (fun w1 hw => xmv rfl (zi t1 rfl)) hHeld ?_
  refine yv 31 rfl (zw zz rfl rfl rfl (zg zz rfl)) (fun w1 hw => xmv rfl (zi t5 rfl)) hHeld ?_
  refine yv 32 rfl (zw zz rfl rfl rfl (zg zz rfl)) (fun w1 hw => xia rfl (zg zz rfl) (zg zz rfl) (ix_sp hi hm _)) hHeld ?_
  refine yv 33 rfl (zw zz rfl rfl rfl (zg zz rfl)) (fun w1 hw => xfa rfl (zg zz rfl) (fg_65_2 _ _ _)) hHeld ?_
  refine yv 34 rfl (zw zz rfl rfl rfl (zg zz rfl)) (fun w1 hw => xld rfl (zg zz rfl) (LB2 _ hw)) hHeld ?_
  refine yv (v := .bool false) 35 rfl (zw zz rfl rfl rfl (zg zz rfl)) (fun w1 hw => ex_netx rfl (zg zz rfl) (zg zz rfl)) hHeld ?_
  refine yv 36 rfl rfl (fun w1 hw => exec_pickF rfl (zg zz rfl) (zg zz rfl)) hHeld ?_
  refine yv 37 rfl rfl (fun w1 hw => xmv rfl (zg zz rfl)) hHeld ?_
  refine yv 38 rfl (zw zz rfl rfl rfl (zg zz rfl)) (fun w1 hw => xmv rfl (zi t0 rfl)) hHeld ?_
  refine yv 39 rfl (zw zz rfl rfl rfl (zg zz rfl)) (fun w1 hw => xmv rfl (zi t5 rfl)) hHeld ?_
  refine yv 40 rfl (zw zz rfl rfl rfl (zg zz rfl)) (fun w1 hw => xia rfl (zg zz rfl) (zg zz rfl) (ix_sp hi hm _)) hHeld ?_
  refine yv 41 rfl (zw zz rfl rfl rfl (zg zz rfl)) (fun w1 hw => xfa rfl (zg zz rfl) (fg_65_3 _ _ _)) hHeld ?_
  refine yv 42 rfl (zw zz rfl rfl rfl (zg zz rfl)) (fun w1 hw => xld rfl (zg zz rfl) (LA3 _ hw)) hHeld ?_
  refine yv 43 rfl (zw zz rfl rfl rfl (zg zz rfl)) (fun w1 hw => xmv rfl (zi t1 rfl)) hHeld ?_
  refine yv 44 rfl (zw zz rfl rfl rfl (zg zz rfl)) (fun w1 hw => xmv rfl (zi t5 rfl)) hHeld ?_
  refine yv 45 rfl (zw zz rfl rfl rfl (zg zz rfl)) (fun w1 hw => xia rfl (zg zz rfl) (zg zz rfl) (ix_sp hi hm _)) hHeld ?_
  refine yv 46 rfl (zw zz rfl rfl rfl (zg zz rfl)) (fun w1 hw => xfa rfl (zg zz rfl) (fg_65_3 _ _ _)) hHeld ?_
  refine yv 47 rfl (zw zz rfl rfl rfl (zg zz rfl)) (fun w1 hw => xld rfl (zg zz rfl) (LB3 _ hw)) hHeld ?_
  refine yc 48 rfl (zw zz rfl rfl rfl (zg zz rfl)) (exec_c2 rfl (zg zz rfl) (zg zz rfl)) (CS) (fun e x48 hx => ?_)
  obtain ⟨rfl, S1⟩ := hx
  refine ⟨_, rfl, S1, fun hHeld => ?_⟩
  refine yv 49 rfl (zw zz rfl rfl rfl (zg zz rfl)) (fun w1 hw => exec_not rfl (zg zz rfl)) hHeld ?_
  refine yv 50 rfl rfl (fun w1 hw => exec_pickF rfl (zg zz rfl) (zg zz rfl)) hHeld ?_
  exact ye rfl (h _ _ (S1) rfl)
def und3_o0 : Oper := ⟨some 8, .move (.tmp 0), 27, "marks.go:72", #[], none⟩
def und3_o1 : Oper := ⟨some 9, .load 36 (.tmp 3), 36, "marks.go:72", #[], none⟩
def und3_o2 : Oper := ⟨some 10, .call { callee := Callee.value (Operand.func 39), args := #[.tmp 8, .tmp 9], argTypes := #[27, 36] }, 4, "marks.go:72", #[⟨0, .data⟩, ⟨1, .data⟩], none⟩
def und3_o3 : Oper := ⟨some 11, .unOp UnOp.not 4 (.tmp 10), 4, "marks.go:72", #[⟨2, .data⟩], none⟩
def und3_ops : Array Oper := #[und3_o0, und3_o1, und3_o2, und3_o3]
theorem und3 {mb b1 : Nat} {k : IdK} {r : Bool} (Fin : World → Prop) (a : Act) (w : World) (Q : Exit → Act → World → Prop) (zz : a.tmps.size = 42)
    (t0 : a.tmps.getD 0 undef = .pointer (some ⟨mb, 0, none⟩))
    (t3 : a.tmps.getD 3 undef = .pointer (some ⟨b1, 0, none⟩))
    (LK : (Instr.loadAt 36 (.pointer (some ⟨b1, 0, none⟩))).run Tryz.prog w = .ok (k.v) w) (CH : Calls Tryz.prog 39 #[.pointer (some ⟨mb, 0, none⟩), k.v] w fun e w' => e = .returned (.bool r) ∧ Fin w')
    (h : ∀ (a' : Act) (w' : World), Fin w' → a' = ((((a).put (some 8) (.pointer (some ⟨mb, 0, none⟩))).put (some 9) (k.v)).put (some 10) (.bool r)).put (some 11) (.bool (!r)) → Q .normal a' w') :
    (Code.region 3 und3_ops false).wp Tryz.prog Q a w := by
  refine z0 rfl ?_
  refine zv rfl (xmv rfl (zi t0 rfl)) ?_
  refine zv rfl (xld rfl (zi t3 rfl) LK) ?_
  refine zc rfl (exec_c2 rfl (zg zz rfl) (zg zz rfl)) (CH) (fun e x2 hx => ?_)
  obtain ⟨rfl, HF⟩ := hx
  refine ⟨_, rfl, ?_⟩
  refine zv rfl (exec_not rfl (zg zz rfl)) ?_
  exact ze rfl (h _ _ (HF) rfl)
def und5_o0 : Oper := ⟨some 12, .move (.tmp 0), 27, "marks.go:75", #[], none⟩
def und5_o1 : Oper := ⟨some 13, .nilCheck (.tmp 12), 0, "marks.go:75", #[⟨0, .data⟩], none⟩
def und5_o2 : Oper := ⟨some 14, .fieldAddr 87 (.tmp 13) 0, 0, "marks.go:75", #[⟨1, .data⟩], none⟩
def und5_o3 : Oper := ⟨some 15, .load 85 (.tmp 14), 85, "marks.go:75", #[⟨2, .data⟩], none⟩
def und5_o4 : Oper := ⟨some 16, .call { callee := Callee.builtin Builtin.len, args := #[.tmp 15], argTypes := #[85] }, 3, "marks.go:75", #[⟨3, .data⟩], none⟩
def und5_o5 : Oper := ⟨some 17, .binOp BinOp.sub 3 (.tmp 16) (Operand.const (Value.int IntKind.i64 1)) 3, 3, "marks.go:75", #[⟨4, .data⟩], none⟩
def und5_o6 : Oper := ⟨some 5, .assign (.tmp 17), 3, "marks.go:75", #[⟨5, .data⟩, ⟨0, .phase⟩, ⟨1, .phase⟩, ⟨2, .phase⟩, ⟨3, .phase⟩, ⟨4, .phase⟩, ⟨5, .phase⟩], none⟩
def und5_ops : Array Oper := #[und5_o0, und5_o1, und5_o2, und5_o3, und5_o4, und5_o5, und5_o6]
theorem und5 {mb n c : Nat} {m : Int} {la : Option Addr} (a : Act) (w : World) (Q : Exit → Act → World → Prop) (zz : a.tmps.size = 42)
    (t0 : a.tmps.getD 0 undef = .pointer (some ⟨mb, 0, none⟩))
    (hm : (n : Int) - 1 = m) (hb : -9223372036854775808 ≤ (n : Int) - 1 ∧ (n : Int) - 1 ≤ 9223372036854775807) (LL : (Instr.loadAt 85 (.pointer (some ⟨mb, 0 + 0, none⟩))).run Tryz.prog w = .ok (.slice la n c) w)
    (h : ∀ (a' : Act) (w' : World), w' = w → a' = (((((((a).put (some 12) (.pointer (some ⟨mb, 0, none⟩))).put (some 13) (.pointer (some ⟨mb, 0, none⟩))).put (some 14) (.pointer (some ⟨mb, 0 + 0, none⟩))).put (some 15) (.slice la n c)).put (some 16) (.int .i64 (n : Int))).put (some 17) (.int .i64 m)).put (some 5) (.int .i64 m) → Q .normal a' w') :
    (Code.region 5 und5_ops false).wp Tryz.prog Q a w := by
  refine z0 rfl ?_
  refine zv rfl (xmv rfl (zi t0 rfl)) ?_
  refine zv rfl (xnc rfl (zg zz rfl)) ?_
  refine zv rfl (xfa rfl (zg zz rfl) (fg_87_0 _ _ _)) ?_
  refine zv rfl (xld rfl (zg zz rfl) LL) ?_
  refine zv rfl (exec_len rfl (zg zz rfl) (len_mk _ _ _ _)) ?_
  refine zv (v := .int .i64 m) rfl (ex_sub1 rfl (zg zz rfl) rfl hm hb) ?_
  refine zv rfl (xas rfl (zg zz rfl)) ?_
  exact ze rfl (h _ _ (rfl) rfl)
def und6_o0 : Oper := ⟨some 18, .move (.tmp 0), 27, "marks.go:76", #[], none⟩
def und6_o1 : Oper := ⟨some 19, .nilCheck (.tmp 18), 0, "marks.go:76", #[⟨0, .data⟩], none⟩
def und6_o2 : Oper := ⟨some 20, .fieldAddr 87 (.tmp 19) 0, 0, "marks.go:76", #[⟨1, .data⟩], none⟩
def und6_o3 : Oper := ⟨some 21, .load 85 (.tmp 20), 85, "marks.go:76", #[⟨2, .data⟩], none⟩
def und6_o4 : Oper := ⟨some 22, .move (.tmp 5), 3, "marks.go:76", #[], none⟩
def und6_o5 : Oper := ⟨some 23, .indexAddr 85 (.tmp 21) (.tmp 22), 0, "marks.go:76", #[⟨3, .data⟩, ⟨4, .data⟩], none⟩
def und6_o6 : Oper := ⟨some 24, .fieldAddr 95 (.tmp 23) 0, 0, "marks.go:76", #[⟨5, .data⟩], none⟩
def und6_o7 : Oper := ⟨some 25, .load 36 (.tmp 24), 36, "marks.go:76", #[⟨6, .data⟩], none⟩
def und6_o8 : Oper := ⟨some 26, .load 36 (.tmp 3), 36, "marks.go:76", #[], none⟩
def und6_o9 : Oper := ⟨some 27, .binOp BinOp.neq 36 (.tmp 25) (.tmp 26) 36, 4, "marks.go:76", #[⟨7, .data⟩, ⟨8, .data⟩], none⟩
def und6_ops : Array Oper := #[und6_o0, und6_o1, und6_o2, und6_o3, und6_o4, und6_o5, und6_o6, und6_o7, und6_o8, und6_o9]
theorem und6 {mb b1 g o n c m : Nat} {q k : IdK} {r : Bool} (S : World → Prop) (a : Act) (w : World) (Q : Exit → Act → World → Prop) (zz : a.tmps.size = 42)
    (t0 : a.tmps.getD 0 undef = .pointer (some ⟨mb, 0, none⟩))
    (t3 : a.tmps.getD 3 undef = .pointer (some ⟨b1, 0, none⟩))
    (t5 : a.tmps.getD 5 undef = .int .i64 (m : Int))
    (h0 : S w.drew) (hi : m < n) (hm : n ≤ 9223372036854775807) (hq : q.ok) (hk : k.ok) (hz : (!decide (q = k)) = r) (LL : ∀ W, S W → (Instr.loadAt 85 (.pointer (some ⟨mb, 0 + 0, none⟩))).run Tryz.prog W = .ok (.slice (some ⟨g, o, none⟩) n c) W) (LX : ∀ W, S W → (Instr.loadAt 36 (.pointer (some ⟨g, o + 105 * m + 0, none⟩))).run Tryz.prog W = .ok (q.v) W) (LK : ∀ W, S W → (Instr.loadAt 36 (.pointer (some ⟨b1, 0, none⟩))).run Tryz.prog W = .ok (k.v) W)
    (h : ∀ (a' : Act) (w' : World), S w' → a' = ((((((((((a).put (some 18) (.pointer (some ⟨mb, 0, none⟩))).put (some 19) (.pointer (some ⟨mb, 0, none⟩))).put (some 20) (.pointer (some ⟨mb, 0 + 0, none⟩))).put (some 21) (.slice (some ⟨g, o, none⟩) n c)).put (some 22) (.int .i64 (m : Int))).put (some 23) (.pointer (some ⟨g, o + 105 * m, none⟩))).put (some 24) (.pointer (some ⟨g, o + 105 * m + 0, none⟩))).put (some 25) (q.v)).put (some 26) (k.v)).put (some 27) (.bool r) → Q .normal a' w') :
    (Code.region 6 und6_ops true).wp Tryz.prog Q a w := by
  refine y0 (fun w' => S w') (h0) (fun hHeld => ?_)
  refine yv 0 rfl rfl (fun w1 hw => xmv rfl (zi t0 rfl)) hHeld ?_
  refine yv 1 rfl rfl (fun w1 hw => xnc rfl (zg zz rfl)) hHeld ?_
  refine yv 2 rfl rfl (fun w1 hw => xfa rfl (zg zz rfl) (fg_87_0 _ _ _)) hHeld ?_
  refine yv 3 rfl rfl (fun w1 hw => xld rfl (zg zz rfl) (LL _ hw)) hHeld ?_
  refine yv 4 rfl rfl (fun w1 hw => xmv rfl (zi t5 rfl)) hHeld ?_
  refine yv 5 rfl rfl (fun w1 hw => xia rfl (zg zz rfl) (zg zz rfl) (ix_mk hi hm _)) hHeld ?_
  refine yv 6 rfl rfl (fun w1 hw => xfa rfl (zg zz rfl) (fg_95_0 _ _ _)) hHeld ?_
  refine yv 7 rfl rfl (fun w1 hw => xld rfl (zg zz rfl) (LX _ hw)) hHeld ?_
  refine yv 8 rfl rfl (fun w1 hw => xld rfl (zi t3 rfl) (LK _ hw)) hHeld ?_
  refine yv (v := .bool r) 9 rfl rfl (fun w1 hw => ex_neqI rfl (zg zz rfl) (zg zz rfl) hq hk hz) hHeld ?_
  exact ye rfl (h _ _ (hHeld) rfl)
def und8_o0 : Oper := ⟨some 28, .move (.tmp 0), 27, "marks.go:79", #[], none⟩
def und8_o1 : Oper := ⟨some 29, .move (.tmp 0), 27, "marks.go:79", #[], none⟩
def und8_o2 : Oper := ⟨some 30, .nilCheck (.tmp 29), 0, "marks.go:79", #[⟨1, .data⟩], none⟩
def und8_o3 : Oper := ⟨some 31, .fieldAddr 87 (.tmp 30) 0, 0, "marks.go:79", #[⟨2, .data⟩], none⟩
def und8_o4 : Oper := ⟨some 32, .load 85 (.tmp 31), 85, "marks.go:79", #[⟨3, .data⟩], none⟩
def und8_o5 : Oper := ⟨some 33, .move (.tmp 5), 3, "marks.go:79", #[], none⟩
def und8_o6 : Oper := ⟨some 34, .call { callee := Callee.value (Operand.func 46), args := #[.tmp 32, .tmp 33], argTypes := #[85, 3] }, 85, "marks.go:79", #[⟨4, .data⟩, ⟨5, .data⟩], none⟩
def und8_o7 : Oper := ⟨some 35, .nilCheck (.tmp 28), 0, "marks.go:79", #[⟨0, .data⟩, ⟨0, .phase⟩, ⟨1, .phase⟩, ⟨2, .phase⟩, ⟨3, .phase⟩, ⟨4, .phase⟩, ⟨5, .phase⟩, ⟨6, .phase⟩], none⟩
def und8_o8 : Oper := ⟨some 36, .fieldAddr 87 (.tmp 35) 0, 0, "marks.go:79", #[⟨7, .data⟩, ⟨0, .phase⟩, ⟨1, .phase⟩, ⟨2, .phase⟩, ⟨3, .phase⟩, ⟨4, .phase⟩, ⟨5, .phase⟩, ⟨6, .phase⟩], none⟩
def und8_o9 : Oper := ⟨none, .store 85 (.tmp 36) (.tmp 34), 0, "marks.go:79", #[⟨8, .data⟩, ⟨6, .data⟩, ⟨6, .chain⟩, ⟨0, .phase⟩, ⟨1, .phase⟩, ⟨2, .phase⟩, ⟨3, .phase⟩, ⟨4, .phase⟩, ⟨5, .phase⟩, ⟨6, .phase⟩], none⟩
def und8_ops : Array Oper := #[und8_o0, und8_o1, und8_o2, und8_o3, und8_o4, und8_o5, und8_o6, und8_o7, und8_o8, und8_o9]
theorem und8 {mb : Nat} {z : Int} {lv : Value} (Fin : Value → World → Prop) (a : Act) (w : World) (Q : Exit → Act → World → Prop) (zz : a.tmps.size = 42)
    (t0 : a.tmps.getD 0 undef = .pointer (some ⟨mb, 0, none⟩))
    (t5 : a.tmps.getD 5 undef = .int .i64 z)
    (LL : (Instr.loadAt 85 (.pointer (some ⟨mb, 0 + 0, none⟩))).run Tryz.prog w = .ok (lv) w) (CC : Calls Tryz.prog 46 #[lv, .int .i64 z] w fun e w1 => ∃ u2, e = .returned u2 ∧ ∃ w2, (Instr.storeAt 85 (.pointer (some ⟨mb, 0 + 0, none⟩)) u2).run Tryz.prog w1 = .ok () w2 ∧ Fin u2 w2)
    (h : ∀ (u2 : Value) (a' : Act) (w' : World), Fin u2 w' → a' = (((((((((a).put (some 28) (.pointer (some ⟨mb, 0, none⟩))).put (some 29) (.pointer (some ⟨mb, 0, none⟩))).put (some 30) (.pointer (some ⟨mb, 0, none⟩))).put (some 31) (.pointer (some ⟨mb, 0 + 0, none⟩))).put (some 32) (lv)).put (some 33) (.int .i64 z)).put (some 34) (u2)).put (some 35) (.pointer (some ⟨mb, 0, none⟩))).put (some 36) (.pointer (some ⟨mb, 0 + 0, none⟩)) → Q .normal a' w') :
    (Code.region 8 und8_ops false).wp Tryz.prog Q a w := by
  refine z0 rfl ?_
  refine zv rfl (xmv rfl (zi t0 rfl)) ?_
  refine zv rfl (xmv rfl (zi t0 rfl)) ?_
  refine zv rfl (xnc rfl (zg zz rfl)) ?_
  refine zv rfl (xfa rfl (zg zz rfl) (fg_87_0 _ _ _)) ?_
  refine zv rfl (xld rfl (zg zz rfl) LL) ?_
  refine zv rfl (xmv rfl (zi t5 rfl)) ?_
  refine zc rfl (exec_c2 rfl (zg zz rfl) (zg zz rfl)) (CC) (fun e x6 hx => ?_)
  obtain ⟨u2, rfl, w2, ES, HF⟩ := hx
  replace h := h u2
  refine ⟨_, rfl, ?_⟩
  refine zv rfl (xnc rfl (zg zz rfl)) ?_
  refine zv rfl (xfa rfl (zg zz rfl) (fg_87_0 _ _ _)) ?_
  refine zs rfl (exec_store rfl (zg zz rfl) (zg zz rfl) ES) ?_
  exact ze rfl (h _ _ (HF) rfl)
def und9_o0 : Oper := ⟨some 37, .move (.tmp 0), 27, "marks.go:80", #[], none⟩
def und9_o1 : Oper := ⟨some 38, .nilCheck (.tmp 37), 0, "marks.go:80", #[⟨0, .data⟩], none⟩
def und9_o2 : Oper := ⟨some 39, .fieldAddr 87 (.tmp 38) 1, 0, "marks.go:80", #[⟨1, .data⟩], none⟩
def und9_o3 : Oper := ⟨some 40, .load 84 (.tmp 39), 84, "marks.go:80", #[⟨2, .data⟩], none⟩
def und9_o4 : Oper := ⟨some 41, .load 36 (.tmp 3), 36, "marks.go:80", #[], none⟩
def und9_o5 : Oper := ⟨none, .call { callee := Callee.builtin Builtin.delete, args := #[.tmp 40, .tmp 41], argTypes := #[84, 36] }, 0, "marks.go:80", #[⟨3, .data⟩, ⟨4, .data⟩], none⟩
def und9_ops : Array Oper := #[und9_o0, und9_o1, und9_o2, und9_o3, und9_o4, und9_o5]
theorem und9 {mb ib b1 : Nat} {k : IdK} {w2 : World} (S : World → Prop) (a : Act) (w : World) (Q : Exit → Act → World → Prop) (zz : a.tmps.size = 42)
    (t0 : a.tmps.getD 0 undef = .pointer (some ⟨mb, 0, none⟩))
    (t3 : a.tmps.getD 3 undef = .pointer (some ⟨b1, 0, none⟩))
    (h0 : S w.drew) (LM : ∀ W, S W → (Instr.loadAt 84 (.pointer (some ⟨mb, 0 + 1, none⟩))).run Tryz.prog W = .ok (.map (some ib)) W) (LK : ∀ W, S W → (Instr.loadAt 36 (.pointer (some ⟨b1, 0, none⟩))).run Tryz.prog W = .ok (k.v) W) (ED : (Builtin.delete_ #[84, 36] 0 #[.map (some ib), k.v]).run Tryz.prog w.drew = .ok (.tuple #[]) w2)
    (h : ∀ (a' : Act) (w' : World), w' = w2 → a' = (((((a).put (some 37) (.pointer (some ⟨mb, 0, none⟩))).put (some 38) (.pointer (some ⟨mb, 0, none⟩))).put (some 39) (.pointer (some ⟨mb, 0 + 1, none⟩))).put (some 40) (.map (some ib))).put (some 41) (k.v) → Q .normal a' w') :
    (Code.region 9 und9_ops true).wp Tryz.prog Q a w := by
  refine x0 5 (fun w' => S w') (h0) (fun hHeld => ?_)
  refine xv 0 rfl rfl (fun w1 hw => xmv rfl (zi t0 rfl)) hHeld ?_
  refine xv 1 rfl rfl (fun w1 hw => xnc rfl (zg zz rfl)) hHeld ?_
  refine xv 2 rfl rfl (fun w1 hw => xfa rfl (zg zz rfl) (fg_87_1 _ _ _)) hHeld ?_
  refine xv 3 rfl rfl (fun w1 hw => xld rfl (zg zz rfl) (LM _ hw)) hHeld ?_
  refine xv 4 rfl rfl (fun w1 hw => xld rfl (zi t3 rfl) (LK _ hw)) hHeld ?_
  refine xd 5 rfl rfl (exec_delete rfl (zg zz rfl) (zg zz rfl) ED) (fun hne => absurd rfl hne) (fun _ => ?_)
  exact xe rfl (h _ _ (rfl) rfl)
def mln3_o0 : Oper := ⟨some 5, .move (.tmp 0), 27, "marks.go:99", #[], none⟩
def mln3_o1 : Oper := ⟨some 6, .nilCheck (.tmp 5), 0, "marks.go:99", #[⟨0, .data⟩], none⟩
def mln3_o2 : Oper := ⟨some 7, .fieldAddr 87 (.tmp 6) 0, 0, "marks.go:99", #[⟨1, .data⟩], none⟩
def mln3_o3 : Oper := ⟨some 8, .load 85 (.tmp 7), 85, "marks.go:99", #[⟨2, .data⟩], none⟩
def mln3_o4 : Oper := ⟨some 9, .call { callee := Callee.builtin Builtin.len, args := #[.tmp 8], argTypes := #[85] }, 3, "marks.go:99", #[⟨3, .data⟩], none⟩
def mln3_o5 : Oper := ⟨some 2, .assign (.tmp 9), 3, "marks.go:99", #[⟨4, .data⟩, ⟨0, .phase⟩, ⟨1, .phase⟩, ⟨2, .phase⟩, ⟨3, .phase⟩, ⟨4, .phase⟩], none⟩
def mln3_ops : Array Oper := #[mln3_o0, mln3_o1, mln3_o2, mln3_o3, mln3_o4, mln3_o5]
theorem mln3 {mb n c : Nat} {la : Option Addr} (a : Act) (w : World) (Q : Exit → Act → World → Prop) (zz : a.tmps.size = 10)
    (t0 : a.tmps.getD 0 undef = .pointer (some ⟨mb, 0, none⟩))
    (LL : (Instr.loadAt 85 (.pointer (some ⟨mb, 0 + 0, none⟩))).run Tryz.prog w = .ok (.slice la n c) w)
    (h : ∀ (a' : Act) (w' : World), w' = w → a' = ((((((a).put (some 5) (.pointer (some ⟨mb, 0, none⟩))).put (some 6) (.pointer (some ⟨mb, 0, none⟩))).put (some 7) (.pointer (some ⟨mb, 0 + 0, none⟩))).put (some 8) (.slice la n c)).put (some 9) (.int .i64 (n : Int))).put (some 2) (.int .i64 (n : Int)) → Q .normal a' w') :
    (Code.region 3 mln3_ops false).wp Tryz.prog Q a w := by
  refine z0 rfl ?_
  refine zv rfl (xmv rfl (zi t0 rfl)) ?_
  refine zv rfl (xnc rfl (zg zz rfl)) ?_
  refine zv rfl (xfa rfl (zg zz rfl) (fg_87_0 _ _ _)) ?_
  refine zv rfl (xld rfl (zg zz rfl) LL) ?_
  refine zv rfl (exec_len rfl (zg zz rfl) (len_mk _ _ _ _)) ?_
  refine zv rfl (xas rfl (zg zz rfl)) ?_
  exact ze rfl (h _ _ (rfl) rfl)
def bck1_o0 : Oper := ⟨some 13, .move (.tmp 0), 3, "law.go:117", #[], none⟩
def bck1_o1 : Oper := ⟨some 14, .call { callee := Callee.value (Operand.func 33), args := #[.tmp 13], argTypes := #[3] }, 3, "law.go:117", #[⟨0, .data⟩], none⟩
def bck1_o2 : Oper := ⟨some 15, .move (.tmp 1), 22, "law.go:117", #[], none⟩
def bck1_o3 : Oper := ⟨some 16, .call { callee := Callee.value (Operand.func 32), args := #[.tmp 14, .tmp 15], argTypes := #[3, 22] }, 60, "law.go:117", #[⟨1, .data⟩, ⟨2, .data⟩, ⟨1, .chain⟩], none⟩
def bck1_o4 : Oper := ⟨some 12, .move (.tmp 16), 60, "law.go:117", #[⟨3, .data⟩], none⟩
def bck1_o5 : Oper := ⟨some 17, .extract (.tmp 12) 0, 23, "law.go:117", #[⟨4, .data⟩], none⟩
def bck1_o6 : Oper := ⟨some 18, .extract (.tmp 12) 1, 27, "law.go:117", #[⟨4, .data⟩, { on := 8, ground := Ground.gcOnly Departure.lateStores }], none⟩
def bck1_o7 : Oper := ⟨some 19, .extract (.tmp 12) 2, 4, "law.go:117", #[⟨4, .data⟩, { on := 9, ground := Ground.gcOnly Departure.lateStores }], none⟩
def bck1_o8 : Oper := ⟨some 7, .assign (.tmp 17), 23, "law.go:117", #[⟨5, .data⟩, ⟨3, .chain⟩, ⟨0, .phase⟩, ⟨1, .phase⟩, ⟨2, .phase⟩, ⟨3, .phase⟩, ⟨4, .phase⟩, ⟨5, .phase⟩, { on := 6, ground := Ground.textOnly Departure.lateStores }, { on := 7, ground := Ground.textOnly Departure.lateStores }], none⟩
def bck1_o9 : Oper := ⟨some 8, .assign (.tmp 18), 27, "law.go:117", #[⟨6, .data⟩, ⟨8, .chain⟩, ⟨0, .phase⟩, ⟨1, .phase⟩, ⟨2, .phase⟩, ⟨3, .phase⟩, ⟨4, .phase⟩, ⟨5, .phase⟩, ⟨6, .phase⟩, { on := 7, ground := Ground.textOnly Departure.lateStores }, ⟨8, .phase⟩], none⟩
def bck1_o10 : Oper := ⟨some 9, .assign (.tmp 19), 4, "law.go:117", #[⟨7, .data⟩, ⟨9, .chain⟩, ⟨0, .phase⟩, ⟨1, .phase⟩, ⟨2, .phase⟩, ⟨3, .phase⟩, ⟨4, .phase⟩, ⟨5, .phase⟩, ⟨6, .phase⟩, ⟨7, .phase⟩, ⟨8, .phase⟩, ⟨9, .phase⟩], none⟩
def bck1_ops : Array Oper := #[bck1_o0, bck1_o1, bck1_o2, bck1_o3, bck1_o4, bck1_o5, bck1_o6, bck1_o7, bck1_o8, bck1_o9, bck1_o10]
theorem bck1 {n k : Int} {lv : Value} (Fin : Nat → Nat → World → Prop) (a : Act) (w : World) (Q : Exit → Act → World → Prop) (zz : a.tmps.size = 78)
    (t0 : a.tmps.getD 0 undef = .int .i64 n)
    (t1 : a.tmps.getD 1 undef = lv)
    (CS : Calls Tryz.prog 33 #[.int .i64 n] w fun e w1 => e = .returned (.int .i64 k) ∧ Calls Tryz.prog 32 #[.int .i64 k, lv] w1 fun e w2 => ∃ sb mb, e = .returned (.tuple #[.pointer (some ⟨sb, 0, none⟩), .pointer (some ⟨mb, 0, none⟩), .bool true]) ∧ Fin sb mb w2)
    (h : ∀ (sb mb : Nat) (a' : Act) (w' : World), Fin sb mb w' → a' = (((((((((((a).put (some 13) (.int .i64 n)).put (some 14) (.int .i64 k)).put (some 15) (lv)).put (some 16) (.tuple #[.pointer (some ⟨sb, 0, none⟩), .pointer (some ⟨mb, 0, none⟩), .bool true])).put (some 12) (.tuple #[.pointer (some ⟨sb, 0, none⟩), .pointer (some ⟨mb, 0, none⟩), .bool true])).put (some 17) (.pointer (some ⟨sb, 0, none⟩))).put (some 18) (.pointer (some ⟨mb, 0, none⟩))).put (some 19) (.bool true)).put (some 7) (.pointer (some ⟨sb, 0, none⟩))).put (some 8) (.pointer (some ⟨mb, 0, none⟩))).put (some 9) (.bool true) → Q .normal a' w') :
    (Code.region 1 bck1_ops false).wp Tryz.prog Q a w := by
  refine z0 rfl ?_
  refine zv rfl (xmv rfl (zi t0 rfl)) ?_
  refine zc rfl (exec_c1 rfl (zg zz rfl)) (CS) (fun e x1 hx => ?_)
  obtain ⟨rfl, CL⟩ := hx
  refine ⟨_, rfl, ?_⟩
  refine zv rfl (xmv rfl (zi t1 rfl)) ?_
  refine zc rfl (exec_c2 rfl (zg zz rfl) (zg zz rfl)) (CL) (fun e x3 hx => ?_)
  obtain ⟨sb, mb, rfl, HF⟩ := hx
  replace h := h sb mb
  refine ⟨_, rfl, ?_⟩
  refine zv rfl (xmv rfl (zg zz rfl)) ?_
  refine zv rfl (exec_extract rfl (zg zz rfl) rfl) ?_
  refine zv rfl (exec_extract rfl (zg zz rfl) rfl) ?_
  refine zv rfl (exec_extract rfl (zg zz rfl) rfl) ?_
  refine zv rfl (xas rfl (zg zz rfl)) ?_
  refine zv rfl (xas rfl (zg zz rfl)) ?_
  refine zv rfl (xas rfl (zg zz rfl)) ?_
  exact ze rfl (h _ _ (HF) rfl)
def bck4_o0 : Oper := ⟨some 22, .move (.tmp 8), 27, "law.go:121", #[], none⟩
def bck4_o1 : Oper := ⟨some 23, .move (.tmp 7), 23, "law.go:121", #[], none⟩
def bck4_o2 : Oper := ⟨some 24, .call { callee := Callee.value (Operand.func 25), args := #[.tmp 22, .tmp 23], argTypes := #[27, 23] }, 49, "law.go:121", #[⟨0, .data⟩, ⟨1, .data⟩], none⟩
def bck4_o3 : Oper := ⟨some 10, .assign (.tmp 24), 49, "law.go:121", #[⟨2, .data⟩, ⟨2, .chain⟩, ⟨0, .phase⟩, ⟨1, .phase⟩, ⟨2, .phase⟩], none⟩
def bck4_ops : Array Oper := #[bck4_o0, bck4_o1, bck4_o2, bck4_o3]
theorem bck4 {sb mb : Nat} (Fin : Value → World → Prop) (a : Act) (w : World) (Q : Exit → Act → World → Prop) (zz : a.tmps.size = 78)
    (t7 : a.tmps.getD 7 undef = .pointer (some ⟨sb, 0, none⟩))
    (t8 : a.tmps.getD 8 undef = .pointer (some ⟨mb, 0, none⟩))
    (CP : Calls Tryz.prog 25 #[.pointer (some ⟨mb, 0, none⟩), .pointer (some ⟨sb, 0, none⟩)] w fun e w1 => ∃ v, e = .returned v ∧ Fin v w1)
    (h : ∀ (v : Value) (a' : Act) (w' : World), Fin v w' → a' = ((((a).put (some 22) (.pointer (some ⟨mb, 0, none⟩))).put (some 23) (.pointer (some ⟨sb, 0, none⟩))).put (some 24) (v)).put (some 10) (v) → Q .normal a' w') :
    (Code.region 4 bck4_ops false).wp Tryz.prog Q a w := by
  refine z0 rfl ?_
  refine zv rfl (xmv rfl (zi t8 rfl)) ?_
  refine zv rfl (xmv rfl (zi t7 rfl)) ?_
  refine zc rfl (exec_c2 rfl (zg zz rfl) (zg zz rfl)) (CP) (fun e x2 hx => ?_)
  obtain ⟨v, rfl, HF⟩ := hx
  replace h := h v
  refine ⟨_, rfl, ?_⟩
  refine zv rfl (xas rfl (zg zz rfl)) ?_
  exact ze rfl (h _ _ (HF) rfl)
def bck5_o0 : Oper := ⟨some 25, .move (.tmp 8), 27, "law.go:122", #[], none⟩
def bck5_o1 : Oper := ⟨some 26, .call { callee := Callee.value (Operand.func 27), args := #[.tmp 25], argTypes := #[27] }, 3, "law.go:122", #[⟨0, .data⟩], none⟩
def bck5_o2 : Oper := ⟨some 11, .assign (.tmp 26), 3, "law.go:122", #[⟨1, .data⟩, ⟨1, .chain⟩, ⟨0, .phase⟩, ⟨1, .phase⟩], none⟩
def bck5_ops : Array Oper := #[bck5_o0, bck5_o1, bck5_o2]
theorem bck5 {mb : Nat} {k : Int} (Fin : World → Prop) (a : Act) (w : World) (Q : Exit → Act → World → Prop) (zz : a.tmps.size = 78)
    (t8 : a.tmps.getD 8 undef = .pointer (some ⟨mb, 0, none⟩))
    (CN : Calls Tryz.prog 27 #[.pointer (some ⟨mb, 0, none⟩)] w fun e w1 => e = .returned (.int .i64 k) ∧ Fin w1)
    (h : ∀ (a' : Act) (w' : World), Fin w' → a' = (((a).put (some 25) (.pointer (some ⟨mb, 0, none⟩))).put (some 26) (.int .i64 k)).put (some 11) (.int .i64 k) → Q .normal a' w') :
    (Code.region 5 bck5_ops false).wp Tryz.prog Q a w := by
  refine z0 rfl ?_
  refine zv rfl (xmv rfl (zi t8 rfl)) ?_
  refine zc rfl (exec_c1 rfl (zg zz rfl)) (CN) (fun e x1 hx => ?_)
  obtain ⟨rfl, HF⟩ := hx
  refine ⟨_, rfl, ?_⟩
  refine zv rfl (xas rfl (zg zz rfl)) ?_
  exact ze rfl (h _ _ (HF) rfl)
def bck6_o0 : Oper := ⟨some 27, .move (.tmp 8), 27, "law.go:123", #[], none⟩
def bck6_o1 : Oper := ⟨some 28, .fieldAddr 42 (.tmp 5) 1, 0, "law.go:123", #[], none⟩
def bck6_o2 : Oper := ⟨some 29, .load 36 (.tmp 28), 36, "law.go:123", #[⟨1, .data⟩], none⟩
def bck6_o3 : Oper := ⟨some 30, .fieldAddr 42 (.tmp 5) 4, 0, "law.go:123", #[], none⟩
def bck6_o4 : Oper := ⟨some 31, .load 9 (.tmp 30), 9, "law.go:123", #[⟨3, .data⟩], none⟩
def bck6_o5 : Oper := ⟨some 32, .fieldAddr 42 (.tmp 5) 5, 0, "law.go:123", #[], none⟩
def bck6_o6 : Oper := ⟨some 33, .load 40 (.tmp 32), 40, "law.go:123", #[⟨5, .data⟩], none⟩
def bck6_o7 : Oper := ⟨some 34, .fieldAddr 42 (.tmp 5) 2, 0, "law.go:123", #[], none⟩
def bck6_o8 : Oper := ⟨some 35, .load 36 (.tmp 34), 36, "law.go:123", #[⟨7, .data⟩], none⟩
def bck6_o9 : Oper := ⟨some 36, .fieldAddr 42 (.tmp 5) 3, 0, "law.go:123", #[], none⟩
def bck6_o10 : Oper := ⟨some 37, .load 36 (.tmp 36), 36, "law.go:123", #[⟨9, .data⟩], none⟩
def bck6_o11 : Oper := ⟨some 38, .fieldAddr 42 (.tmp 5) 6, 0, "law.go:123", #[], none⟩
def bck6_o12 : Oper := ⟨some 39, .load 3 (.tmp 38), 3, "law.go:123", #[⟨11, .data⟩], none⟩
def bck6_o13 : Oper := ⟨some 40, .call { callee := Callee.value (Operand.func 12), args := #[.tmp 27, .tmp 29, .tmp 31, .tmp 33, .tmp 35, .tmp 37, .tmp 39], argTypes := #[27, 36, 9, 40, 36, 36, 3] }, 43, "law.go:123", #[⟨0, .data⟩, ⟨2, .data⟩, ⟨4, .data⟩, ⟨6, .data⟩, ⟨8, .data⟩, ⟨10, .data⟩, ⟨12, .data⟩], none⟩
def bck6_o14 : Oper := ⟨some 41, .binOp BinOp.neq 43 (.tmp 40) (Operand.const (Value.int IntKind.i64 0)) 43, 4, "law.go:123", #[⟨13, .data⟩], none⟩
def bck6_ops : Array Oper := #[bck6_o0, bck6_o1, bck6_o2, bck6_o3, bck6_o4, bck6_o5, bck6_o6, bck6_o7, bck6_o8, bck6_o9, bck6_o10, bck6_o11, bck6_o12, bck6_o13, bck6_o14]
theorem bck6 {mb ob : Nat} {x : MkV} {c : Int} {r : Bool} (Fin : World → Prop) (a : Act) (w : World) (Q : Exit → Act → World → Prop) (zz : a.tmps.size = 78)
    (t5 : a.tmps.getD 5 undef = .pointer (some ⟨ob, 0, none⟩))
    (t8 : a.tmps.getD 8 undef = .pointer (some ⟨mb, 0, none⟩))
    (hz : decide (c ≠ 0) = r) (L0 : (Instr.loadAt 36 (.pointer (some ⟨ob, 0 + 1, none⟩))).run Tryz.prog w = .ok (x.id.v) w) (L1 : (Instr.loadAt 9 (.pointer (some ⟨ob, 0 + 100, none⟩))).run Tryz.prog w = .ok (.string x.nm) w) (L2 : (Instr.loadAt 40 (.pointer (some ⟨ob, 0 + 101, none⟩))).run Tryz.prog w = .ok (x.v.v) w) (L3 : (Instr.loadAt 36 (.pointer (some ⟨ob, 0 + 34, none⟩))).run Tryz.prog w = .ok (x.fr.v) w) (L4 : (Instr.loadAt 36 (.pointer (some ⟨ob, 0 + 67, none⟩))).run Tryz.prog w = .ok (x.to.v) w) (L5 : (Instr.loadAt 3 (.pointer (some ⟨ob, 0 + 105, none⟩))).run Tryz.prog w = .ok (.int .i64 x.sd) w) (CA : Calls Tryz.prog 12 #[.pointer (some ⟨mb, 0, none⟩), x.id.v, .string x.nm, x.v.v, x.fr.v, x.to.v, .int .i64 x.sd] w fun e w1 => e = .returned (.int .i64 c) ∧ Fin w1)
    (h : ∀ (a' : Act) (w' : World), Fin w' → a' = (((((((((((((((a).put (some 27) (.pointer (some ⟨mb, 0, none⟩))).put (some 28) (.pointer (some ⟨ob, 0 + 1, none⟩))).put (some 29) (x.id.v)).put (some 30) (.pointer (some ⟨ob, 0 + 100, none⟩))).put (some 31) (.string x.nm)).put (some 32) (.pointer (some ⟨ob, 0 + 101, none⟩))).put (some 33) (x.v.v)).put (some 34) (.pointer (some ⟨ob, 0 + 34, none⟩))).put (some 35) (x.fr.v)).put (some 36) (.pointer (some ⟨ob, 0 + 67, none⟩))).put (some 37) (x.to.v)).put (some 38) (.pointer (some ⟨ob, 0 + 105, none⟩))).put (some 39) (.int .i64 x.sd)).put (some 40) (.int .i64 c)).put (some 41) (.bool r) → Q .normal a' w') :
    (Code.region 6 bck6_ops false).wp Tryz.prog Q a w := by
  refine z0 rfl ?_
  refine zv rfl (xmv rfl (zi t8 rfl)) ?_
  refine zv rfl (xfa rfl (zi t5 rfl) (fg_42_1 _ _ _)) ?_
  refine zv rfl (xld rfl (zg zz rfl) L0) ?_
  refine zv rfl (xfa rfl (zi t5 rfl) (fg_42_4 _ _ _)) ?_
  refine zv rfl (xld rfl (zg zz rfl) L1) ?_
  refine zv rfl (xfa rfl (zi t5 rfl) (fg_42_5 _ _ _)) ?_
  refine zv rfl (xld rfl (zg zz rfl) L2) ?_
  refine zv rfl (xfa rfl (zi t5 rfl) (fg_42_2 _ _ _)) ?_
  refine zv rfl (xld rfl (zg zz rfl) L3) ?_
  refine zv rfl (xfa rfl (zi t5 rfl) (fg_42_3 _ _ _)) ?_
  refine zv rfl (xld rfl (zg zz rfl) L4) ?_
  refine zv rfl (xfa rfl (zi t5 rfl) (fg_42_6 _ _ _)) ?_
  refine zv rfl (xld rfl (zg zz rfl) L5) ?_
  refine zc rfl (exec_c7 rfl (zg zz rfl) (zg zz rfl) (zg zz rfl) (zg zz rfl) (zg zz rfl) (zg zz rfl) (zg zz rfl)) (CA) (fun e x13 hx => ?_)
  obtain ⟨rfl, HF⟩ := hx
  refine ⟨_, rfl, ?_⟩
  refine zv (v := .bool r) rfl (ex_neqE rfl (zg zz rfl) rfl hz) ?_
  exact ze rfl (h _ _ (HF) rfl)
def bck7_o0 : Oper := ⟨some 42, .move (.tmp 8), 27, "law.go:124", #[], none⟩
def bck7_o1 : Oper := ⟨some 43, .call { callee := Callee.value (Operand.func 27), args := #[.tmp 42], argTypes := #[27] }, 3, "law.go:124", #[⟨0, .data⟩], none⟩
def bck7_o2 : Oper := ⟨some 44, .move (.tmp 11), 3, "law.go:124", #[], none⟩
def bck7_o3 : Oper := ⟨some 45, .binOp BinOp.eql 3 (.tmp 43) (.tmp 44) 3, 4, "law.go:124", #[⟨1, .data⟩, ⟨2, .data⟩], none⟩
def bck7_o4 : Oper := ⟨some 46, .move (.tmp 45), 4, "law.go:124", #[⟨3, .data⟩, ⟨1, .chain⟩], none⟩
def bck7_o5 : Oper := ⟨some 47, .move (.tmp 8), 27, "law.go:124", #[⟨4, .guard⟩], some (4, true)⟩
def bck7_o6 : Oper := ⟨some 48, .move (.tmp 7), 23, "law.go:124", #[⟨4, .guard⟩], some (4, true)⟩
def bck7_o7 : Oper := ⟨some 49, .call { callee := Callee.value (Operand.func 25), args := #[.tmp 47, .tmp 48], argTypes := #[27, 23] }, 49, "law.go:124", #[⟨5, .data⟩, ⟨6, .data⟩, ⟨4, .chain⟩, ⟨4, .guard⟩], some (4, true)⟩
def bck7_o8 : Oper := ⟨some 50, .move (.tmp 10), 49, "law.go:124", #[⟨4, .guard⟩], some (4, true)⟩
def bck7_o9 : Oper := ⟨some 51, .call { callee := Callee.value (Operand.func 22), args := #[.tmp 49, .tmp 50], argTypes := #[49, 49] }, 4, "law.go:124", #[⟨7, .data⟩, ⟨8, .data⟩, ⟨7, .chain⟩, ⟨4, .guard⟩], some (4, true)⟩
def bck7_o10 : Oper := ⟨some 52, .pick (.tmp 46) (.tmp 51) (Operand.const (Value.bool false)), 4, "law.go:124", #[⟨4, .data⟩, ⟨9, .data⟩], none⟩
def bck7_o11 : Oper := ⟨some 6, .assign (.tmp 52), 4, "law.go:124", #[⟨10, .data⟩, ⟨9, .chain⟩, ⟨0, .phase⟩, ⟨1, .phase⟩, ⟨2, .phase⟩, ⟨3, .phase⟩, ⟨4, .phase⟩, ⟨5, .phase⟩, ⟨6, .phase⟩, ⟨7, .phase⟩, ⟨8, .phase⟩, ⟨9, .phase⟩, ⟨10, .phase⟩], none⟩
def bck7_ops : Array Oper := #[bck7_o0, bck7_o1, bck7_o2, bck7_o3, bck7_o4, bck7_o5, bck7_o6, bck7_o7, bck7_o8, bck7_o9, bck7_o10, bck7_o11]
theorem bck7 {sb mb : Nat} {v0 : Value} {k : Int} (Fin : World → Prop) (a : Act) (w : World) (Q : Exit → Act → World → Prop) (zz : a.tmps.size = 78)
    (t7 : a.tmps.getD 7 undef = .pointer (some ⟨sb, 0, none⟩))
    (t8 : a.tmps.getD 8 undef = .pointer (some ⟨mb, 0, none⟩))
    (t10 : a.tmps.getD 10 undef = v0)
    (t11 : a.tmps.getD 11 undef = .int .i64 k)
    (C1 : Calls Tryz.prog 27 #[.pointer (some ⟨mb, 0, none⟩)] w fun e w1 => e = .returned (.int .i64 k) ∧ Calls Tryz.prog 25 #[.pointer (some ⟨mb, 0, none⟩), .pointer (some ⟨sb, 0, none⟩)] w1 fun e w2 => ∃ v, e = .returned v ∧ Calls Tryz.prog 22 #[v, v0] w2 fun e w3 => e = .returned (.bool true) ∧ Fin w3)
    (h : ∀ (v : Value) (a' : Act) (w' : World), Fin w' → a' = ((((((((((((a).put (some 42) (.pointer (some ⟨mb, 0, none⟩))).put (some 43) (.int .i64 k)).put (some 44) (.int .i64 k)).put (some 45) (.bool true)).put (some 46) (.bool true)).put (some 47) (.pointer (some ⟨mb, 0, none⟩))).put (some 48) (.pointer (some ⟨sb, 0, none⟩))).put (some 49) (v)).put (some 50) (v0)).put (some 51) (.bool true)).put (some 52) (.bool true)).put (some 6) (.bool true) → Q .normal a' w') :
    (Code.region 7 bck7_ops false).wp Tryz.prog Q a w := by
  refine z0 rfl ?_
  refine zv rfl (xmv rfl (zi t8 rfl)) ?_
  refine zc rfl (exec_c1 rfl (zg zz rfl)) (C1) (fun e x1 hx => ?_)
  obtain ⟨rfl, C2⟩ := hx
  refine ⟨_, rfl, ?_⟩
  refine zv rfl (xmv rfl (zi t11 rfl)) ?_
  refine zv (v := .bool true) rfl (ex_eql rfl (zg zz rfl) (zg zz rfl) (decide_eq_true rfl)) ?_
  refine zv rfl (xmv rfl (zg zz rfl)) ?_
  refine zv (zw zz rfl rfl rfl (zg zz rfl)) (xmv rfl (zi t8 rfl)) ?_
  refine zv (zw zz rfl rfl rfl (zg zz rfl)) (xmv rfl (zi t7 rfl)) ?_
  refine zc (zw zz rfl rfl rfl (zg zz rfl)) (exec_c2 rfl (zg zz rfl) (zg zz rfl)) (C2) (fun e x7 hx => ?_)
  obtain ⟨v, rfl, C3⟩ := hx
  replace h := h v
  refine ⟨_, rfl, ?_⟩
  refine zv (zw zz rfl rfl rfl (zg zz rfl)) (xmv rfl (zi t10 rfl)) ?_
  refine zc (zw zz rfl rfl rfl (zg zz rfl)) (exec_c2 rfl (zg zz rfl) (zg zz rfl)) (C3) (fun e x9 hx => ?_)
  obtain ⟨rfl, HF⟩ := hx
  refine ⟨_, rfl, ?_⟩
  refine zv rfl (exec_pickT rfl (zg zz rfl) (zg zz rfl)) ?_
  refine zv rfl (xas rfl (zg zz rfl)) ?_
  exact ze rfl (h _ _ (HF) rfl)
def bck8_o0 : Oper := ⟨some 53, .move (.tmp 8), 27, "law.go:126", #[], none⟩
def bck8_o1 : Oper := ⟨some 54, .call { callee := Callee.value (Operand.func 27), args := #[.tmp 53], argTypes := #[27] }, 3, "law.go:126", #[⟨0, .data⟩], none⟩
def bck8_o2 : Oper := ⟨some 55, .move (.tmp 11), 3, "law.go:126", #[], none⟩
def bck8_o3 : Oper := ⟨some 56, .binOp BinOp.add 3 (.tmp 55) (Operand.const (Value.int IntKind.i64 1)) 3, 3, "law.go:126", #[⟨2, .data⟩], none⟩
def bck8_o4 : Oper := ⟨some 57, .binOp BinOp.eql 3 (.tmp 54) (.tmp 56) 3, 4, "law.go:126", #[⟨1, .data⟩, ⟨3, .data⟩], none⟩
def bck8_o5 : Oper := ⟨some 58, .move (.tmp 57), 4, "law.go:126", #[⟨4, .data⟩, ⟨1, .chain⟩], none⟩
def bck8_o6 : Oper := ⟨some 59, .move (.tmp 8), 27, "law.go:126", #[⟨5, .guard⟩], some (5, true)⟩
def bck8_o7 : Oper := ⟨some 60, .fieldAddr 42 (.tmp 5) 1, 0, "law.go:126", #[⟨5, .guard⟩], some (5, true)⟩
def bck8_o8 : Oper := ⟨some 61, .load 36 (.tmp 60), 36, "law.go:126", #[⟨7, .data⟩, ⟨5, .guard⟩], some (5, true)⟩
def bck8_o9 : Oper := ⟨some 62, .call { callee := Callee.value (Operand.func 14), args := #[.tmp 59, .tmp 61], argTypes := #[27, 36] }, 43, "law.go:126", #[⟨6, .data⟩, ⟨8, .data⟩, ⟨5, .chain⟩, ⟨5, .guard⟩], some (5, true)⟩
def bck8_o10 : Oper := ⟨some 63, .binOp BinOp.eql 43 (.tmp 62) (Operand.const (Value.int IntKind.i64 0)) 43, 4, "law.go:126", #[⟨9, .data⟩, ⟨5, .guard⟩], some (5, true)⟩
def bck8_o11 : Oper := ⟨some 64, .pick (.tmp 58) (.tmp 63) (Operand.const (Value.bool false)), 4, "law.go:126", #[⟨5, .data⟩, ⟨10, .data⟩], none⟩
def bck8_o12 : Oper := ⟨some 65, .move (.tmp 64), 4, "law.go:126", #[⟨11, .data⟩, ⟨9, .chain⟩], none⟩
def bck8_o13 : Oper := ⟨some 66, .move (.tmp 8), 27, "law.go:126", #[⟨12, .guard⟩], some (12, true)⟩
def bck8_o14 : Oper := ⟨some 67, .call { callee := Callee.value (Operand.func 27), args := #[.tmp 66], argTypes := #[27] }, 3, "law.go:126", #[⟨13, .data⟩, ⟨12, .chain⟩, ⟨12, .guard⟩], some (12, true)⟩
def bck8_o15 : Oper := ⟨some 68, .move (.tmp 11), 3, "law.go:126", #[⟨12, .guard⟩], some (12, true)⟩
def bck8_o16 : Oper := ⟨some 69, .binOp BinOp.eql 3 (.tmp 67) (.tmp 68) 3, 4, "law.go:126", #[⟨14, .data⟩, ⟨15, .data⟩, ⟨12, .guard⟩], some (12, true)⟩
def bck8_o17 : Oper := ⟨some 70, .pick (.tmp 65) (.tmp 69) (Operand.const (Value.bool false)), 4, "law.go:126", #[⟨12, .data⟩, ⟨16, .data⟩], none⟩
def bck8_o18 : Oper := ⟨some 71, .move (.tmp 70), 4, "law.go:126", #[⟨17, .data⟩, ⟨14, .chain⟩], none⟩
def bck8_o19 : Oper := ⟨some 72, .move (.tmp 8), 27, "law.go:126", #[⟨18, .guard⟩], some (18, true)⟩
def bck8_o20 : Oper := ⟨some 73, .move (.tmp 7), 23, "law.go:126", #[⟨18, .guard⟩], some (18, true)⟩
def bck8_o21 : Oper := ⟨some 74, .call { callee := Callee.value (Operand.func 25), args := #[.tmp 72, .tmp 73], argTypes := #[27, 23] }, 49, "law.go:126", #[⟨19, .data⟩, ⟨20, .data⟩, ⟨18, .chain⟩, ⟨18, .guard⟩], some (18, true)⟩
def bck8_o22 : Oper := ⟨some 75, .move (.tmp 10), 49, "law.go:126", #[⟨18, .guard⟩], some (18, true)⟩
def bck8_o23 : Oper := ⟨some 76, .call { callee := Callee.value (Operand.func 22), args := #[.tmp 74, .tmp 75], argTypes := #[49, 49] }, 4, "law.go:126", #[⟨21, .data⟩, ⟨22, .data⟩, ⟨21, .chain⟩, ⟨18, .guard⟩], some (18, true)⟩
def bck8_o24 : Oper := ⟨some 77, .pick (.tmp 71) (.tmp 76) (Operand.const (Value.bool false)), 4, "law.go:126", #[⟨18, .data⟩, ⟨23, .data⟩], none⟩
def bck8_o25 : Oper := ⟨some 6, .assign (.tmp 77), 4, "law.go:126", #[⟨24, .data⟩, ⟨23, .chain⟩, ⟨0, .phase⟩, ⟨1, .phase⟩, ⟨2, .phase⟩, ⟨3, .phase⟩, ⟨4, .phase⟩, ⟨5, .phase⟩, ⟨6, .phase⟩, ⟨7, .phase⟩, ⟨8, .phase⟩, ⟨9, .phase⟩, ⟨10, .phase⟩, ⟨11, .phase⟩, ⟨12, .phase⟩, ⟨13, .phase⟩, ⟨14, .phase⟩, ⟨15, .phase⟩, ⟨16, .phase⟩, ⟨17, .phase⟩, ⟨18, .phase⟩, ⟨19, .phase⟩, ⟨20, .phase⟩, ⟨21, .phase⟩, ⟨22, .phase⟩, ⟨23, .phase⟩, ⟨24, .phase⟩], none⟩
def bck8_ops : Array Oper := #[bck8_o0, bck8_o1, bck8_o2, bck8_o3, bck8_o4, bck8_o5, bck8_o6, bck8_o7, bck8_o8, bck8_o9, bck8_o10, bck8_o11, bck8_o12, bck8_o13, bck8_o14, bck8_o15, bck8_o16, bck8_o17, bck8_o18, bck8_o19, bck8_o20, bck8_o21, bck8_o22, bck8_o23, bck8_o24, bck8_o25]
theorem bck8 {sb mb ob : Nat} {x : MkV} {v0 : Value} {k : Int} (Fin : World → Prop) (a : Act) (w : World) (Q : Exit → Act → World → Prop) (zz : a.tmps.size = 78)
    (t5 : a.tmps.getD 5 undef = .pointer (some ⟨ob, 0, none⟩))
    (t7 : a.tmps.getD 7 undef = .pointer (some ⟨sb, 0, none⟩))
    (t8 : a.tmps.getD 8 undef = .pointer (some ⟨mb, 0, none⟩))
    (t10 : a.tmps.getD 10 undef = v0)
    (t11 : a.tmps.getD 11 undef = .int .i64 k)
    (hb : -9223372036854775808 ≤ k + 1 ∧ k + 1 ≤ 9223372036854775807) (C1 : Calls Tryz.prog 27 #[.pointer (some ⟨mb, 0, none⟩)] w fun e w1 => e = .returned (.int .i64 (k + 1)) ∧ (Instr.loadAt 36 (.pointer (some ⟨ob, 0 + 1, none⟩))).run Tryz.prog w1 = .ok x.id.v w1 ∧ Calls Tryz.prog 14 #[.pointer (some ⟨mb, 0, none⟩), x.id.v] w1 fun e w2 => e = .returned (.int .i64 0) ∧ Calls Tryz.prog 27 #[.pointer (some ⟨mb, 0, none⟩)] w2 fun e w3 => e = .returned (.int .i64 k) ∧ Calls Tryz.prog 25 #[.pointer (some ⟨mb, 0, none⟩), .pointer (some ⟨sb, 0, none⟩)] w3 fun e w4 => ∃ v, e = .returned v ∧ Calls Tryz.prog 22 #[v, v0] w4 fun e w5 => e = .returned (.bool true) ∧ Fin w5)
    (h : ∀ (v : Value) (a' : Act) (w' : World), Fin w' → a' = ((((((((((((((((((((((((((a).put (some 53) (.pointer (some ⟨mb, 0, none⟩))).put (some 54) (.int .i64 (k + 1))).put (some 55) (.int .i64 k)).put (some 56) (.int .i64 (k + 1))).put (some 57) (.bool true)).put (some 58) (.bool true)).put (some 59) (.pointer (some ⟨mb, 0, none⟩))).put (some 60) (.pointer (some ⟨ob, 0 + 1, none⟩))).put (some 61) (x.id.v)).put (some 62) (.int .i64 0)).put (some 63) (.bool true)).put (some 64) (.bool true)).put (some 65) (.bool true)).put (some 66) (.pointer (some ⟨mb, 0, none⟩))).put (some 67) (.int .i64 k)).put (some 68) (.int .i64 k)).put (some 69) (.bool true)).put (some 70) (.bool true)).put (some 71) (.bool true)).put (some 72) (.pointer (some ⟨mb, 0, none⟩))).put (some 73) (.pointer (some ⟨sb, 0, none⟩))).put (some 74) (v)).put (some 75) (v0)).put (some 76) (.bool true)).put (some 77) (.bool true)).put (some 6) (.bool true) → Q .normal a' w') :
    (Code.region 8 bck8_ops false).wp Tryz.prog Q a w := by
  refine z0 rfl ?_
  refine zv rfl (xmv rfl (zi t8 rfl)) ?_
  refine zc rfl (exec_c1 rfl (zg zz rfl)) (C1) (fun e x1 hx => ?_)
  obtain ⟨rfl, LI, C2⟩ := hx
  refine ⟨_, rfl, ?_⟩
  refine zv rfl (xmv rfl (zi t11 rfl)) ?_
  refine zv (v := .int .i64 (k + 1)) rfl (ex_add rfl (zg zz rfl) rfl hb) ?_
  refine zv (v := .bool true) rfl (ex_eql rfl (zg zz rfl) (zg zz rfl) (decide_eq_true rfl)) ?_
  refine zv rfl (xmv rfl (zg zz rfl)) ?_
  refine zv (zw zz rfl rfl rfl (zg zz rfl)) (xmv rfl (zi t8 rfl)) ?_
  refine zv (zw zz rfl rfl rfl (zg zz rfl)) (xfa rfl (zi t5 rfl) (fg_42_1 _ _ _)) ?_
  refine zv (zw zz rfl rfl rfl (zg zz rfl)) (xld rfl (zg zz rfl) LI) ?_
  refine zc (zw zz rfl rfl rfl (zg zz rfl)) (exec_c2 rfl (zg zz rfl) (zg zz rfl)) (C2) (fun e x9 hx => ?_)
  obtain ⟨rfl, C3⟩ := hx
  refine ⟨_, rfl, ?_⟩
  refine zv (v := .bool true) (zw zz rfl rfl rfl (zg zz rfl)) (ex_eqlE rfl (zg zz rfl) rfl (decide_eq_true rfl)) ?_
  refine zv rfl (exec_pickT rfl (zg zz rfl) (zg zz rfl)) ?_
  refine zv rfl (xmv rfl (zg zz rfl)) ?_
  refine zv (zw zz rfl rfl rfl (zg zz rfl)) (xmv rfl (zi t8 rfl)) ?_
  refine zc (zw zz rfl rfl rfl (zg zz rfl)) (exec_c1 rfl (zg zz rfl)) (C3) (fun e x14 hx => ?_)
  obtain ⟨rfl, C4⟩ := hx
  refine ⟨_, rfl, ?_⟩
  refine zv (zw zz rfl rfl rfl (zg zz rfl)) (xmv rfl (zi t11 rfl)) ?_
  refine zv (v := .bool true) (zw zz rfl rfl rfl (zg zz rfl)) (ex_eql rfl (zg zz rfl) (zg zz rfl) (decide_eq_true rfl)) ?_
  refine zv rfl (exec_pickT rfl (zg zz rfl) (zg zz rfl)) ?_
  refine zv rfl (xmv rfl (zg zz rfl)) ?_
  refine zv (zw zz rfl rfl rfl (zg zz rfl)) (xmv rfl (zi t8 rfl)) ?_
  refine zv (zw zz rfl rfl rfl (zg zz rfl)) (xmv rfl (zi t7 rfl)) ?_
  refine zc (zw zz rfl rfl rfl (zg zz rfl)) (exec_c2 rfl (zg zz rfl) (zg zz rfl)) (C4) (fun e x21 hx => ?_)
  obtain ⟨v, rfl, C5⟩ := hx
  replace h := h v
  refine ⟨_, rfl, ?_⟩
  refine zv (zw zz rfl rfl rfl (zg zz rfl)) (xmv rfl (zi t10 rfl)) ?_
  refine zc (zw zz rfl rfl rfl (zg zz rfl)) (exec_c2 rfl (zg zz rfl) (zg zz rfl)) (C5) (fun e x23 hx => ?_)
  obtain ⟨rfl, HF⟩ := hx
  refine ⟨_, rfl, ?_⟩
  refine zv rfl (exec_pickT rfl (zg zz rfl) (zg zz rfl)) ?_
  refine zv rfl (xas rfl (zg zz rfl)) ?_
  exact ze rfl (h _ _ (HF) rfl)
theorem belN2 (w : World) (a b : Obj) : Below w.heap.size w ((w.alloc a).alloc b) := ((Below.refl _ _).alloc (Nat.le_refl _) _).alloc (by simp) _
section
open Ieee
theorem signed_zero {s : Bool} {m k : Nat} (h : signed s m k = 0) : m = 0 := by
  unfold signed at h
  rw [Nat.shiftLeft_eq] at h
  generalize hz : m * 2 ^ k = z at h
  have : m * 2 ^ k = 0 := by
    cases s
    · simp at h; omega
    · simp at h; omega
  rcases Nat.mul_eq_zero.1 this with h | h
  · exact h
  · exact absurd h (by have := Nat.two_pow_pos k; omega)
theorem ord_zero {f : Nat} (h : (Ieee.double.order f 0 == some .eq) = true) : f % 2 ^ 63 = 0 := by
  have e1 : Ieee.double.signWeight = 2 ^ 63 := rfl
  have e2 : Ieee.double.binade = 2 ^ 52 := rfl
  have e3 : Ieee.double.infRung = 2047 * 2 ^ 52 := rfl
  have h' : Ieee.double.order f 0 = some .eq := by simpa using h
  have z : Ieee.double.read 0 = .number false 0 Ieee.double.leastPlace := by decide +kernel
  have key : ∀ s m i, Datum.order (.number s m i) (.number false 0 Ieee.double.leastPlace) = some .eq → m = 0 := fun s m i q => by
    simp only [Datum.order, Option.some.injEq] at q
    have q2 := Std.LawfulEqCmp.eq_of_compare q
    have : signed false 0 (Ieee.double.leastPlace - min i Ieee.double.leastPlace).toNat = 0 := by simp [signed]
    rw [this] at q2
    exact signed_zero q2
  unfold Ieee.Format.order at h'
  rw [z] at h'
  unfold Ieee.Format.read at h'
  rw [e1, e2, e3] at h'
  simp only at h'
  split at h'
  · exact key _ _ _ h'
  · split at h'
    · have := key _ _ _ h'
      omega
    · split at h'
      · simp only [Datum.order, Option.some.injEq] at h'
        split at h' <;> cases h'
      · cases h'
end
theorem f_zero {f : Nat} (hf : f < 18446744073709551616) (h : (FloatKind.f64.format.order f 0 == some .eq) = true) : f = 0 ∨ f = 9223372036854775808 := by
  have := ord_zero h
  omega
theorem same_self {x : VaV} (hx : x.ok) (w : World) : Calls Tryz.prog 53 #[x.v, x.v] w fun e w' => e = .returned (.bool true) ∧ Below w.heap.size w w' := by
  obtain ⟨k, n, f, t⟩ := x
  have hf := hx.ff
  simp only at hf
  clear hx
  show Calls Tryz.prog 53 #[.agg #[.int .u8 k, .int .i64 n, .float .f64 f, .string t], .agg #[.int .u8 k, .int .i64 n, .float .f64 f, .string t]] w _
  have k1 : (k != k) = false := by simp
  have n1 : (n != n) = false := by simp
  have t1 : (t.toList != t.toList) = false := by simp
  by_cases z1 : (FloatKind.f64.format.order f f == some .eq) = true
  · have z2 : (FloatKind.f64.format.order f f != some .eq) = false := by rw [bne, z1]; rfl
    by_cases z3 : (FloatKind.f64.format.order f 0 == some .eq) = true
    · have z4 : (FloatKind.f64.format.order f 0 != some .eq) = false := by rw [bne, z3]; rfl
      obtain ⟨q, hq, hqq⟩ : ∃ q, (∀ W, (binOp .quo 38 (.float .f64 4607182418800017408) (.float .f64 f)).run Tryz.prog W = .ok (.float .f64 q) W) ∧ (FloatKind.f64.format.order q q == some .eq) = true := by
        rcases f_zero hf z3 with rfl | rfl
        · exact ⟨9218868437227405312, fun W => run_float_arith W .quo 38 .f64 _ _ _ (by decide +kernel), by decide +kernel⟩
        · exact ⟨18442240474082181120, fun W => run_float_arith W .quo 38 .f64 _ _ _ (by decide +kernel), by decide +kernel⟩
      clear hf
      go_enter Tryz.func53, Tryz.ntmps53
      go_wp2
      go_ret
      exact ⟨rfl, belN2 _ _ _⟩
    · replace z3 : (FloatKind.f64.format.order f 0 == some .eq) = false := by simpa using z3
      have z4 : (FloatKind.f64.format.order f 0 != some .eq) = true := by rw [bne, z3]; rfl
      clear hf
      go_enter Tryz.func53, Tryz.ntmps53
      go_wp2
      go_ret
      exact ⟨rfl, belN2 _ _ _⟩
  · replace z1 : (FloatKind.f64.format.order f f == some .eq) = false := by simpa using z1
    have z2 : (FloatKind.f64.format.order f f != some .eq) = true := by rw [bne, z1]; rfl
    clear hf
    go_enter Tryz.func53, Tryz.ntmps53
    go_wp2
    go_ret
    exact ⟨rfl, belN2 _ _ _⟩
end Go.Proofs.YtifendlpeebofaaGreatDoor
namespace Go.Proofs.YtifendlpeebofaaGreatDoor
open Go.RowKit Go.Shelf Sq
attribute [local go_sem] Oper.semAt_some
section
variable {W : World} {b : Nat} {x : VaV}
end
theorem sp_at {W : World} {b o : Nat} {x : SpV} (h : W.rangeAt b o x.c) : (Instr.loadAt 3 (.pointer (some ⟨b, o + 0, none⟩))).run Tryz.prog W = .ok (.int .i64 x.fr) W ∧ (Instr.loadAt 3 (.pointer (some ⟨b, o + 1, none⟩))).run Tryz.prog W = .ok (.int .i64 x.to) W ∧ (Instr.loadAt 9 (.pointer (some ⟨b, o + 2, none⟩))).run Tryz.prog W = .ok (.string x.nm) W := by
  have h0 : W.cell? ⟨b, o + 0, none⟩ = some (.int .i64 x.fr) := h 0 _ rfl
  have h1 : W.cell? ⟨b, o + 1, none⟩ = some (.int .i64 x.to) := h 1 _ rfl
  have h2 : W.cell? ⟨b, o + 2, none⟩ = some (.string x.nm) := h 2 _ rfl
  rw [Nat.add_zero] at h0
  refine ⟨?_, ?_, ?_⟩
  · clear h1 h2; go_simp
  · clear h0 h2; go_simp
  · clear h0 h1; go_simp
theorem sameS_any {w : World} {la lb : Option Addr} {c c2 : Nat} {S : List SpV} (ha : RSp.At w la S) (hb : RSp.At w lb S) (ok : ∀ x ∈ S, x.ok) (hn : S.length ≤ 2000000000000) : Calls Tryz.prog 22 #[.slice la S.length c, .slice lb S.length c2] w fun e w' => e = .returned (.bool true) ∧ Below w.heap.size w w' := by
  have HA := hidMk (fun (W : World) (b : Below w.heap.size w W) => ha.below b)
  have HB := hidMk (fun (W : World) (b : Below w.heap.size w W) => hb.below b)
  obtain ⟨n, hnn⟩ : ∃ n, S.length = n := ⟨_, rfl⟩
  have HN := hidMk (show S.length = n ∧ n ≤ 2000000000000 from ⟨hnn, by omega⟩)
  have OK := hidMk ok
  rw [hnn]
  clear ha hb hn hnn ok
  go_enter Tryz.func22, Tryz.ntmps22
  go_upto_region 1 with fail
  refine ssp1 (la := la) (lb := lb) (n := n) (c := c) (c2 := c2) _ w _ rfl rfl rfl ?_
  intro a' w3 hw ha
  obtain rfl : w = w3 := hw.symm
  subst ha
  simp only [Act.put, List.setIfInBounds_toArray, List.set_cons_zero, List.set_cons_succ]
  go_wp2
  go_loopw [5] (fun v5 wr => ∃ i : Nat, v5 = .int .i64 (i : Int) ∧ i ≤ n ∧ Hid (Below w.heap.size w wr)) (fun v5 _ => n - (intOf v5).toNat)
  case atStart => exact ⟨0, rfl, Nat.zero_le _, Below.refl _ _⟩
  case round =>
    obtain ⟨i, rfl, hi, HI⟩ := hrel
    by_cases h : i < n
    · have h' : (i : Int) < (n : Int) := by omega
      have hn64 : n ≤ 9223372036854775807 := by have := HN.out; omega
      obtain ⟨x, hx⟩ : ∃ x, S[i]? = some x := ⟨_, List.getElem?_eq_getElem (by have := HN.out; omega)⟩
      obtain ⟨g, o, rfl, gl, hr⟩ := (HA.out wr HI.out).get (i := i) (by have := HN.out; omega)
      obtain ⟨g2, o2, rfl, gl2, hr2⟩ := (HB.out wr HI.out).get (i := i) (by have := HN.out; omega)
      have e : S[i]'(by have := HN.out; omega) = x := (List.getElem?_eq_some_iff.1 hx).2
      have r1 : ∀ W, Below wr.heap.size wr W → W.rangeAt g (o + 7 * i) x.c := fun W b => rangeAt_keep (by rw [e] at hr; exact hr) (b.block g gl)
      have r2 : ∀ W, Below wr.heap.size wr W → W.rangeAt g2 (o2 + 7 * i) x.c := fun W b => rangeAt_keep (by rw [e] at hr2; exact hr2) (b.block g2 gl2)
      have bd : Below wr.heap.size wr wr.drew := (Below.refl _ _).drew
      have MS := hidMk (show n - (((i + 1 : Nat) : Int)).toNat < n - ((i : Nat) : Int).toNat by simp only [Int.toNat_natCast]; omega)
      have HH1 := hidMk h
      have okx := OK.out x (List.mem_of_getElem? hx)
      clear hr hr2 e hx
      go_upto_region 6 with fail
      refine ssp6 (g := g) (o := o) (g2 := g2) (o2 := o2) (n := n) (c := c) (c2 := c2) (i := i) (x := x) (fun W => Below wr.heap.size wr W) _ wr _ rfl rfl rfl rfl bd h hn64 (fun W b => (sp_at (r1 W b)).1) (fun W b => (sp_at (r1 W b)).2.1) (fun W b => (sp_at (r1 W b)).2.2) (fun W b => sp_v (r1 W b)) (fun W b => (sp_at (r2 W b)).1) (fun W b => (sp_at (r2 W b)).2.1) (fun W b => (sp_at (r2 W b)).2.2) (fun W b => sp_v (r2 W b)) ((same_self okx.v wr.drew).mono fun e W q => ⟨q.1, bd.trans q.2⟩) ?_
      intro a' w4 bw ha
      have NI := hidMk (HI.out.trans (bw.mono HI.out.size))
      subst ha
      simp only [Act.put, List.setIfInBounds_toArray, List.set_cons_zero, List.set_cons_succ]
      clear r1 r2 bd bw HI
      go_wp2
      rw [show ((i : Int) + 1) = ((i + 1 : Nat) : Int) by omega]
      exact ⟨⟨i + 1, rfl, HH1.out, NI⟩, MS.out⟩
    · have h' : ¬ ((i : Int) < (n : Int)) := by omega
      obtain rfl : i = n := by omega
      go_wp2
      go_ret
      exact ⟨rfl, HI.out⟩
section
variable {w : World} {base : Nat} {m : Mx}
theorem mlen_any (h : MkAt w base m) : Calls Tryz.prog 27 #[.pointer (some ⟨m.mb, 0, none⟩)] w fun e w' => e = .returned (.int .i64 (m.L.length : Int)) ∧ w' = w := by
  obtain ⟨a, c, e, _⟩ := h.lvS
  have LL := h.ldl
  rw [e] at LL
  clear h e
  go_enter Tryz.func27, Tryz.ntmps27
  go_upto_region 3 with fail
  refine mln3 (mb := m.mb) (n := m.L.length) (c := c) (la := a) _ w _ rfl rfl LL ?_
  intro a' w3 hw ha
  obtain rfl : w = w3 := hw.symm
  subst ha
  simp only [Act.put, List.setIfInBounds_toArray, List.set_cons_zero, List.set_cons_succ]
  clear LL
  go_wp2
  go_ret
  exact ⟨rfl, rfl⟩
theorem cut_any (a : Option Addr) (n c q : Nat) (hq : q ≤ c) (hc : c ≤ maxLen) (w : World) : Calls Tryz.prog 46 #[.slice a n c, .int .i64 (q : Int)] w fun e w' => e = .returned (.slice a q q) ∧ w' = w := by
  have S := RowT.sl_cut RM_is a (n := n) hq w
  have S' : (Instr.sliceAt 85 (.slice a n c) none (some (.int .i64 (q : Int))) (some (.int .i64 (q : Int)))).run Tryz.prog w = .ok (.slice a q q) w := S
  clear S
  go_enter Tryz.func46, Tryz.ntmps46
  go_wp2
  go_ret
  exact ⟨rfl, rfl⟩
end
attribute [local go_sem] Oper.semAt_some
def undC (L : List MkV) (k : IdK) : Int := if hasM L k = false then 4 else if (L.getLast?.map (·.id)) = some k then 0 else 2
def undR (L : List MkV) (k : IdK) : List MkV := if undC L k = 0 then L.dropLast else L
theorem del_last {L : List MkV} {x : MkV} (hn : ((idE (L ++ [x])).map (·.1)).Nodup) : M.del (idE (L ++ [x])) x.id = idE L := by
  have hl : idE (L ++ [x]) = idE L ++ [(x.id, unV)] := by simp [idE]
  rw [hl] at hn ⊢
  have no : M.fnd (idE L) x.id 0 = none := by
    cases e : M.fnd (idE L) x.id 0 with
    | none => rfl
    | some q =>
      obtain ⟨i, v⟩ := q
      have h1 := (M.fnd_some e).1
      rw [List.map_append, List.nodup_append] at hn
      exact absurd rfl (hn.2.2 x.id (List.mem_map.2 ⟨_, List.mem_of_getElem? h1, rfl⟩) x.id (by simp))
  have key : ∀ (A : List (IdK × Value)) (n : Nat), M.fnd A x.id n = none → M.fnd (A ++ [(x.id, unV)]) x.id n = some (n + A.length, unV) := by
    intro A
    induction A with
    | nil => intro n _; simp [M.fnd]
    | cons p A ih =>
      intro n h
      unfold M.fnd at h
      split at h
      · cases h
      · next hne =>
        rw [List.cons_append, M.fnd, if_neg hne, ih (n + 1) h]
        simp
        omega
  unfold M.del
  rw [key _ 0 no]
  simp only [Nat.zero_add]
  rw [List.eraseIdx_append_of_length_le (Nat.le_refl _)]
  simp
section
variable {w : World} {base : Nat} {m : Mx}
theorem undo_any (h : MkAt w base m) (hb : base ≤ w.heap.size) {k : IdK} (hk : k.ok) : Calls Tryz.prog 14 #[.pointer (some ⟨m.mb, 0, none⟩), k.v] w fun e w' => e = .returned (.int .i64 (undC m.L k)) ∧ MkN m base (undR m.L k) w w' := by
  have bx : Below w.heap.size w (w.alloc (.cells k.c.toArray 36)) := (Below.refl _ _).alloc (Nat.le_refl _) _
  have hx := id_new w k
  obtain ⟨w1, hw1⟩ : ∃ w1, w.alloc (.cells k.c.toArray 36) = w1 := ⟨_, rfl⟩
  rw [hw1] at bx hx
  have HW := hidMk hw1
  have H1 := hidMk (h.below bx)
  have HA := hidMk (mhas_any (h.below bx) hk)
  have HX := hidMk hx
  have B1 := hidMk bx
  have HH := hidMk h
  have HBB := hidMk hb
  have SAME : Hid (∀ (W : World) (c : Int), Below w.heap.size w W → undC m.L k = c → c ≠ 0 → (Ending.returned (.int .i64 c) : Ending) = .returned (.int .i64 (undC m.L k)) ∧ MkN m base (undR m.L k) w W) := fun W c b e hc => by
    refine ⟨by rw [e], ?_⟩
    unfold undR
    rw [if_neg (by rw [e]; exact hc)]
    exact MkN.same h b
  clear h bx hx hw1 hb
  show Calls Tryz.prog 14 #[.pointer (some ⟨m.mb, 0, none⟩), .agg k.c.toArray] w _
  go_enter Tryz.func14, Tryz.ntmps14
  go_upto_region 3 with fail
  rw [HW.out]
  refine und3 (mb := m.mb) (b1 := w.heap.size) (k := k) (r := hasM m.L k) (fun W => Below w1.heap.size w1 W) _ w1 _ rfl rfl rfl (load_id hk HX.out) HA.out ?_
  intro a' w2 b2 ha
  subst ha
  simp only [Act.put, List.setIfInBounds_toArray, List.set_cons_zero, List.set_cons_succ]
  have B2 := hidMk (B1.out.trans (b2.mono B1.out.size))
  have X2 := hidMk (HX.out.below b2)
  clear b2 HA
  cases hq : hasM m.L k with
  | false =>
    have HQ := hidMk hq
    clear hq
    go_wp2
    go_ret
    exact SAME.out _ _ B2.out (by unfold undC; rw [if_pos HQ.out]) (by decide)
  | true =>
    have HQ := hidMk hq
    clear hq
    have hne : m.L ≠ [] := fun e => by have := HQ.out; rw [e] at this; cases this
    obtain ⟨x, hlast⟩ : ∃ x, m.L.getLast? = some x := by
      cases e : m.L.getLast? with
      | none => exact absurd (List.getLast?_eq_none_iff.1 e) hne
      | some x => exact ⟨x, rfl⟩
    obtain ⟨n, hn⟩ : ∃ n, m.L.length = n + 1 := ⟨m.L.length - 1, by have := List.length_pos_iff.2 hne; omega⟩
    have hxn : m.L[n]? = some x := by rw [List.getLast?_eq_getElem?, show m.L.length - 1 = n by omega] at hlast; exact hlast
    have okx := (HH.out.ok x (List.mem_of_getElem? hxn)).1
    have H2 := HH.out.below B2.out
    obtain ⟨la, lc, el, hat⟩ := H2.lvS
    have LL := H2.ldl
    rw [el, hn] at LL
    have n9 := HH.out.n
    have hnb : n + 1 ≤ 900000000000 := by omega
    go_upto_region 5 with fail
    refine und5 (mb := m.mb) (n := n + 1) (c := lc) (m := (n : Int)) (la := la) _ w2 _ rfl rfl (by omega) (by omega) LL ?_
    intro a' w3 hw ha
    obtain rfl : w2 = w3 := hw.symm
    subst ha
    simp only [Act.put, List.setIfInBounds_toArray, List.set_cons_zero, List.set_cons_succ]
    obtain ⟨g, o, rfl, gl, hr⟩ := hat.get (i := n) (by omega)
    have hr' : w2.rangeAt g (o + 105 * n) x.c := by
      have e : m.L[n]'(by omega) = x := (List.getElem?_eq_some_iff.1 hxn).2
      rw [e] at hr; exact hr
    obtain ⟨z, hz⟩ : ∃ z, (!decide (x.id = k)) = z := ⟨_, rfl⟩
    have HEL := hidMk el
    have HNN := hidMk (And.intro hn hnb)
    have HLA := hidMk hlast
    clear hr LL hat hne hxn n9
    go_upto_region 6 with fail
    refine und6 (mb := m.mb) (b1 := w.heap.size) (g := g) (o := o) (n := n + 1) (c := lc) (m := n) (q := x.id) (k := k) (r := z) (fun W => Below w2.heap.size w2 W) _ w2 _ rfl rfl rfl rfl ((Below.refl _ _).drew) (by omega) (by omega) okx.i hk hz (fun W b => by have := (H2.below b).ldl; rw [HEL.out, HNN.out.1] at this; exact this) (fun W b => mk_id okx (rangeAt_keep hr' (b.block g gl))) (fun W b => load_id hk (X2.out.below b)) ?_
    intro a' w4 b4 ha
    subst ha
    simp only [Act.put, List.setIfInBounds_toArray, List.set_cons_zero, List.set_cons_succ]
    have B4 := hidMk (B2.out.trans (b4.mono B2.out.size))
    have X4 := hidMk (X2.out.below b4)
    clear hr' b4 H2 X2 el hn hnb hlast
    cases z with
    | true =>
      have hnk : ¬ x.id = k := by simpa using hz
      have HNK := hidMk hnk
      clear hz hnk
      go_wp2
      go_ret
      exact SAME.out _ _ B4.out (by unfold undC; rw [if_neg (by rw [HQ.out]; decide), HLA.out, if_neg (fun q => HNK.out (by simpa using q))]) (by decide)
    | false =>
      have hxk : x.id = k := by simpa using hz
      have HXK := hidMk hxk
      clear hz hxk
      have H4 := HH.out.below B4.out
      have ap := H4.apart
      obtain ⟨a0, c0, ev0, _, hlc, hcm, _⟩ := H4.lo.open RM_is (fun y hy => (H4.ok y hy).1)
      rw [HEL.out] at ev0
      obtain ⟨rfl, rfl⟩ : lc = c0 ∧ (some ⟨g, o, none⟩ : Option Addr) = a0 := by cases ev0; exact ⟨rfl, rfl⟩
      obtain ⟨v', hv', lo', ow'⟩ := H4.lo.cut RM_is (fun y hy => (H4.ok y hy).1) (n := n) (by have := HNN.out.1; omega)
      have ev := hv' _ _ HEL.out
      obtain ⟨w5, e5, n5, t5⟩ := st_list (a := some ⟨g, o, none⟩) (n := n) (c := n) H4.cell ⟨_, _, _, HEL.out⟩
      have LL4 := H4.ldl
      rw [HEL.out, HNN.out.1] at LL4
      have CC := hidMk ((cut_any (some ⟨g, o, none⟩) (n + 1) lc n (by have := HNN.out.1; omega) hcm w4).mono (R' := fun e w1 => ∃ u2, e = .returned u2 ∧ ∃ w2, (Instr.storeAt 85 (.pointer (some ⟨m.mb, 0 + 0, none⟩)) u2).run Tryz.prog w1 = .ok () w2 ∧ w2 = w5) (fun e W q => by
        obtain ⟨rfl, rfl⟩ := q
        exact ⟨_, rfl, w5, e5, rfl⟩))
      have mp5 : M.MapAt w5 m.ib IdK.v IdK.ok (idE m.L) := H4.map.below (t5.block _ H4.map.lt (fun e => ap.2.2 e.symm))
      obtain ⟨ob, ep, mp6⟩ := M.run_del (P := Tryz.prog) (ty := 0) (w := w5.drew) idKey Tryz.underlying84 (mp5.below rfl) k hk
      have b5 : w4.heap.size ≤ w5.heap.size := t5.size
      have X5 : IdAt w5 w.heap.size k := (t5.block _ (Array.getElem?_eq_some_iff.1 X4.out).1 (fun e => by
        have := two_typesM X4.out (e ▸ H4.cell)
        revert this; decide)).trans X4.out
      have PUT := hidMk (show MkN m base (undR m.L k) w (M.setM w5.drew m.ib ob) by
        have hL : m.L = m.L.dropLast ++ [x] := by
          have hne : m.L ≠ [] := fun e => by have := HLA.out; rw [e] at this; cases this
          have e := List.dropLast_concat_getLast hne
          have e2 : m.L.getLast hne = x := by have := HLA.out; rw [List.getLast?_eq_some_getLast hne] at this; exact Option.some.inj this
          rw [e2] at e
          exact e.symm
        have hC : undC m.L k = 0 := by unfold undC; rw [if_neg (by rw [HQ.out]; decide), HLA.out, if_pos (by rw [Option.map_some, HXK.out])]
        have hR : undR m.L k = m.L.take n := by
          unfold undR
          rw [if_pos hC, List.dropLast_eq_take, show m.L.length - 1 = n by have := HNN.out.1; omega]
        have hD : M.del (idE m.L) k = idE (m.L.take n) := by
          have nd := H4.map.2.1
          have e1 : m.L.take n = m.L.dropLast := by rw [List.dropLast_eq_take, show m.L.length - 1 = n by have := HNN.out.1; omega]
          rw [e1, ← HXK.out]
          rw [hL] at nd ⊢
          rw [del_last nd, List.dropLast_concat]
        rw [hR]
        rw [hD] at mp6
        have nib : ∀ j, v'.ownBlock = some j → j ≠ m.ib ∧ j ≠ m.mb := fun j hj => by
          rw [ow'] at hj
          exact ⟨fun e => ap.2.1 (by rw [← e]; exact hj), fun e => ap.1 (by rw [← e]; exact hj)⟩
        refine ⟨⟨m.mb, v', m.ib, m.L.take n⟩, ⟨(M.setM_other ob ap.2.2).trans (by rw [ev]; exact n5), (lo'.keep (fun j hj => t5.block j (lo'.lt hj) (nib j hj).2)).keep (fun j hj => M.setM_other ob (nib j hj).1), fun y hy => HH.out.ok y (List.mem_of_mem_take hy), mp6, by simp only [List.length_take]; have := HNN.out; omega⟩, rfl, rfl, rfl, .inl ow', ?_⟩
        have t0 : Tch (fun j => j = m.mb ∨ j = m.ib ∨ m.lv.ownBlock = some j) w w4 := tch_below B4.out _
        have t4 : Tch (fun j => j = m.mb ∨ j = m.ib ∨ m.lv.ownBlock = some j) w4 w5 := t5.mono (fun j _ e => .inl e)
        have t6 : Tch (fun j => j = m.mb ∨ j = m.ib ∨ m.lv.ownBlock = some j) w5 (M.setM w5.drew m.ib ob) := ⟨rfl, rfl, rfl, by rw [M.setM_size]; exact Nat.le_refl _, fun j _ hj => M.setM_other ob (fun e => hj (.inr (.inl e)))⟩
        exact (t0.trans t4).trans t6)
      have C0 := hidMk (show undC m.L k = 0 by unfold undC; rw [if_neg (by rw [HQ.out]; decide), HLA.out, if_pos (by rw [Option.map_some, HXK.out])])
      have HEP := hidMk ep
      have XY : Hid (IdAt w5.drew w.heap.size k ∧ w5.drew.heap[m.mb]? = some (.cells #[.slice (some ⟨g, o, none⟩) n n, .map (some m.ib)] 87 (0, 0))) := ⟨X5, n5⟩
      clear ap ev0 hlc hcm hv' lo' ow' ev e5 n5 t5 mp5 ep mp6 b5 X5 H4 X4
      go_upto_region 8 with fail
      refine und8 (mb := m.mb) (z := (n : Int)) (lv := .slice (some ⟨g, o, none⟩) (n + 1) lc) (fun u2 W => W = w5) _ w4 _ rfl rfl rfl LL4 CC.out ?_
      intro u2 a' w6 hw ha
      obtain rfl : w5 = w6 := hw.symm
      subst ha
      simp only [Act.put, List.setIfInBounds_toArray, List.set_cons_zero, List.set_cons_succ]
      clear LL4 CC
      go_upto_region 9 with fail
      refine und9 (mb := m.mb) (ib := m.ib) (b1 := w.heap.size) (k := k) (w2 := M.setM w5.drew m.ib ob) (fun W => W = w5.drew) _ w5 _ rfl rfl rfl rfl (fun W e => ?_) (fun W e => by rw [e]; exact load_id hk XY.out.1) HEP.out ?_
      · have hc : W.cell? ⟨m.mb, 1, none⟩ = some (.map (some m.ib)) := by rw [e]; exact (cell_of_row w5.drew m.mb 1 _ _ _ XY.out.2).trans rfl
        clear e
        go_simp
      intro a' w6 hw ha
      obtain rfl : M.setM w5.drew m.ib ob = w6 := hw.symm
      subst ha
      simp only [Act.put, List.setIfInBounds_toArray, List.set_cons_zero, List.set_cons_succ]
      clear HEP XY
      go_wp2
      go_ret
      exact ⟨by rw [C0.out]; rfl, PUT.out⟩
end
theorem Gr.lt {w W : World} {sb mb : Nat} {E : List Elt} {L : List MkV} (h : Gr w sb mb E L W) : L.length ≤ 900000000000 := by
  obtain ⟨⟨s, m, _, _, _, hm, e3, _⟩, _⟩ := h
  rw [← e3]; exact hm.n
section
variable {w W W' : World} {sb mb : Nat} {E : List Elt} {L : List MkV}
theorem NT.of_below (b : Below W.heap.size W W') : NT W W' := fun j c t z hj _ _ _ _ => b.block j (Array.getElem?_eq_some_iff.1 hj).1
theorem Gr.addN (h : Gr w sb mb E L W) (hT : K.V.Tabs W) {x : MkV} (hx : x.ok) (hn : L.length + 1 ≤ 900000000000) : Calls Tryz.prog 12 #[.pointer (some ⟨mb, 0, none⟩), x.id.v, .string x.nm, x.v.v, x.fr.v, x.to.v, .int .i64 x.sd] W fun e w' => e = .returned (.int .i64 (addC L x)) ∧ Gr w sb mb E (addR L x) w' ∧ NT W w' := by
  obtain ⟨⟨s, m, rfl, rfl, hs, hm, rfl, c1, c2, d⟩, b'⟩ := h
  refine (add_any hm b'.size hT hx hn).mono ?_
  rintro e w' ⟨rfl, m', hm', e1, e2, e3, ow, tch⟩
  have tch' : Tch m.bl W w' := tch
  have bb : Below w.heap.size W w' := ⟨tch'.os, tch'.tape, tch'.output, tch'.size, fun j hj => tch'.block j (Nat.lt_of_lt_of_le hj b'.size) (fun q => by have := c2 j q; omega)⟩
  have inb : ∀ j, m'.bl j → m.bl j ∨ W.heap.size ≤ j := fun j hj => by
    rcases hj with q | q | q
    · exact .inl (.inl (q.trans e1))
    · exact .inl (.inr (.inl (q.trans e2)))
    · rcases ow with e | e
      · exact .inl (.inr (.inr (e ▸ q)))
      · exact .inr (e j q)
  refine ⟨rfl, ⟨⟨s, m', rfl, e1, hs.keep (fun j hj => tch'.block j (hs.lt j hj) (d j hj)), hm', e3, c1, fun j hj => ?_, fun j hj hq => ?_⟩, b'.trans bb⟩, fun j c t z hj t1 t2 t3 t4 => tch'.block j (Array.getElem?_eq_some_iff.1 hj).1 (fun q => ?_)⟩
  · rcases inb j hj with q | q
    · exact c2 j q
    · exact Nat.le_trans b'.size q
  · rcases inb j hq with q | q
    · exact d j hj q
    · have := hs.lt j hj; omega
  · rcases q with rfl | rfl | q
    · exact t1 (two_typesM hj hm.cell)
    · obtain ⟨⟨es, cc, hq, _⟩, _⟩ := hm.map
      rw [hj] at hq; cases hq
    · obtain ⟨_, c, hc⟩ := hm.lo.cells q
      exact t2 (two_typesM hj hc)
theorem Gr.undo (h : Gr w sb mb E L W) {k : IdK} (hk : k.ok) : Calls Tryz.prog 14 #[.pointer (some ⟨mb, 0, none⟩), k.v] W fun e w' => e = .returned (.int .i64 (undC L k)) ∧ Gr w sb mb E (undR L k) w' ∧ NT W w' := by
  obtain ⟨⟨s, m, rfl, rfl, hs, hm, rfl, c1, c2, d⟩, b'⟩ := h
  refine (undo_any hm b'.size hk).mono ?_
  rintro e w' ⟨rfl, m', hm', e1, e2, e3, ow, tch⟩
  have tch' : Tch m.bl W w' := tch
  have bb : Below w.heap.size W w' := ⟨tch'.os, tch'.tape, tch'.output, tch'.size, fun j hj => tch'.block j (Nat.lt_of_lt_of_le hj b'.size) (fun q => by have := c2 j q; omega)⟩
  have inb : ∀ j, m'.bl j → m.bl j ∨ W.heap.size ≤ j := fun j hj => by
    rcases hj with q | q | q
    · exact .inl (.inl (q.trans e1))
    · exact .inl (.inr (.inl (q.trans e2)))
    · rcases ow with e | e
      · exact .inl (.inr (.inr (e ▸ q)))
      · exact .inr (e j q)
  refine ⟨rfl, ⟨⟨s, m', rfl, e1, hs.keep (fun j hj => tch'.block j (hs.lt j hj) (d j hj)), hm', e3, c1, fun j hj => ?_, fun j hj hq => ?_⟩, b'.trans bb⟩, fun j c t z hj t1 t2 t3 t4 => tch'.block j (Array.getElem?_eq_some_iff.1 hj).1 (fun q => ?_)⟩
  · rcases inb j hj with q | q
    · exact c2 j q
    · exact Nat.le_trans b'.size q
  · rcases inb j hq with q | q
    · exact d j hj q
    · have := hs.lt j hj; omega
  · rcases q with rfl | rfl | q
    · exact t1 (two_typesM hj hm.cell)
    · obtain ⟨⟨es, cc, hq, _⟩, _⟩ := hm.map
      rw [hj] at hq; cases hq
    · obtain ⟨_, c, hc⟩ := hm.lo.cells q
      exact t2 (two_typesM hj hc)
theorem Gr.len (h : Gr w sb mb E L W) : Calls Tryz.prog 27 #[.pointer (some ⟨mb, 0, none⟩)] W fun e w' => e = .returned (.int .i64 (L.length : Int)) ∧ w' = W := by
  obtain ⟨⟨s, m, rfl, rfl, hs, hm, rfl, c1, c2, d⟩, b'⟩ := h
  exact mlen_any hm
structure SpW (E : List Elt) (L : List MkV) (v : Value) (b : Nat) (S : List SpV) (W : World) : Prop where
  lo : RSp.Lo W b v S
  is : SpansIs (hE E L) S
  ok : ∀ p ∈ S, p.ok
  len : S.length ≤ 2000000000000
theorem SpW.nt {v : Value} {b : Nat} {S : List SpV} (h : SpW E L v b S W) (n : NT W W') : SpW E L v b S W' :=
  ⟨h.lo.keep (fun j hj => by
    obtain ⟨_, c, hc⟩ := h.lo.cells hj
    exact n j c _ _ hc (by decide) (by decide) (by decide) (by decide)), h.is, h.ok, h.len⟩
theorem Gr.spans (h : Gr w sb mb E L W) (rt : ∀ x ∈ L, x.v.right = true) (hT : K.V.Tabs W) : Calls Tryz.prog 25 #[.pointer (some ⟨mb, 0, none⟩), .pointer (some ⟨sb, 0, none⟩)] W fun e w' => ∃ v, e = .returned v ∧ (∃ S, SpW E L v W.heap.size S w') ∧ Gr w sb mb E L w' ∧ Below W.heap.size W w' := by
  have hl := h.lt
  have hg := h
  obtain ⟨⟨s, m, rfl, rfl, hs, hm, rfl, c1, c2, d⟩, b'⟩ := h
  refine (Spans_any hs hm rt hT).mono ?_
  rintro e w' ⟨v, rfl, S, lo, is, ok, len, b⟩
  exact ⟨v, rfl, ⟨S, lo, is, fun p hp => (ok p hp).1, Nat.le_trans len (by omega)⟩, hg.below b, b⟩
theorem same_g {v v0 : Value} {b b0 : Nat} {S S0 : List SpV} {L0 : List MkV} (h : SpW E L v b S W) (h0 : SpW E L0 v0 b0 S0 W) (e : S = S0) : Calls Tryz.prog 22 #[v, v0] W fun e w' => e = .returned (.bool true) ∧ Below W.heap.size W w' := by
  subst e
  obtain ⟨a, c, rfl, hat, _⟩ := h.lo.open RSp_is h.ok
  obtain ⟨a2, c2, rfl, hat2, _⟩ := h0.lo.open RSp_is h.ok
  exact sameS_any hat hat2 h.ok h.len
end
attribute [local go_sem] Oper.semAt_some
theorem szN (n : Int) : ∃ s : Nat, szP n = s ∧ s ≤ 12 := by
  have := szP_bd n
  exact ⟨(szP n).toNat, by omega, by omega⟩
theorem und_back {L : List MkV} {x : MkV} (h : addC L x = 0) : undC (addR L x) x.id = 0 ∧ undR (addR L x) x.id = L := by
  have e : addR L x = L ++ [x] := by unfold addR; rw [if_pos h]
  have c : undC (L ++ [x]) x.id = 0 := by
    unfold undC
    rw [hasM_iff.2 ⟨x, by simp, rfl⟩, if_neg (by decide), List.getLast?_concat, if_pos (by rfl)]
  rw [e]
  refine ⟨c, ?_⟩
  unfold undR
  rw [if_pos c, List.dropLast_concat]
theorem addR_same {L : List MkV} {x : MkV} (h : ¬ addC L x = 0) : addR L x = L := by unfold addR; rw [if_neg h]
set_option maxHeartbeats 8000000 in
theorem back_any (n : Int) (w : World) (hT : K.V.Tabs w) {la : Option Addr} {lc : Nat} {O : List OpM} (hat : RO.At w la O) (hok : ∀ x ∈ O, x.ok) (hO : O.length ≤ 800000000000) {x : OpM} (hx : x.ok) :
    Calls Tryz.prog 5 #[.int .i64 n, .slice la O.length lc, .agg x.c.toArray] w fun e w' => e = .returned (.bool true) ∧ Below w.heap.size w w' := by
  obtain ⟨k, hk, hk12⟩ := szN n
  obtain ⟨w1, hw1⟩ : ∃ w1, w.alloc (.cells x.c.toArray 42) = w1 := ⟨_, rfl⟩
  obtain ⟨p1, b1⟩ := RowT.bx_is RO w x
  change RO.Bx (w.alloc (.cells x.c.toArray 42)) _ _ at p1
  change Below _ _ (w.alloc (.cells x.c.toArray 42)) at b1
  rw [hw1] at p1 b1
  have HW := hidMk hw1
  have CL := hidMk ((size_any n w1).mono (R' := fun e W => e = .returned (.int .i64 (k : Int)) ∧ Calls Tryz.prog 32 #[.int .i64 (k : Int), .slice la O.length lc] W fun e w2 => ∃ sb mb, e = .returned (.tuple #[.pointer (some ⟨sb, 0, none⟩), .pointer (some ⟨mb, 0, none⟩), .bool true]) ∧ Gr w1 sb mb (seg 0 k) (addL [] O) w2) (fun e W q => by
    obtain ⟨rfl, rfl⟩ := q
    exact ⟨by rw [hk], laidO_any k (by omega) _ (hT.below b1) (hat.below b1) hok hO⟩))
  have HT := hidMk (fun (W : World) (b : Below w1.heap.size w1 W) => (hT.below b1).below b)
  have HB1 := hidMk (And.intro p1 b1)
  obtain ⟨L, hL⟩ : ∃ L, addL [] O = L := ⟨_, rfl⟩
  have RT := hidMk (show ∀ y ∈ L, y.v.right = true by rw [← hL]; exact addL_right O (fun y hy => by cases hy))
  have LB := hidMk (show L.length ≤ 800000000000 by rw [← hL]; have := addL_len [] O; have z : ([] : List MkV).length = 0 := rfl; omega)
  rw [hL] at CL
  have HX := hidMk hx
  have MX := hidMk (OpM.mkok hx)
  clear hT hat hok hO hw1 p1 b1 hk hL
  go_enter Tryz.func5, Tryz.ntmps5
  go_upto_region 1 with fail
  rw [HW.out]
  refine bck1 (n := n) (k := (k : Int)) (lv := .slice la O.length lc) (fun sb mb W => Gr w1 sb mb (seg 0 k) L W) _ w1 _ rfl rfl rfl CL.out ?_
  intro sb mb a' w2 hg ha
  subst ha
  simp only [Act.put, List.setIfInBounds_toArray, List.set_cons_zero, List.set_cons_succ]
  clear CL
  have G2 := hidMk hg
  have SP := hidMk (hg.spans RT.out (HT.out w2 hg.bel))
  clear hg
  go_upto_region 4 with fail
  refine bck4 (sb := sb) (mb := mb) (fun v W => (∃ S, SpW (seg 0 k) L v w2.heap.size S W) ∧ Gr w1 sb mb (seg 0 k) L W ∧ Below w2.heap.size w2 W) _ w2 _ rfl rfl rfl SP.out ?_
  rintro v0 a' w3 ⟨⟨S0, hS0⟩, hg, hb⟩ ha
  subst ha
  simp only [Act.put, List.setIfInBounds_toArray, List.set_cons_zero, List.set_cons_succ]
  clear SP hb
  have LN := hidMk hg.len
  have G3 := hidMk hg
  have S3 := hidMk hS0
  clear hg hS0
  go_upto_region 5 with fail
  refine bck5 (mb := mb) (k := (L.length : Int)) (fun W => W = w3) _ w3 _ rfl rfl LN.out ?_
  intro a' w4 hw ha
  obtain rfl : w3 = w4 := hw.symm
  subst ha
  simp only [Act.put, List.setIfInBounds_toArray, List.set_cons_zero, List.set_cons_succ]
  clear LN
  have X3 : RO.Bx w3 w.heap.size x := HB1.out.1.below G3.out.bel
  have LI := fun (W : World) (h : RO.Bx W w.heap.size x) => om_id HX.out (RowT.Bx.rng h)
  have AD := hidMk (G3.out.addN (HT.out w3 G3.out.bel) MX.out (by have := LB.out; omega))
  obtain ⟨c, hc⟩ : ∃ c, addC L x.mk' = c := ⟨_, rfl⟩
  rw [hc] at AD
  obtain ⟨r, hr⟩ : ∃ r, decide (c ≠ 0) = r := ⟨_, rfl⟩
  go_upto_region 6 with fail
  refine bck6 (mb := mb) (ob := w.heap.size) (x := x.mk') (c := c) (r := r) (fun W => Gr w1 sb mb (seg 0 k) (addR L x.mk') W ∧ NT w3 W) _ w3 _ rfl rfl rfl hr (om_id HX.out (RowT.Bx.rng X3)) (om_nm HX.out (RowT.Bx.rng X3)) (om_v HX.out (RowT.Bx.rng X3)) (om_fr HX.out (RowT.Bx.rng X3)) (om_ti HX.out (RowT.Bx.rng X3)) (om_sd HX.out (RowT.Bx.rng X3)) AD.out ?_
  rintro a' w5 ⟨hg, nt⟩ ha
  subst ha
  simp only [Act.put, List.setIfInBounds_toArray, List.set_cons_zero, List.set_cons_succ]
  have S5 := hidMk (S3.out.nt nt)
  have X5 := hidMk (show RO.Bx w5 w.heap.size x from (nt _ _ _ _ X3 (by decide) (by decide) (by decide) (by decide)).trans X3)
  clear AD X3 LI nt
  cases r with
  | true =>
    have hc0 : ¬ addC L x.mk' = 0 := by rw [hc]; exact of_decide_eq_true hr
    rw [addR_same hc0] at hg
    have C1 := hidMk ((hg.len).mono (R' := fun e W1 => e = .returned (.int .i64 (L.length : Int)) ∧ Calls Tryz.prog 25 #[.pointer (some ⟨mb, 0, none⟩), .pointer (some ⟨sb, 0, none⟩)] W1 fun e W2 => ∃ v, e = .returned v ∧ Calls Tryz.prog 22 #[v, v0] W2 fun e W3 => e = .returned (.bool true) ∧ Below w.heap.size w W3) (fun e W q => by
      obtain ⟨rfl, rfl⟩ := q
      refine ⟨rfl, (hg.spans RT.out (HT.out W hg.bel)).mono ?_⟩
      rintro e W2 ⟨v, rfl, ⟨S, hS⟩, g2, b2⟩
      refine ⟨v, rfl, (same_g hS (S5.out.nt (NT.of_below b2)) (hS.is.unique S5.out.is)).mono ?_⟩
      rintro e W3 ⟨rfl, b3⟩
      exact ⟨rfl, HB1.out.2.trans ((g2.bel.trans (b3.mono g2.bel.size)).mono HB1.out.2.size)⟩))
    clear hg hc hr hc0 S5 X5
    go_upto_region 7 with fail
    refine bck7 (sb := sb) (mb := mb) (v0 := v0) (k := (L.length : Int)) (fun W => Below w.heap.size w W) _ w5 _ rfl rfl rfl rfl rfl C1.out ?_
    intro v a' w6 hf ha
    have HF := hidMk hf
    subst ha
    simp only [Act.put, List.setIfInBounds_toArray, List.set_cons_zero, List.set_cons_succ]
    clear hf C1
    go_wp2
    go_ret
    exact ⟨rfl, HF.out⟩
  | false =>
    have hc0 : addC L x.mk' = 0 := by rw [hc]; have := of_decide_eq_false hr; omega
    obtain ⟨u1, u2⟩ := und_back hc0
    have ll : (addR L x.mk').length = L.length + 1 := by unfold addR; rw [if_pos hc0]; simp
    have UD := hg.undo MX.out.i
    rw [u1, u2] at UD
    have C1 := hidMk ((hg.len).mono (R' := fun e W1 => e = .returned (.int .i64 ((L.length : Int) + 1)) ∧ (Instr.loadAt 36 (.pointer (some ⟨w.heap.size, 0 + 1, none⟩))).run Tryz.prog W1 = .ok x.mk'.id.v W1 ∧ Calls Tryz.prog 14 #[.pointer (some ⟨mb, 0, none⟩), x.mk'.id.v] W1 fun e W2 => e = .returned (.int .i64 0) ∧ Calls Tryz.prog 27 #[.pointer (some ⟨mb, 0, none⟩)] W2 fun e W3 => e = .returned (.int .i64 (L.length : Int)) ∧ Calls Tryz.prog 25 #[.pointer (some ⟨mb, 0, none⟩), .pointer (some ⟨sb, 0, none⟩)] W3 fun e W4 => ∃ v, e = .returned v ∧ Calls Tryz.prog 22 #[v, v0] W4 fun e W5 => e = .returned (.bool true) ∧ Below w.heap.size w W5) (fun e W q => by
      obtain ⟨rfl, rfl⟩ := q
      refine ⟨by rw [ll]; rfl, om_id HX.out (RowT.Bx.rng X5.out), UD.mono ?_⟩
      rintro e W2 ⟨rfl, g2, n2⟩
      refine ⟨rfl, g2.len.mono ?_⟩
      rintro e W3 ⟨rfl, rfl⟩
      refine ⟨rfl, (g2.spans RT.out (HT.out _ g2.bel)).mono ?_⟩
      rintro e W4 ⟨v, rfl, ⟨S, hS⟩, g4, b4⟩
      refine ⟨v, rfl, (same_g hS ((S5.out.nt n2).nt (NT.of_below b4)) (hS.is.unique S5.out.is)).mono ?_⟩
      rintro e W5 ⟨rfl, b5⟩
      exact ⟨rfl, HB1.out.2.trans ((g4.bel.trans (b5.mono g4.bel.size)).mono HB1.out.2.size)⟩))
    clear hg hc hr hc0 S5 X5 u1 u2 ll UD
    go_upto_region 8 with fail
    refine bck8 (sb := sb) (mb := mb) (ob := w.heap.size) (x := x.mk') (v0 := v0) (k := (L.length : Int)) (fun W => Below w.heap.size w W) _ w5 _ rfl rfl rfl rfl rfl rfl (by have := LB.out; omega) C1.out ?_
    intro v a' w6 hf ha
    have HF := hidMk hf
    subst ha
    simp only [Act.put, List.setIfInBounds_toArray, List.set_cons_zero, List.set_cons_succ]
    clear hf C1
    go_wp2
    go_ret
    exact ⟨rfl, HF.out⟩
end Go.Proofs.YtifendlpeebofaaGreatDoor
namespace Go.Proofs.YtifendlpeebofaaGreatDoor
open Go.ChangeShapes Go.WideShapes Go.ChangeAt Go.RowKit Go.Shelf
def u8_ren : Go.Shelf.Ren := ⟨fun n => n, fun | 119 => 177 | 138 => 179 | 139 => 180 | n => n, fun | 3 => 1 | 4 => 2 | n => n⟩
theorem u8t : U8Types Tryz.prog u8_ren := ⟨Tryz.underlying5, Tryz.underlying177, Tryz.underlying179, Tryz.underlying180⟩
theorem u8x : U8Extra Tryz.prog u8_ren := ⟨by kernel_rfl, by kernel_rfl, by kernel_rfl, by kernel_rfl, by kernel_rfl, by kernel_rfl, by kernel_rfl⟩
theorem dF : (Rows.laid_unicode_utf8_first : DataW Unit) = Lib.firstData := by kernel_rfl
theorem dA : (Rows.laid_unicode_utf8_acceptRanges : DataW Unit) = Lib.acceptData := by kernel_rfl
theorem tabs_of {W : World} {laid : List (String × DataW Unit)} (h : laidMet Tryz.prog laid W) (h3 : ("unicode/utf8.first", (Rows.laid_unicode_utf8_first : DataW Unit)) ∈ laid) (h4 : ("unicode/utf8.acceptRanges", (Rows.laid_unicode_utf8_acceptRanges : DataW Unit)) ∈ laid) : K.V.Tabs W := by
  rw [dF] at h3
  rw [dA] at h4
  exact utf8Tabs_of_readsT u8t u8x (Lib.laidMet.reads h h3) (Lib.laidMet.reads h h4)
theorem reach_opsM {H : Type} {ts : List TypeId} {ds : List (DataW H)} (hsz : (DataW.weightsEach Tryz.prog ts ds).all (· ≤ reachBytes) = true) (j : Nat) (ht : ts[j]? = some 22) {d : DataW H} (hd : ds[j]? = some d) {len : Nat}
    (h : d = .nil ∧ len = 0 ∨ ∃ el sp, d = .slice el sp ∧ el.length = len) : len ≤ 800000000000 := by
  rcases h with ⟨_, rfl⟩ | ⟨el, sp, rfl, rfl⟩
  · omega
  · have := sized_slice hsz (j := j) (t := 22) (e := 42) ht hd Tryz.underlying22
    rw [bytes_opM] at this
    simp only [reachBytes] at this
    omega
theorem view_opM {H : Type} {enc : TypeId × Value → H} {W : World} {cs : Array Value} {d : DataW H} {p : List MemPlace} (h : DataW.Trod enc Tryz.prog W 0 (fun _ => true) true 42 (.agg cs) d p) : ∃ x : OpM, x.ok ∧ cs = x.c.toArray := by
  obtain ⟨fuel, hf⟩ := h
  obtain ⟨x, hx, e⟩ := opM_cells _ _ _ hf
  exact ⟨x, hx, by rw [← e]; simp [Value.cells]⟩
end Go.Proofs.YtifendlpeebofaaGreatDoor
