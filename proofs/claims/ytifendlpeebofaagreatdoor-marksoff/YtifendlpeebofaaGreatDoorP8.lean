import Derived.Test.YtifendlpeebofaaGreatDoorP0
import Derived.Test.YtifendlpeebofaaGreatDoorP7
import Derived.Laws.FloatArith
import Derived.Test.YtifendlpeebofaaGreatDoorTie
import Derived.Test.YtifendlpeebofaaGreatDoorCards
import Derived.Lib.LaidU8T
import Derived.Lib.LaidU8
import Derived.LaidMore
import Derived.MakeChecks
import Derived.Lay
import Derived.Lib.SmallJoins
import Derived.Stop.Joined
import Derived.SevenTiedAt
import Derived.SizedLaws
import Derived.Deep.DeepHandedRow
import Derived.JoinedCond
set_option linter.unusedSimpArgs false
set_option linter.unusedVariables false
set_option maxRecDepth 100000
set_option maxHeartbeats 4000000
namespace Go.Proofs.YtifendlpeebofaaGreatDoor
open Go.RowKit
section
variable {w : World} {a : Act} {o : Oper} {x y : Operand}
theorem ex_netx {s : ByteArray} (ho : o.op = .binOp .neq 9 x y 9) (hx : a.eval x = .string s) (hy : a.eval y = .string s) : (execOp a.eval o).run Tryz.prog w = .ok (.value (.bool false)) w := by
  refine exec_binOp ho hx hy ?_ ?_
  · kernel_rfl
  · have : (s.toList != s.toList) = false := by simp
    go_simp
theorem ex_eqlE {p q : Int} {r : Bool} (ho : o.op = .binOp .eql 43 x y 43) (hx : a.eval x = .int .i64 p) (hy : a.eval y = .int .i64 q) (h : decide (p = q) = r) : (execOp a.eval o).run Tryz.prog w = .ok (.value (.bool r)) w := by
  unfold execOp
  simp only [ho, hx, hy]
  subst h
  by_cases e : p = q <;> go_simp
end
def ssp1_o0 : Oper := ⟨some 6, .move (.tmp 0), 49, "mem.go:162", #[], none⟩
def ssp1_o1 : Oper := ⟨some 7, .call { callee := Callee.builtin Builtin.len, args := #[.tmp 6], argTypes := #[49] }, 3, "mem.go:162", #[⟨0, .data⟩], none⟩
def ssp1_o2 : Oper := ⟨some 8, .move (.tmp 1), 49, "mem.go:162", #[], none⟩
def ssp1_o3 : Oper := ⟨some 9, .call { callee := Callee.builtin Builtin.len, args := #[.tmp 8], argTypes := #[49] }, 3, "mem.go:162", #[⟨2, .data⟩], none⟩
def ssp1_o4 : Oper := ⟨some 10, .binOp BinOp.neq 3 (.tmp 7) (.tmp 9) 3, 4, "mem.go:162", #[⟨1, .data⟩, ⟨3, .data⟩], none⟩
def ssp1_ops : Array Oper := #[ssp1_o0, ssp1_o1, ssp1_o2, ssp1_o3, ssp1_o4]
theorem ssp1 {la lb : Option Addr} {n c c2 : Nat} (a : Act) (w : World) (Q : Exit → Act → World → Prop) (zz : a.tmps.size = 68)
    (t0 : a.tmps.getD 0 undef = .slice la n c)
    (t1 : a.tmps.getD 1 undef = .slice lb n c2)
    (h : ∀ (a' : Act) (w' : World), w' = w → a' = (((((a).put (some 6) (.slice la n c)).put (some 7) (.int .i64 (n : Int))).put (some 8) (.slice lb n c2)).put (some 9) (.int .i64 (n : Int))).put (some 10) (.bool false) → Q .normal a' w') :
    (Code.region 1 ssp1_ops false).wp Tryz.prog Q a w := by
  refine z0 rfl ?_
  refine zv rfl (xmv rfl (zi t0 rfl)) ?_
  refine zv rfl (exec_len rfl (zg zz rfl) (len_sq _ _ _ _)) ?_
  refine zv rfl (xmv rfl (zi t1 rfl)) ?_
  refine zv rfl (exec_len rfl (zg zz rfl) (len_sq _ _ _ _)) ?_
  refine zv (v := .bool false) rfl (ex_neqZ rfl (zg zz rfl) (zg zz rfl) (decide_eq_false (fun q => q rfl))) ?_
  exact ze rfl (h _ _ (rfl) rfl)
def ssp6_o0 : Oper := ⟨some 17, .move (.tmp 0), 49, "mem.go:166", #[], none⟩
def ssp6_o1 : Oper := ⟨some 18, .move (.tmp 5), 3, "mem.go:166", #[], none⟩
def ssp6_o2 : Oper := ⟨some 19, .indexAddr 49 (.tmp 17) (.tmp 18), 0, "mem.go:166", #[⟨0, .data⟩, ⟨1, .data⟩], none⟩
def ssp6_o3 : Oper := ⟨some 20, .fieldAddr 65 (.tmp 19) 0, 0, "mem.go:166", #[⟨2, .data⟩], none⟩
def ssp6_o4 : Oper := ⟨some 21, .load 3 (.tmp 20), 3, "mem.go:166", #[⟨3, .data⟩], none⟩
def ssp6_o5 : Oper := ⟨some 22, .move (.tmp 1), 49, "mem.go:166", #[], none⟩
def ssp6_o6 : Oper := ⟨some 23, .move (.tmp 5), 3, "mem.go:166", #[], none⟩
def ssp6_o7 : Oper := ⟨some 24, .indexAddr 49 (.tmp 22) (.tmp 23), 0, "mem.go:166", #[⟨5, .data⟩, ⟨6, .data⟩], none⟩
def ssp6_o8 : Oper := ⟨some 25, .fieldAddr 65 (.tmp 24) 0, 0, "mem.go:166", #[⟨7, .data⟩], none⟩
def ssp6_o9 : Oper := ⟨some 26, .load 3 (.tmp 25), 3, "mem.go:166", #[⟨8, .data⟩], none⟩
def ssp6_o10 : Oper := ⟨some 27, .binOp BinOp.neq 3 (.tmp 21) (.tmp 26) 3, 4, "mem.go:166", #[⟨4, .data⟩, ⟨9, .data⟩], none⟩
def ssp6_o11 : Oper := ⟨some 28, .move (.tmp 27), 4, "mem.go:166", #[⟨10, .data⟩], none⟩
def ssp6_o12 : Oper := ⟨some 29, .move (.tmp 0), 49, "mem.go:166", #[⟨11, .guard⟩], some (11, false)⟩
def ssp6_o13 : Oper := ⟨some 30, .move (.tmp 5), 3, "mem.go:166", #[⟨11, .guard⟩], some (11, false)⟩
def ssp6_o14 : Oper := ⟨some 31, .indexAddr 49 (.tmp 29) (.tmp 30), 0, "mem.go:166", #[⟨12, .data⟩, ⟨13, .data⟩, ⟨11, .guard⟩], some (11, false)⟩
def ssp6_o15 : Oper := ⟨some 32, .fieldAddr 65 (.tmp 31) 1, 0, "mem.go:166", #[⟨14, .data⟩, ⟨11, .guard⟩], some (11, false)⟩
def ssp6_o16 : Oper := ⟨some 33, .load 3 (.tmp 32), 3, "mem.go:166", #[⟨15, .data⟩, ⟨11, .guard⟩], some (11, false)⟩
def ssp6_o17 : Oper := ⟨some 34, .move (.tmp 1), 49, "mem.go:166", #[⟨11, .guard⟩], some (11, false)⟩
def ssp6_o18 : Oper := ⟨some 35, .move (.tmp 5), 3, "mem.go:166", #[⟨11, .guard⟩], some (11, false)⟩
def ssp6_o19 : Oper := ⟨some 36, .indexAddr 49 (.tmp 34) (.tmp 35), 0, "mem.go:166", #[⟨17, .data⟩, ⟨18, .data⟩, ⟨11, .guard⟩], some (11, false)⟩
def ssp6_o20 : Oper := ⟨some 37, .fieldAddr 65 (.tmp 36) 1, 0, "mem.go:166", #[⟨19, .data⟩, ⟨11, .guard⟩], some (11, false)⟩
def ssp6_o21 : Oper := ⟨some 38, .load 3 (.tmp 37), 3, "mem.go:166", #[⟨20, .data⟩, ⟨11, .guard⟩], some (11, false)⟩
def ssp6_o22 : Oper := ⟨some 39, .binOp BinOp.neq 3 (.tmp 33) (.tmp 38) 3, 4, "mem.go:166", #[⟨16, .data⟩, ⟨21, .data⟩, ⟨11, .guard⟩], some (11, false)⟩
def ssp6_o23 : Oper := ⟨some 40, .pick (.tmp 28) (Operand.const (Value.bool true)) (.tmp 39), 4, "mem.go:166", #[⟨11, .data⟩, ⟨22, .data⟩], none⟩
def ssp6_o24 : Oper := ⟨some 41, .move (.tmp 40), 4, "mem.go:166", #[⟨23, .data⟩, ⟨11, .chain⟩], none⟩
def ssp6_o25 : Oper := ⟨some 42, .move (.tmp 0), 49, "mem.go:166", #[⟨24, .guard⟩], some (24, false)⟩
def ssp6_o26 : Oper := ⟨some 43, .move (.tmp 5), 3, "mem.go:166", #[⟨24, .guard⟩], some (24, false)⟩
def ssp6_o27 : Oper := ⟨some 44, .indexAddr 49 (.tmp 42) (.tmp 43), 0, "mem.go:166", #[⟨25, .data⟩, ⟨26, .data⟩, ⟨24, .guard⟩], some (24, false)⟩
def ssp6_o28 : Oper := ⟨some 45, .fieldAddr 65 (.tmp 44) 2, 0, "mem.go:166", #[⟨27, .data⟩, ⟨24, .guard⟩], some (24, false)⟩
def ssp6_o29 : Oper := ⟨some 46, .load 9 (.tmp 45), 9, "mem.go:166", #[⟨28, .data⟩, ⟨24, .guard⟩], some (24, false)⟩
def ssp6_o30 : Oper := ⟨some 47, .move (.tmp 1), 49, "mem.go:166", #[⟨24, .guard⟩], some (24, false)⟩
def ssp6_o31 : Oper := ⟨some 48, .move (.tmp 5), 3, "mem.go:166", #[⟨24, .guard⟩], some (24, false)⟩
def ssp6_o32 : Oper := ⟨some 49, .indexAddr 49 (.tmp 47) (.tmp 48), 0, "mem.go:166", #[⟨30, .data⟩, ⟨31, .data⟩, ⟨24, .guard⟩], some (24, false)⟩
def ssp6_o33 : Oper := ⟨some 50, .fieldAddr 65 (.tmp 49) 2, 0, "mem.go:166", #[⟨32, .data⟩, ⟨24, .guard⟩], some (24, false)⟩
def ssp6_o34 : Oper := ⟨some 51, .load 9 (.tmp 50), 9, "mem.go:166", #[⟨33, .data⟩, ⟨24, .guard⟩], some (24, false)⟩
def ssp6_o35 : Oper := ⟨some 52, .binOp BinOp.neq 9 (.tmp 46) (.tmp 51) 9, 4, "mem.go:166", #[⟨29, .data⟩, ⟨34, .data⟩, ⟨24, .guard⟩], some (24, false)⟩
def ssp6_o36 : Oper := ⟨some 53, .pick (.tmp 41) (Operand.const (Value.bool true)) (.tmp 52), 4, "mem.go:166", #[⟨24, .data⟩, ⟨35, .data⟩], none⟩
def ssp6_o37 : Oper := ⟨some 54, .move (.tmp 53), 4, "mem.go:166", #[⟨36, .data⟩, ⟨24, .chain⟩], none⟩
def ssp6_o38 : Oper := ⟨some 55, .move (.tmp 0), 49, "mem.go:166", #[⟨37, .guard⟩], some (37, false)⟩
def ssp6_o39 : Oper := ⟨some 56, .move (.tmp 5), 3, "mem.go:166", #[⟨37, .guard⟩], some (37, false)⟩
def ssp6_o40 : Oper := ⟨some 57, .indexAddr 49 (.tmp 55) (.tmp 56), 0, "mem.go:166", #[⟨38, .data⟩, ⟨39, .data⟩, ⟨37, .guard⟩], some (37, false)⟩
def ssp6_o41 : Oper := ⟨some 58, .fieldAddr 65 (.tmp 57) 3, 0, "mem.go:166", #[⟨40, .data⟩, ⟨37, .guard⟩], some (37, false)⟩
def ssp6_o42 : Oper := ⟨some 59, .load 40 (.tmp 58), 40, "mem.go:166", #[⟨41, .data⟩, ⟨37, .guard⟩], some (37, false)⟩
def ssp6_o43 : Oper := ⟨some 60, .move (.tmp 1), 49, "mem.go:166", #[⟨37, .guard⟩], some (37, false)⟩
def ssp6_o44 : Oper := ⟨some 61, .move (.tmp 5), 3, "mem.go:166", #[⟨37, .guard⟩], some (37, false)⟩
def ssp6_o45 : Oper := ⟨some 62, .indexAddr 49 (.tmp 60) (.tmp 61), 0, "mem.go:166", #[⟨43, .data⟩, ⟨44, .data⟩, ⟨37, .guard⟩], some (37, false)⟩
def ssp6_o46 : Oper := ⟨some 63, .fieldAddr 65 (.tmp 62) 3, 0, "mem.go:166", #[⟨45, .data⟩, ⟨37, .guard⟩], some (37, false)⟩
def ssp6_o47 : Oper := ⟨some 64, .load 40 (.tmp 63), 40, "mem.go:166", #[⟨46, .data⟩, ⟨37, .guard⟩], some (37, false)⟩
def ssp6_o48 : Oper := ⟨some 65, .call { callee := Callee.value (Operand.func 53), args := #[.tmp 59, .tmp 64], argTypes := #[40, 40] }, 4, "mem.go:166", #[⟨42, .data⟩, ⟨47, .data⟩, ⟨37, .chain⟩, ⟨37, .guard⟩], some (37, false)⟩
def ssp6_o49 : Oper := ⟨some 66, .unOp UnOp.not 4 (.tmp 65), 4, "mem.go:166", #[⟨48, .data⟩, ⟨37, .guard⟩], some (37, false)⟩
def ssp6_o50 : Oper := ⟨some 67, .pick (.tmp 54) (Operand.const (Value.bool true)) (.tmp 66), 4, "mem.go:166", #[⟨37, .data⟩, ⟨49, .data⟩], none⟩
def ssp6_ops : Array Oper := #[ssp6_o0, ssp6_o1, ssp6_o2, ssp6_o3, ssp6_o4, ssp6_o5, ssp6_o6, ssp6_o7, ssp6_o8, ssp6_o9, ssp6_o10, ssp6_o11, ssp6_o12, ssp6_o13, ssp6_o14, ssp6_o15, ssp6_o16, ssp6_o17, ssp6_o18, ssp6_o19, ssp6_o20, ssp6_o21, ssp6_o22, ssp6_o23, ssp6_o24, ssp6_o25, ssp6_o26, ssp6_o27, ssp6_o28, ssp6_o29, ssp6_o30, ssp6_o31, ssp6_o32, ssp6_o33, ssp6_o34, ssp6_o35, ssp6_o36, ssp6_o37, ssp6_o38, ssp6_o39, ssp6_o40, ssp6_o41, ssp6_o42, ssp6_o43, ssp6_o44, ssp6_o45, ssp6_o46, ssp6_o47, ssp6_o48, ssp6_o49, ssp6_o50]
theorem ssp6 {g o g2 o2 n c c2 i : Nat} {x : SpV} (S : World → Prop) (a : Act) (w : World) (Q : Exit → Act → World → Prop) (zz : a.tmps.size = 68)
    (t0 : a.tmps.getD 0 undef = .slice (some ⟨g, o, none⟩) n c)
    (t1 : a.tmps.getD 1 undef = .slice (some ⟨g2, o2, none⟩) n c2)
    (t5 : a.tmps.getD 5 undef = .int .i64 (i : Int))
    (h0 : S w.drew) (hi : i < n) (hm : n ≤ 9223372036854775807) (LA0 : ∀ W, S W → (Instr.loadAt 3 (.pointer (some ⟨g, o + 7 * i + 0, none⟩))).run Tryz.prog W = .ok (.int .i64 x.fr) W) (LA1 : ∀ W, S W → (Instr.loadAt 3 (.pointer (some ⟨g, o + 7 * i + 1, none⟩))).run Tryz.prog W = .ok (.int .i64 x.to) W) (LA2 : ∀ W, S W → (Instr.loadAt 9 (.pointer (some ⟨g, o + 7 * i + 2, none⟩))).run Tryz.prog W = .ok (.string x.nm) W) (LA3 : ∀ W, S W → (Instr.loadAt 40 (.pointer (some ⟨g, o + 7 * i + 3, none⟩))).run Tryz.prog W = .ok (x.v.v) W) (LB0 : ∀ W, S W → (Instr.loadAt 3 (.pointer (some ⟨g2, o2 + 7 * i + 0, none⟩))).run Tryz.prog W = .ok (.int .i64 x.fr) W) (LB1 : ∀ W, S W → (Instr.loadAt 3 (.pointer (some ⟨g2, o2 + 7 * i + 1, none⟩))).run Tryz.prog W = .ok (.int .i64 x.to) W) (LB2 : ∀ W, S W → (Instr.loadAt 9 (.pointer (some ⟨g2, o2 + 7 * i + 2, none⟩))).run Tryz.prog W = .ok (.string x.nm) W) (LB3 : ∀ W, S W → (Instr.loadAt 40 (.pointer (some ⟨g2, o2 + 7 * i + 3, none⟩))).run Tryz.prog W = .ok (x.v.v) W) (CS : Calls Tryz.prog 53 #[x.v.v, x.v.v] w.drew fun e w' => e = .returned (.bool true) ∧ S w')
    (h : ∀ (a' : Act) (w' : World), S w' → a' = (((((((((((((((((((((((((((((((((((((((((((((((((((a).put (some 17) (.slice (some ⟨g, o, none⟩) n c)).put (some 18) (.int .i64 (i : Int))).put (some 19) (.pointer (some ⟨g, o + 7 * i, none⟩))).put (some 20) (.pointer (some ⟨g, o + 7 * i + 0, none⟩))).put (some 21) (.int .i64 x.fr)).put (some 22) (.slice (some ⟨g2, o2, none⟩) n c2)).put (some 23) (.int .i64 (i : Int))).put (some 24) (.pointer (some ⟨g2, o2 + 7 * i, none⟩))).put (some 25) (.pointer (some ⟨g2, o2 + 7 * i + 0, none⟩))).put (some 26) (.int .i64 x.fr)).put (some 27) (.bool false)).put (some 28) (.bool false)).put (some 29) (.slice (some ⟨g, o, none⟩) n c)).put (some 30) (.int .i64 (i : Int))).put (some 31) (.pointer (some ⟨g, o + 7 * i, none⟩))).put (some 32) (.pointer (some ⟨g, o + 7 * i + 1, none⟩))).put (some 33) (.int .i64 x.to)).put (some 34) (.slice (some ⟨g2, o2, none⟩) n c2)).put (some 35) (.int .i64 (i : Int))).put (some 36) (.pointer (some ⟨g2, o2 + 7 * i, none⟩))).put (some 37) (.pointer (some ⟨g2, o2 + 7 * i + 1, none⟩))).put (some 38) (.int .i64 x.to)).put (some 39) (.bool false)).put (some 40) (.bool false)).put (some 41) (.bool false)).put (some 42) (.slice (some ⟨g, o, none⟩) n c)).put (some 43) (.int .i64 (i : Int))).put (some 44) (.pointer (some ⟨g, o + 7 * i, none⟩))).put (some 45) (.pointer (some ⟨g, o + 7 * i + 2, none⟩))).put (some 46) (.string x.nm)).put (some 47) (.slice (some ⟨g2, o2, none⟩) n c2)).put (some 48) (.int .i64 (i : Int))).put (some 49) (.pointer (some ⟨g2, o2 + 7 * i, none⟩))).put (some 50) (.pointer (some ⟨g2, o2 + 7 * i + 2, none⟩))).put (some 51) (.string x.nm)).put (some 52) (.bool false)).put (some 53) (.bool false)).put (some 54) (.bool false)).put (some 55) (.slice (some ⟨g, o, none⟩) n c)).put (some 56) (.int .i64 (i : Int))).put (some 57) (.pointer (some ⟨g, o + 7 * i, none⟩))).put (some 58) (.pointer (some ⟨g, o + 7 * i + 3, none⟩))).put (some 59) (x.v.v)).put (some 60) (.slice (some ⟨g2, o2, none⟩) n c2)).put (some 61) (.int .i64 (i : Int))).put (some 62) (.pointer (some ⟨g2, o2 + 7 * i, none⟩))).put (some 63) (.pointer (some ⟨g2, o2 + 7 * i + 3, none⟩))).put (some 64) (x.v.v)).put (some 65) (.bool true)).put (some 66) (.bool false)).put (some 67) (.bool false) → Q .normal a' w') :
    (Code.region 6 ssp6_ops true).wp Tryz.prog Q a w := by
  refine y0 (fun w' => S w') (h0) (fun hHeld => ?_)
  refine yv 0 rfl rfl (fun w1 hw => xmv rfl (zi t0 rfl)) hHeld ?_
  refine yv 1 rfl rfl (fun w1 hw => xmv rfl (zi t5 rfl)) hHeld ?_
  refine yv 2 rfl rfl (fun w1 hw => xia rfl (zg zz rfl) (zg zz rfl) (ix_sp hi hm _)) hHeld ?_
  refine yv 3 rfl rfl (fun w1 hw => xfa rfl (zg zz rfl) (fg_65_0 _ _ _)) hHeld ?_
  refine yv 4 rfl rfl (fun w1 hw => xld rfl (zg zz rfl) (LA0 _ hw)) hHeld ?_
  refine yv 5 rfl rfl (fun w1 hw => xmv rfl (zi t1 rfl)) hHeld ?_
  refine yv 6 rfl rfl (fun w1 hw => xmv rfl (zi t5 rfl)) hHeld ?_
  refine yv 7 rfl rfl (fun w1 hw => xia rfl (zg zz rfl) (zg zz rfl) (ix_sp hi hm _)) hHeld ?_
  refine yv 8 rfl rfl (fun w1 hw => xfa rfl (zg zz rfl) (fg_65_0 _ _ _)) hHeld ?_
  refine yv 9 rfl rfl (fun w1 hw => xld rfl (zg zz rfl) (LB0 _ hw)) hHeld ?_
  refine yv (v := .bool false) 10 rfl rfl (fun w1 hw => ex_neqZ rfl (zg zz rfl) (zg zz rfl) (decide_eq_false (fun q => q rfl))) hHeld ?_
  refine yv 11 rfl rfl (fun w1 hw => xmv rfl (zg zz rfl)) hHeld ?_
  refine yv 12 rfl (zw zz rfl rfl rfl (zg zz rfl)) (fun w1 hw => xmv rfl (zi t0 rfl)) hHeld ?_
  refine yv 13 rfl (zw zz rfl rfl rfl (zg zz rfl)) (fun w1 hw => xmv rfl (zi t5 rfl)) hHeld ?_
  refine yv 14 rfl (zw zz rfl rfl rfl (zg zz rfl)) (fun w1 hw => xia rfl (zg zz rfl) (zg zz rfl) (ix_sp hi hm _)) hHeld ?_
  refine yv 15 rfl (zw zz rfl rfl rfl (zg zz rfl)) (fun w1 hw => xfa rfl (zg zz rfl) (fg_65_1 _ _ _)) hHeld ?_
  refine yv 16 rfl (zw zz rfl rfl rfl (zg zz rfl)) (fun w1 hw => xld rfl (zg zz rfl) (LA1 _ hw)) hHeld ?_
  refine yv 17 rfl (zw zz rfl rfl rfl (zg zz rfl)) (fun w1 hw => xmv rfl (zi t1 rfl)) hHeld ?_
  refine yv 18 rfl (zw zz rfl rfl rfl (zg zz rfl)) (fun w1 hw => xmv rfl (zi t5 rfl)) hHeld ?_
  refine yv 19 rfl (zw zz rfl rfl rfl (zg zz rfl)) (fun w1 hw => xia rfl (zg zz rfl) (zg zz rfl) (ix_sp hi hm _)) hHeld ?_
  refine yv 20 rfl (zw zz rfl rfl rfl (zg zz rfl)) (fun w1 hw => xfa rfl (zg zz rfl) (fg_65_1 _ _ _)) hHeld ?_
  refine yv 21 rfl (zw zz rfl rfl rfl (zg zz rfl)) (fun w1 hw => xld rfl (zg zz rfl) (LB1 _ hw)) hHeld ?_
  refine yv (v := .bool false) 22 rfl (zw zz rfl rfl rfl (zg zz rfl)) (fun w1 hw => ex_neqZ rfl (zg zz rfl) (zg zz rfl) (decide_eq_false (fun q => q rfl))) hHeld ?_
  refine yv 23 rfl rfl (fun w1 hw => exec_pickF rfl (zg zz rfl) (zg zz rfl)) hHeld ?_
  refine yv 24 rfl rfl (fun w1 hw => xmv rfl (zg zz rfl)) hHeld ?_
  refine yv 25 rfl (zw zz rfl rfl rfl (zg zz rfl)) (fun w1 hw => xmv rfl (zi t0 rfl)) hHeld ?_
  refine yv 26 rfl (zw zz rfl rfl rfl (zg zz rfl)) (fun w1 hw => xmv rfl (zi t5 rfl)) hHeld ?_
  refine yv 27 rfl (zw zz rfl rfl rfl (zg zz rfl)) (fun w1 hw => xia rfl (zg zz rfl) (zg zz rfl) (ix_sp hi hm _)) hHeld ?_
  refine yv 28 rfl (zw zz rfl rfl rfl (zg zz rfl)) (fun w1 hw => xfa rfl (zg zz rfl) (fg_65_2 _ _ _)) hHeld ?_
  refine yv 29 rfl (zw zz rfl rfl rfl (zg zz rfl)) (fun w1 hw => xld rfl (zg zz rfl) (LA2 _ hw)) hHeld ?_
  refine yv 30 rfl (zw zz rfl rfl rfl (zg zz rfl)) (fun w1 hw => xmv rfl (zi t1 rfl)) hHeld ?_
  refine yv 31 rfl (zw zz rfl rfl rfl (zg zz rfl)) (fun w1 hw => xmv rfl (zi t5 rfl)) hHeld ?_
  refine yv 32 rfl (zw zz rfl rfl rfl (zg zz rfl)) (fun w1 hw => xia rfl (zg zz rfl) (zg zz rfl) (ix_sp hi hm _)) hHeld ?_
  refine yv 33 rfl (zw zz rfl rfl rfl (zg zz rfl)) (fun w1 hw => xfa rfl (zg zz rfl) (fg_65_2 _ _ _)) hHeld ?_
  refine yv 34 rfl (zw zz rfl rfl rfl (zg zz rfl)) (fun w1 hw => xld rfl (zg zz rfl) (LB2 _ hw)) hHeld ?_
  refine yv (v := .bool false) 35 rfl (zw zz rfl rfl rfl (zg zz rfl)) (fun w1 hw => ex_netx rfl (zg zz rfl) (zg zz rfl)) hHeld ?_
  refine yv 36 rfl rfl (fun w1 hw => exec_pickF rfl (zg zz rfl) (zg zz rfl)) hHeld ?_
  refine yv 37 rfl rfl (fun w1 hw => xmv rfl (zg zz rfl)) hHeld ?_
  refine yv 38 rfl (zw zz rfl rfl rfl (zg zz rfl)) (fun w1 hw => xmv rfl (zi t0 rfl)) hHeld ?_
  refine yv 39 rfl (zw zz rfl rfl rfl (zg zz rfl)) (fun w1 hw => xmv rfl (zi t5 rfl)) hHeld ?_
  refine yv 40 rfl (zw zz rfl rfl rfl (zg zz rfl)) (fun w1 hw => xia rfl (zg zz rfl) (zg zz rfl) (ix_sp hi hm _)) hHeld ?_
  refine yv 41 rfl (zw zz rfl rfl rfl (zg zz rfl)) (fun w1 hw => xfa rfl (zg zz rfl) (fg_65_3 _ _ _)) hHeld ?_
  refine yv 42 rfl (zw zz rfl rfl rfl (zg zz rfl)) (fun w1 hw => xld rfl (zg zz rfl) (LA3 _ hw)) hHeld ?_
  refine yv 43 rfl (zw zz rfl rfl rfl (zg zz rfl)) (fun w1 hw => xmv rfl (zi t1 rfl)) hHeld ?_
  refine yv 44 rfl (zw zz rfl rfl rfl (zg zz rfl)) (fun w1 hw => xmv rfl (zi t5 rfl)) hHeld ?_
  refine yv 45 rfl (zw zz rfl rfl rfl (zg zz rfl)) (fun w1 hw => xia rfl (zg zz rfl) (zg zz rfl) (ix_sp hi hm _)) hHeld ?_
  refine yv 46 rfl (zw zz rfl rfl rfl (zg zz rfl)) (fun w1 hw => xfa rfl (zg zz rfl) (fg_65_3 _ _ _)) hHeld ?_
  refine yv 47 rfl (zw zz rfl rfl rfl (zg zz rfl)) (fun w1 hw => xld rfl (zg zz rfl) (LB3 _ hw)) hHeld ?_
  refine yc 48 rfl (zw zz rfl rfl rfl (zg zz rfl)) (exec_c2 rfl (zg zz rfl) (zg zz rfl)) (CS) (fun e x48 hx => ?_)
  obtain ⟨rfl, S1⟩ := hx
  refine ⟨_, rfl, S1, fun hHeld => ?_⟩
  refine yv 49 rfl (zw zz rfl rfl rfl (zg zz rfl)) (fun w1 hw => exec_not rfl (zg zz rfl)) hHeld ?_
  refine yv 50 rfl rfl (fun w1 hw => exec_pickF rfl (zg zz rfl) (zg zz rfl)) hHeld ?_
  exact ye rfl (h _ _ (S1) rfl)
theorem belN2 (w : World) (a b : Obj) : Below w.heap.size w ((w.alloc a).alloc b) := ((Below.refl _ _).alloc (Nat.le_refl _) _).alloc (by simp) _
section
open Ieee
theorem signed_zero {s : Bool} {m k : Nat} (h : signed s m k = 0) : m = 0 := by
  unfold signed at h
  rw [Nat.shiftLeft_eq] at h
  generalize hz : m * 2 ^ k = z at h
  have : m * 2 ^ k = 0 := by
    cases s
    · simp at h; omega
    · simp at h; omega
  rcases Nat.mul_eq_zero.1 this with h | h
  · exact h
  · exact absurd h (by have := Nat.two_pow_pos k; omega)
theorem ord_zero {f : Nat} (h : (Ieee.double.order f 0 == some .eq) = true) : f % 2 ^ 63 = 0 := by
  have e1 : Ieee.double.signWeight = 2 ^ 63 := rfl
  have e2 : Ieee.double.binade = 2 ^ 52 := rfl
  have e3 : Ieee.double.infRung = 2047 * 2 ^ 52 := rfl
  have h' : Ieee.double.order f 0 = some .eq := by simpa using h
  have z : Ieee.double.read 0 = .number false 0 Ieee.double.leastPlace := by decide +kernel
  have key : ∀ s m i, Datum.order (.number s m i) (.number false 0 Ieee.double.leastPlace) = some .eq → m = 0 := fun s m i q => by
    simp only [Datum.order, Option.some.injEq] at q
    have q2 := Std.LawfulEqCmp.eq_of_compare q
    have : signed false 0 (Ieee.double.leastPlace - min i Ieee.double.leastPlace).toNat = 0 := by simp [signed]
    rw [this] at q2
    exact signed_zero q2
  unfold Ieee.Format.order at h'
  rw [z] at h'
  unfold Ieee.Format.read at h'
  rw [e1, e2, e3] at h'
  simp only at h'
  split at h'
  · exact key _ _ _ h'
  · split at h'
    · have := key _ _ _ h'
      omega
    · split at h'
      · simp only [Datum.order, Option.some.injEq] at h'
        split at h' <;> cases h'
      · cases h'
end
theorem f_zero {f : Nat} (hf : f < 18446744073709551616) (h : (FloatKind.f64.format.order f 0 == some .eq) = true) : f = 0 ∨ f = 9223372036854775808 := by
  have := ord_zero h
  omega
theorem same_self {x : VaV} (hx : x.ok) (w : World) : Calls Tryz.prog 53 #[x.v, x.v] w fun e w' => e = .returned (.bool true) ∧ Below w.heap.size w w' := by
  obtain ⟨k, n, f, t⟩ := x
  have hf := hx.ff
  simp only at hf
  clear hx
  show Calls Tryz.prog 53 #[.agg #[.int .u8 k, .int .i64 n, .float .f64 f, .string t], .agg #[.int .u8 k, .int .i64 n, .float .f64 f, .string t]] w _
  have k1 : (k != k) = false := by simp
  have n1 : (n != n) = false := by simp
  have t1 : (t.toList != t.toList) = false := by simp
  by_cases z1 : (FloatKind.f64.format.order f f == some .eq) = true
  · have z2 : (FloatKind.f64.format.order f f != some .eq) = false := by rw [bne, z1]; rfl
    by_cases z3 : (FloatKind.f64.format.order f 0 == some .eq) = true
    · have z4 : (FloatKind.f64.format.order f 0 != some .eq) = false := by rw [bne, z3]; rfl
      obtain ⟨q, hq, hqq⟩ : ∃ q, (∀ W, (binOp .quo 38 (.float .f64 4607182418800017408) (.float .f64 f)).run Tryz.prog W = .ok (.float .f64 q) W) ∧ (FloatKind.f64.format.order q q == some .eq) = true := by
        rcases f_zero hf z3 with rfl | rfl
        · exact ⟨9218868437227405312, fun W => run_float_arith W .quo 38 .f64 _ _ _ (by decide +kernel), by decide +kernel⟩
        · exact ⟨18442240474082181120, fun W => run_float_arith W .quo 38 .f64 _ _ _ (by decide +kernel), by decide +kernel⟩
      clear hf
      go_enter Tryz.func53, Tryz.ntmps53
      go_wp2
      go_ret
      exact ⟨rfl, belN2 _ _ _⟩
    · replace z3 : (FloatKind.f64.format.order f 0 == some .eq) = false := by simpa using z3
      have z4 : (FloatKind.f64.format.order f 0 != some .eq) = true := by rw [bne, z3]; rfl
      clear hf
      go_enter Tryz.func53, Tryz.ntmps53
      go_wp2
      go_ret
      exact ⟨rfl, belN2 _ _ _⟩
  · replace z1 : (FloatKind.f64.format.order f f == some .eq) = false := by simpa using z1
    have z2 : (FloatKind.f64.format.order f f != some .eq) = true := by rw [bne, z1]; rfl
    clear hf
    go_enter Tryz.func53, Tryz.ntmps53
    go_wp2
    go_ret
    exact ⟨rfl, belN2 _ _ _⟩
end Go.Proofs.YtifendlpeebofaaGreatDoor
namespace Go.Proofs.YtifendlpeebofaaGreatDoor
open Go.RowKit Go.Shelf Sq
attribute [local go_sem] Oper.semAt_some
section
variable {W : World} {b : Nat} {x : VaV}
end
theorem sp_at {W : World} {b o : Nat} {x : SpV} (h : W.rangeAt b o x.c) : (Instr.loadAt 3 (.pointer (some ⟨b, o + 0, none⟩))).run Tryz.prog W = .ok (.int .i64 x.fr) W ∧ (Instr.loadAt 3 (.pointer (some ⟨b, o + 1, none⟩))).run Tryz.prog W = .ok (.int .i64 x.to) W ∧ (Instr.loadAt 9 (.pointer (some ⟨b, o + 2, none⟩))).run Tryz.prog W = .ok (.string x.nm) W := by
  have h0 : W.cell? ⟨b, o + 0, none⟩ = some (.int .i64 x.fr) := h 0 _ rfl
  have h1 : W.cell? ⟨b, o + 1, none⟩ = some (.int .i64 x.to) := h 1 _ rfl
  have h2 : W.cell? ⟨b, o + 2, none⟩ = some (.string x.nm) := h 2 _ rfl
  rw [Nat.add_zero] at h0
  refine ⟨?_, ?_, ?_⟩
  · clear h1 h2; go_simp
  · clear h0 h2; go_simp
  · clear h0 h1; go_simp
theorem sameS_any {w : World} {la lb : Option Addr} {c c2 : Nat} {S : List SpV} (ha : RSp.At w la S) (hb : RSp.At w lb S) (ok : ∀ x ∈ S, x.ok) (hn : S.length ≤ 2000000000000) : Calls Tryz.prog 22 #[.slice la S.length c, .slice lb S.length c2] w fun e w' => e = .returned (.bool true) ∧ Below w.heap.size w w' := by
  have HA := hidMk (fun (W : World) (b : Below w.heap.size w W) => ha.below b)
  have HB := hidMk (fun (W : World) (b : Below w.heap.size w W) => hb.below b)
  obtain ⟨n, hnn⟩ : ∃ n, S.length = n := ⟨_, rfl⟩
  have HN := hidMk (show S.length = n ∧ n ≤ 2000000000000 from ⟨hnn, by omega⟩)
  have OK := hidMk ok
  rw [hnn]
  clear ha hb hn hnn ok
  go_enter Tryz.func22, Tryz.ntmps22
  go_upto_region 1 with fail
  refine ssp1 (la := la) (lb := lb) (n := n) (c := c) (c2 := c2) _ w _ rfl rfl rfl ?_
  intro a' w3 hw ha
  obtain rfl : w = w3 := hw.symm
  subst ha
  simp only [Act.put, List.setIfInBounds_toArray, List.set_cons_zero, List.set_cons_succ]
  go_wp2
  go_loopw [5] (fun v5 wr => ∃ i : Nat, v5 = .int .i64 (i : Int) ∧ i ≤ n ∧ Hid (Below w.heap.size w wr)) (fun v5 _ => n - (intOf v5).toNat)
  case atStart => exact ⟨0, rfl, Nat.zero_le _, Below.refl _ _⟩
  case round =>
    obtain ⟨i, rfl, hi, HI⟩ := hrel
    by_cases h : i < n
    · have h' : (i : Int) < (n : Int) := by omega
      have hn64 : n ≤ 9223372036854775807 := by have := HN.out; omega
      obtain ⟨x, hx⟩ : ∃ x, S[i]? = some x := ⟨_, List.getElem?_eq_getElem (by have := HN.out; omega)⟩
      obtain ⟨g, o, rfl, gl, hr⟩ := (HA.out wr HI.out).get (i := i) (by have := HN.out; omega)
      obtain ⟨g2, o2, rfl, gl2, hr2⟩ := (HB.out wr HI.out).get (i := i) (by have := HN.out; omega)
      have e : S[i]'(by have := HN.out; omega) = x := (List.getElem?_eq_some_iff.1 hx).2
      have r1 : ∀ W, Below wr.heap.size wr W → W.rangeAt g (o + 7 * i) x.c := fun W b => rangeAt_keep (by rw [e] at hr; exact hr) (b.block g gl)
      have r2 : ∀ W, Below wr.heap.size wr W → W.rangeAt g2 (o2 + 7 * i) x.c := fun W b => rangeAt_keep (by rw [e] at hr2; exact hr2) (b.block g2 gl2)
      have bd : Below wr.heap.size wr wr.drew := (Below.refl _ _).drew
      have MS := hidMk (show n - (((i + 1 : Nat) : Int)).toNat < n - ((i : Nat) : Int).toNat by simp only [Int.toNat_natCast]; omega)
      have HH1 := hidMk h
      have okx := OK.out x (List.mem_of_getElem? hx)
      clear hr hr2 e hx
      go_upto_region 6 with fail
      refine ssp6 (g := g) (o := o) (g2 := g2) (o2 := o2) (n := n) (c := c) (c2 := c2) (i := i) (x := x) (fun W => Below wr.heap.size wr W) _ wr _ rfl rfl rfl rfl bd h hn64 (fun W b => (sp_at (r1 W b)).1) (fun W b => (sp_at (r1 W b)).2.1) (fun W b => (sp_at (r1 W b)).2.2) (fun W b => sp_v (r1 W b)) (fun W b => (sp_at (r2 W b)).1) (fun W b => (sp_at (r2 W b)).2.1) (fun W b => (sp_at (r2 W b)).2.2) (fun W b => sp_v (r2 W b)) ((same_self okx.v wr.drew).mono fun e W q => ⟨q.1, bd.trans q.2⟩) ?_
      intro a' w4 bw ha
      have NI := hidMk (HI.out.trans (bw.mono HI.out.size))
      subst ha
      simp only [Act.put, List.setIfInBounds_toArray, List.set_cons_zero, List.set_cons_succ]
      clear r1 r2 bd bw HI
      go_wp2
      rw [show ((i : Int) + 1) = ((i + 1 : Nat) : Int) by omega]
      exact ⟨⟨i + 1, rfl, HH1.out, NI⟩, MS.out⟩
    · have h' : ¬ ((i : Int) < (n : Int)) := by omega
      obtain rfl : i = n := by omega
      go_wp2
      go_ret
      exact ⟨rfl, HI.out⟩
section
variable {w : World} {base : Nat} {m : Mx}
end
attribute [local go_sem] Oper.semAt_some
section
variable {w : World} {base : Nat} {m : Mx}
end
theorem Gr.lt {w W : World} {sb mb : Nat} {E : List Elt} {L : List MkV} (h : Gr w sb mb E L W) : L.length ≤ 900000000000 := by
  obtain ⟨⟨s, m, _, _, _, hm, e3, _⟩, _⟩ := h
  rw [← e3]; exact hm.n
section
variable {w W W' : World} {sb mb : Nat} {E : List Elt} {L : List MkV}
theorem NT.of_below (b : Below W.heap.size W W') : NT W W' := fun j c t z hj _ _ _ _ => b.block j (Array.getElem?_eq_some_iff.1 hj).1
theorem Gr.addN (h : Gr w sb mb E L W) (hT : K.V.Tabs W) {x : MkV} (hx : x.ok) (hn : L.length + 1 ≤ 900000000000) : Calls Tryz.prog 12 #[.pointer (some ⟨mb, 0, none⟩), x.id.v, .string x.nm, x.v.v, x.fr.v, x.to.v, .int .i64 x.sd] W fun e w' => e = .returned (.int .i64 (addC L x)) ∧ Gr w sb mb E (addR L x) w' ∧ NT W w' := by
  obtain ⟨⟨s, m, rfl, rfl, hs, hm, rfl, c1, c2, d⟩, b'⟩ := h
  refine (add_any hm b'.size hT hx hn).mono ?_
  rintro e w' ⟨rfl, m', hm', e1, e2, e3, ow, tch⟩
  have tch' : Tch m.bl W w' := tch
  have bb : Below w.heap.size W w' := ⟨tch'.os, tch'.tape, tch'.output, tch'.size, fun j hj => tch'.block j (Nat.lt_of_lt_of_le hj b'.size) (fun q => by have := c2 j q; omega)⟩
  have inb : ∀ j, m'.bl j → m.bl j ∨ W.heap.size ≤ j := fun j hj => by
    rcases hj with q | q | q
    · exact .inl (.inl (q.trans e1))
    · exact .inl (.inr (.inl (q.trans e2)))
    · rcases ow with e | e
      · exact .inl (.inr (.inr (e ▸ q)))
      · exact .inr (e j q)
  refine ⟨rfl, ⟨⟨s, m', rfl, e1, hs.keep (fun j hj => tch'.block j (hs.lt j hj) (d j hj)), hm', e3, c1, fun j hj => ?_, fun j hj hq => ?_⟩, b'.trans bb⟩, fun j c t z hj t1 t2 t3 t4 => tch'.block j (Array.getElem?_eq_some_iff.1 hj).1 (fun q => ?_)⟩
  · rcases inb j hj with q | q
    · exact c2 j q
    · exact Nat.le_trans b'.size q
  · rcases inb j hq with q | q
    · exact d j hj q
    · have := hs.lt j hj; omega
  · rcases q with rfl | rfl | q
    · exact t1 (two_typesM hj hm.cell)
    · obtain ⟨⟨es, cc, hq, _⟩, _⟩ := hm.map
      rw [hj] at hq; cases hq
    · obtain ⟨_, c, hc⟩ := hm.lo.cells q
      exact t2 (two_typesM hj hc)
structure SpW (E : List Elt) (L : List MkV) (v : Value) (b : Nat) (S : List SpV) (W : World) : Prop where
  lo : RSp.Lo W b v S
  is : SpansIs (hE E L) S
  ok : ∀ p ∈ S, p.ok
  len : S.length ≤ 2000000000000
theorem SpW.nt {v : Value} {b : Nat} {S : List SpV} (h : SpW E L v b S W) (n : NT W W') : SpW E L v b S W' :=
  ⟨h.lo.keep (fun j hj => by
    obtain ⟨_, c, hc⟩ := h.lo.cells hj
    exact n j c _ _ hc (by decide) (by decide) (by decide) (by decide)), h.is, h.ok, h.len⟩
theorem Gr.spans (h : Gr w sb mb E L W) (rt : ∀ x ∈ L, x.v.right = true) (hT : K.V.Tabs W) : Calls Tryz.prog 25 #[.pointer (some ⟨mb, 0, none⟩), .pointer (some ⟨sb, 0, none⟩)] W fun e w' => ∃ v, e = .returned v ∧ (∃ S, SpW E L v W.heap.size S w') ∧ Gr w sb mb E L w' ∧ Below W.heap.size W w' := by
  have hl := h.lt
  have hg := h
  obtain ⟨⟨s, m, rfl, rfl, hs, hm, rfl, c1, c2, d⟩, b'⟩ := h
  refine (Spans_any hs hm rt hT).mono ?_
  rintro e w' ⟨v, rfl, S, lo, is, ok, len, b⟩
  exact ⟨v, rfl, ⟨S, lo, is, fun p hp => (ok p hp).1, Nat.le_trans len (by omega)⟩, hg.below b, b⟩
theorem same_g {v v0 : Value} {b b0 : Nat} {S S0 : List SpV} {L0 : List MkV} (h : SpW E L v b S W) (h0 : SpW E L0 v0 b0 S0 W) (e : S = S0) : Calls Tryz.prog 22 #[v, v0] W fun e w' => e = .returned (.bool true) ∧ Below W.heap.size W w' := by
  subst e
  obtain ⟨a, c, rfl, hat, _⟩ := h.lo.open RSp_is h.ok
  obtain ⟨a2, c2, rfl, hat2, _⟩ := h0.lo.open RSp_is h.ok
  exact sameS_any hat hat2 h.ok h.len
end
attribute [local go_sem] Oper.semAt_some
theorem szN (n : Int) : ∃ s : Nat, szP n = s ∧ s ≤ 12 := by
  have := szP_bd n
  exact ⟨(szP n).toNat, by omega, by omega⟩
theorem addR_same {L : List MkV} {x : MkV} (h : ¬ addC L x = 0) : addR L x = L := by unfold addR; rw [if_neg h]
end Go.Proofs.YtifendlpeebofaaGreatDoor
namespace Go.Proofs.YtifendlpeebofaaGreatDoor
open Go.ChangeShapes Go.WideShapes Go.ChangeAt Go.RowKit Go.Shelf
def u8_ren : Go.Shelf.Ren := ⟨fun n => n, fun | 119 => 177 | 138 => 179 | 139 => 180 | n => n, fun | 3 => 1 | 4 => 2 | n => n⟩
theorem u8t : U8Types Tryz.prog u8_ren := ⟨Tryz.underlying5, Tryz.underlying177, Tryz.underlying179, Tryz.underlying180⟩
theorem u8x : U8Extra Tryz.prog u8_ren := ⟨by kernel_rfl, by kernel_rfl, by kernel_rfl, by kernel_rfl, by kernel_rfl, by kernel_rfl, by kernel_rfl⟩
theorem dF : (Rows.laid_unicode_utf8_first : DataW Unit) = Lib.firstData := by kernel_rfl
theorem dA : (Rows.laid_unicode_utf8_acceptRanges : DataW Unit) = Lib.acceptData := by kernel_rfl
theorem tabs_of {W : World} {laid : List (String × DataW Unit)} (h : laidMet Tryz.prog laid W) (h3 : ("unicode/utf8.first", (Rows.laid_unicode_utf8_first : DataW Unit)) ∈ laid) (h4 : ("unicode/utf8.acceptRanges", (Rows.laid_unicode_utf8_acceptRanges : DataW Unit)) ∈ laid) : K.V.Tabs W := by
  rw [dF] at h3
  rw [dA] at h4
  exact utf8Tabs_of_readsT u8t u8x (Lib.laidMet.reads h h3) (Lib.laidMet.reads h h4)
theorem reach_opsM {H : Type} {ts : List TypeId} {ds : List (DataW H)} (hsz : (DataW.weightsEach Tryz.prog ts ds).all (· ≤ reachBytes) = true) (j : Nat) (ht : ts[j]? = some 22) {d : DataW H} (hd : ds[j]? = some d) {len : Nat}
    (h : d = .nil ∧ len = 0 ∨ ∃ el sp, d = .slice el sp ∧ el.length = len) : len ≤ 800000000000 := by
  rcases h with ⟨_, rfl⟩ | ⟨el, sp, rfl, rfl⟩
  · omega
  · have := sized_slice hsz (j := j) (t := 22) (e := 42) ht hd Tryz.underlying22
    rw [bytes_opM] at this
    simp only [reachBytes] at this
    omega
end Go.Proofs.YtifendlpeebofaaGreatDoor
namespace Go.Proofs.YtifendlpeebofaaGreatDoor
open Go.RowKit Go.Shelf Sq
/-! ### an Id that none has -/
def isF (v : Int) (o : OpM) : Bool := decide (o.id.h = zId.h ∧ 1 ≤ o.id.n ∧ o.id.n < v)
def remF (O : List OpM) (v : Int) : Nat := O.countP fun o => !isF v o
theorem countP_lt {α : Type} {p q : α → Bool} : ∀ {l : List α}, (∀ x ∈ l, p x = true → q x = true) → (∃ x ∈ l, q x = true ∧ p x = false) → l.countP p < l.countP q
  | [], _, ⟨x, hx, _⟩ => by cases hx
  | y :: l, h, ⟨x, hx, h1, h2⟩ => by
    have m : l.countP p ≤ l.countP q := List.countP_mono_left (fun z hz => h z (by simp [hz]))
    rw [List.countP_cons, List.countP_cons]
    rcases List.mem_cons.1 hx with rfl | hx
    · rw [h1, h2]
      simp
      omega
    · have ih := countP_lt (l := l) (fun z hz => h z (by simp [hz])) ⟨x, hx, h1, h2⟩
      have : (if p y = true then 1 else 0) ≤ (if q y = true then 1 else 0) := by
        by_cases e : p y = true
        · rw [if_pos e, if_pos (h y (by simp) e)]; exact Nat.le_refl _
        · rw [if_neg e]; omega
      omega
theorem rem_step {O : List OpM} {v : Int} {o : OpM} (ho : o ∈ O) (e : o.id = idN v) (hv : 1 ≤ v) : remF O (v + 1) + 1 ≤ remF O v := by
  have : remF O (v + 1) < remF O v := by
    unfold remF
    refine countP_lt (fun x _ hx => ?_) ⟨o, ho, ?_, ?_⟩
    · unfold isF at *
      simp only [Bool.not_eq_true', decide_eq_false_iff_not, not_and] at *
      intro a b c
      exact hx a b (by omega)
    · unfold isF
      rw [e]
      simp [idN]
    · unfold isF
      rw [e]
      simp [idN, hv]
      omega
  omega
theorem rem_le (O : List OpM) (v : Int) : remF O v ≤ O.length := List.countP_le_length
theorem rem_done {O : List OpM} {v : Int} (h : remF O v = 0) : ∀ o ∈ O, o.id ≠ idN v := fun o ho e => by
  have := List.countP_eq_zero.1 h o ho
  unfold isF at this
  rw [e] at this
  simp [idN] at this
structure FrI (O : List OpM) (v : Int) : Prop where
  lo : 1 ≤ v
  few : (remF O v : Int) + (v - 1) ≤ O.length
theorem FrI.one (O : List OpM) : FrI O 1 := ⟨by omega, by have := rem_le O 1; omega⟩
theorem FrI.bd {O : List OpM} {v : Int} (h : FrI O v) : v ≤ O.length + 1 := by have := h.few; omega
theorem FrI.next {O : List OpM} {v : Int} (h : FrI O v) {o : OpM} (ho : o ∈ O) (e : o.id = idN v) : FrI O (v + 1) := ⟨by have := h.lo; omega, by have := rem_step ho e h.lo; have := h.few; omega⟩
theorem FrI.end {O : List OpM} {v : Int} (h : FrI O v) (hv : (O.length : Int) ≤ v - 1) : ∀ o ∈ O, o.id ≠ idN v := rem_done (by have := h.few; omega)
theorem addL_ids (k : IdK) : ∀ (O : List OpM) {L : List MkV}, (∀ x ∈ L, x.id ≠ k) → (∀ o ∈ O, o.id ≠ k) → ∀ x ∈ addL L O, x.id ≠ k
  | [], L, h, _ => h
  | o :: O, L, h, ho => addL_ids k O (L := addR L o.mk') (fun x hx => by
    unfold addR at hx
    split at hx
    · rcases List.mem_append.1 hx with hx | hx
      · exact h x hx
      · rw [List.mem_singleton.1 hx]; exact ho o (by simp)
    · exact h x hx) (fun o' ho' => ho o' (by simp [ho']))
/-! ### a mark of no value over all -/
def offV (f : Int) (nm : ByteArray) : MkV := ⟨idN f, nm, zVa, zId, zId, 0⟩
theorem off_add {L : List MkV} {f : Int} {nm : ByteArray} (hf : 1 ≤ f) (h : ∀ x ∈ L, x.id ≠ idN f) : addC L (offV f nm) = if keyB nm = false then 41 else 0 := by
  have hm : hasM L (idN f) = false := by
    cases e : hasM L (idN f) with
    | false => rfl
    | true => obtain ⟨x, hx, q⟩ := hasM_iff.1 e; exact absurd q (h x hx)
  have hr : zVa.right = true := by decide +kernel
  unfold addC offV
  simp only
  rw [if_neg (show ¬ (idN f).n < 1 by show ¬ f < 1; omega), if_neg (by decide), if_neg (by decide), hm, if_neg (by decide), hr, if_neg (show ¬ (true = false) by decide), if_pos (show zVa.k ≤ 7 by decide)]
theorem valC_snoc (C : List SpV) (c : SpV) (j : Int) : valC (C ++ [c]) j = if inC j c = true then (if c.v.k = 0 then none else some c.v) else valC C j := by
  rw [lastI_filter, lastI_filter, List.filter_append]
  by_cases h : inC j c = true
  · rw [if_pos h, show [c].filter (inC j) = [c] by simp [h], List.getLast?_concat]
    rfl
  · rw [if_neg h, show [c].filter (inC j) = [] by simp [h], List.append_nil]
theorem off_hE {E : List Elt} (ok : SeqOk E) (L : List MkV) (f : Int) (name nm : ByteArray) (j : Int) : hE E (L ++ [offV f name]) nm j = if nm = name then none else hE E L nm j := by
  have hr : reachP E (offV f name) = (0, (E.length : Int)) := by
    unfold reachP edgeP offV
    simp
  have h0 : idxE E 0 = 0 := by
    have := idx_cnt ok (r := 0) (Nat.zero_le _)
    simpa [cntE] using this
  have h1 : idxE E (E.length : Int) = ((visE E true).length : Int) := by
    rw [idx_cnt ok (Nat.le_refl _), cntE_len E (Nat.le_refl _)]
  have hc : cvE E (offV f name) = ⟨0, ((visE E true).length : Int), name, zVa⟩ := by
    unfold cvE
    rw [hr]
    simp only
    rw [h0, h1]
    rfl
  by_cases hn : nm = name
  · rw [if_pos hn]
    by_cases hj : j < 0 ∨ ((visE E true).length : Int) ≤ j
    · exact hE_out ok _ _ hj
    · unfold hE
      rw [cvN_snoc, hc, if_pos ⟨by show (0 : Int) < ((visE E true).length : Int); omega, hn⟩, valC_snoc, if_pos (by unfold inC; exact decide_eq_true (by show (0 : Int) ≤ j ∧ j < ((visE E true).length : Int); omega))]
      rfl
  · rw [if_neg hn]
    unfold hE
    rw [cvN_snoc, if_neg (fun q => hn q.2), List.append_nil]
theorem off_is {E : List Elt} (ok : SeqOk E) {L : List MkV} {f : Int} {name : ByteArray} {S : List SpV} (h : SpansIs (hE E L) S) : SpansIs (hE E (L ++ [offV f name])) (S.filter fun p => decide (p.nm ≠ name)) := by
  refine ⟨h.srt.filter _, fun p => ?_⟩
  rw [List.mem_filter, h.mem]
  have e := fun nm j => off_hE ok L f name nm j
  constructor
  · rintro ⟨r, hn⟩
    have hn' : ¬ p.nm = name := of_decide_eq_true hn
    refine ⟨r.1, fun j h1 h2 => ?_, ?_, ?_⟩
    · rw [e, if_neg hn']; exact r.2.1 j h1 h2
    · rw [e, if_neg hn']; exact r.2.2.1
    · rw [e, if_neg hn']; exact r.2.2.2
  · intro r
    have hn' : ¬ p.nm = name := fun q => by
      have := r.2.1 p.fr (Int.le_refl _) r.1
      rw [e, if_pos q] at this
      cases this
    refine ⟨⟨r.1, fun j h1 h2 => ?_, ?_, ?_⟩, decide_eq_true hn'⟩
    · have := r.2.1 j h1 h2; rwa [e, if_neg hn'] at this
    · have := r.2.2.1; rwa [e, if_neg hn'] at this
    · have := r.2.2.2; rwa [e, if_neg hn'] at this
end Go.Proofs.YtifendlpeebofaaGreatDoor
namespace Go.Proofs.YtifendlpeebofaaGreatDoor
open Go.RowKit
theorem build_va (w : World) : (Instr.build 40 #[]).run Tryz.prog w = .ok zVa.v w := by kernel_rfl
theorem ex_neT {w : World} {a : Act} {o : Oper} {x y : Operand} {s t : ByteArray} {r : Bool} (ho : o.op = .binOp .neq 9 x y 9) (hx : a.eval x = .string s) (hy : a.eval y = .string t) (hr : decide (s ≠ t) = r) : (execOp a.eval o).run Tryz.prog w = .ok (.value (.bool r)) w := by
  refine exec_binOp ho hx hy ?_ ?_
  · kernel_rfl
  · have e : (s.toList == t.toList) = !r := by
      subst hr
      by_cases h : s = t
      · subst h; simp
      · rw [decide_eq_true h]
        have : ¬ s.toList = t.toList := fun q => h (ba_inj q)
        simpa using this
    first
      | (go_simp; done)
      | (go_simp; exact e)
def fre0_o0 : Oper := ⟨some 2, .alloc 36, 0, "law.go:198", #[], none⟩
def fre0_ops : Array Oper := #[fre0_o0]
theorem fre0 {b2 : Nat} {w1 : World} (a : Act) (w : World) (Q : Exit → Act → World → Prop) (zz : a.tmps.size = 31)
    (EA : (Instr.alloc 36 true (.tuple #[])).run Tryz.prog w = .ok (.pointer (some ⟨b2, 0, none⟩)) w1)
    (h : ∀ (a' : Act) (w' : World), w' = w1 → a' = (a).put (some 2) (.pointer (some ⟨b2, 0, none⟩)) → Q .normal a' w') :
    (Code.region 0 fre0_ops false).wp Tryz.prog Q a w := by
  refine z0 rfl ?_
  refine zv (v := .pointer (some ⟨b2, 0, none⟩)) rfl (exec_alloc rfl EA) ?_
  exact ze rfl (h _ _ (rfl) rfl)
def fre1_o0 : Oper := ⟨some 6, .build 36 #[(1, Operand.const (Value.int IntKind.i64 1))], 36, "law.go:199", #[], none⟩
def fre1_o1 : Oper := ⟨some 3, .alloc 36, 0, "law.go:199", #[], none⟩
def fre1_o2 : Oper := ⟨none, .store 36 (.tmp 3) (.tmp 6), 0, "law.go:199", #[⟨1, .data⟩, ⟨0, .data⟩, ⟨0, .phase⟩, ⟨1, .phase⟩], none⟩
def fre1_ops : Array Oper := #[fre1_o0, fre1_o1, fre1_o2]
theorem fre1 {b3 : Nat} {w1 w2 : World} (a : Act) (w : World) (Q : Exit → Act → World → Prop) (zz : a.tmps.size = 31)
    (EA : (Instr.alloc 36 true (.tuple #[])).run Tryz.prog w = .ok (.pointer (some ⟨b3, 0, none⟩)) w1) (ES : (Instr.storeAt 36 (.pointer (some ⟨b3, 0, none⟩)) ((idN 1).v)).run Tryz.prog w1 = .ok () w2)
    (h : ∀ (a' : Act) (w' : World), w' = w2 → a' = ((a).put (some 6) ((idN 1).v)).put (some 3) (.pointer (some ⟨b3, 0, none⟩)) → Q .normal a' w') :
    (Code.region 1 fre1_ops false).wp Tryz.prog Q a w := by
  refine z0 rfl ?_
  refine zv rfl (exec_build1 rfl rfl (build_idN _ _)) ?_
  refine zv (v := .pointer (some ⟨b3, 0, none⟩)) rfl (exec_alloc rfl EA) ?_
  refine zs rfl (exec_store rfl (zg zz rfl) (zg zz rfl) ES) ?_
  exact ze rfl (h _ _ (rfl) rfl)
def fre8_o0 : Oper := ⟨some 19, .move (.tmp 0), 22, "law.go:202", #[], none⟩
def fre8_o1 : Oper := ⟨some 20, .move (.tmp 5), 3, "law.go:202", #[], none⟩
def fre8_o2 : Oper := ⟨some 21, .indexAddr 22 (.tmp 19) (.tmp 20), 0, "law.go:202", #[⟨0, .data⟩, ⟨1, .data⟩], none⟩
def fre8_o3 : Oper := ⟨some 22, .fieldAddr 42 (.tmp 21) 1, 0, "law.go:202", #[⟨2, .data⟩], none⟩
def fre8_o4 : Oper := ⟨some 23, .load 36 (.tmp 22), 36, "law.go:202", #[⟨3, .data⟩], none⟩
def fre8_o5 : Oper := ⟨some 24, .load 36 (.tmp 3), 36, "law.go:202", #[], none⟩
def fre8_o6 : Oper := ⟨some 25, .binOp BinOp.eql 36 (.tmp 23) (.tmp 24) 36, 4, "law.go:202", #[⟨4, .data⟩, ⟨5, .data⟩], none⟩
def fre8_ops : Array Oper := #[fre8_o0, fre8_o1, fre8_o2, fre8_o3, fre8_o4, fre8_o5, fre8_o6]
theorem fre8 {b3 g o n c j : Nat} {q k : IdK} {r : Bool} (S : World → Prop) (a : Act) (w : World) (Q : Exit → Act → World → Prop) (zz : a.tmps.size = 31)
    (t0 : a.tmps.getD 0 undef = .slice (some ⟨g, o, none⟩) n c)
    (t3 : a.tmps.getD 3 undef = .pointer (some ⟨b3, 0, none⟩))
    (t5 : a.tmps.getD 5 undef = .int .i64 (j : Int))
    (h0 : S w.drew) (hi : j < n) (hm : n ≤ 9223372036854775807) (hq : q.ok) (hk : k.ok) (hz : decide (q = k) = r) (LX : ∀ W, S W → (Instr.loadAt 36 (.pointer (some ⟨g, o + 106 * j + 1, none⟩))).run Tryz.prog W = .ok (q.v) W) (LK : ∀ W, S W → (Instr.loadAt 36 (.pointer (some ⟨b3, 0, none⟩))).run Tryz.prog W = .ok (k.v) W)
    (h : ∀ (a' : Act) (w' : World), S w' → a' = (((((((a).put (some 19) (.slice (some ⟨g, o, none⟩) n c)).put (some 20) (.int .i64 (j : Int))).put (some 21) (.pointer (some ⟨g, o + 106 * j, none⟩))).put (some 22) (.pointer (some ⟨g, o + 106 * j + 1, none⟩))).put (some 23) (q.v)).put (some 24) (k.v)).put (some 25) (.bool r) → Q .normal a' w') :
    (Code.region 8 fre8_ops true).wp Tryz.prog Q a w := by
  refine y0 (fun w' => S w') (h0) (fun hHeld => ?_)
  refine yv 0 rfl rfl (fun w1 hw => xmv rfl (zi t0 rfl)) hHeld ?_
  refine yv 1 rfl rfl (fun w1 hw => xmv rfl (zi t5 rfl)) hHeld ?_
  refine yv 2 rfl rfl (fun w1 hw => xia rfl (zg zz rfl) (zg zz rfl) (ix_op hi hm _)) hHeld ?_
  refine yv 3 rfl rfl (fun w1 hw => xfa rfl (zg zz rfl) (fg_42_1 _ _ _)) hHeld ?_
  refine yv 4 rfl rfl (fun w1 hw => xld rfl (zg zz rfl) (LX _ hw)) hHeld ?_
  refine yv 5 rfl rfl (fun w1 hw => xld rfl (zi t3 rfl) (LK _ hw)) hHeld ?_
  refine yv (v := .bool r) 6 rfl rfl (fun w1 hw => ex_eqlI rfl (zg zz rfl) (zg zz rfl) hq hk hz) hHeld ?_
  exact ye rfl (h _ _ (hHeld) rfl)
def fre9_o0 : Oper := ⟨some 26, .fieldAddr 36 (.tmp 3) 1, 0, "law.go:203", #[], none⟩
def fre9_o1 : Oper := ⟨some 27, .load 3 (.tmp 26), 3, "law.go:203", #[⟨0, .data⟩], none⟩
def fre9_o2 : Oper := ⟨some 28, .binOp BinOp.add 3 (.tmp 27) (Operand.const (Value.int IntKind.i64 1)) 3, 3, "law.go:203", #[⟨1, .data⟩], none⟩
def fre9_o3 : Oper := ⟨some 29, .fieldAddr 36 (.tmp 3) 1, 0, "law.go:203", #[⟨0, .phase⟩, ⟨1, .phase⟩, ⟨2, .phase⟩], none⟩
def fre9_o4 : Oper := ⟨none, .store 3 (.tmp 29) (.tmp 28), 0, "law.go:203", #[⟨3, .data⟩, ⟨2, .data⟩, ⟨0, .phase⟩, ⟨1, .phase⟩, ⟨2, .phase⟩], none⟩
def fre9_ops : Array Oper := #[fre9_o0, fre9_o1, fre9_o2, fre9_o3, fre9_o4]
theorem fre9 {b3 : Nat} {v : Int} {w1 : World} (a : Act) (w : World) (Q : Exit → Act → World → Prop) (zz : a.tmps.size = 31)
    (t3 : a.tmps.getD 3 undef = .pointer (some ⟨b3, 0, none⟩))
    (hb : -9223372036854775808 ≤ v + 1 ∧ v + 1 ≤ 9223372036854775807) (LN : (Instr.loadAt 3 (.pointer (some ⟨b3, 0 + 32, none⟩))).run Tryz.prog w = .ok (.int .i64 v) w) (ES : (Instr.storeAt 3 (.pointer (some ⟨b3, 0 + 32, none⟩)) (.int .i64 (v + 1))).run Tryz.prog w = .ok () w1)
    (h : ∀ (a' : Act) (w' : World), w' = w1 → a' = ((((a).put (some 26) (.pointer (some ⟨b3, 0 + 32, none⟩))).put (some 27) (.int .i64 v)).put (some 28) (.int .i64 (v + 1))).put (some 29) (.pointer (some ⟨b3, 0 + 32, none⟩)) → Q .normal a' w') :
    (Code.region 9 fre9_ops false).wp Tryz.prog Q a w := by
  refine z0 rfl ?_
  refine zv rfl (xfa rfl (zi t3 rfl) (fg_36_1 _ _ _)) ?_
  refine zv rfl (xld rfl (zg zz rfl) LN) ?_
  refine zv (v := .int .i64 (v + 1)) rfl (ex_add rfl (zg zz rfl) rfl hb) ?_
  refine zv rfl (xfa rfl (zi t3 rfl) (fg_36_1 _ _ _)) ?_
  refine zs rfl (exec_store rfl (zg zz rfl) (zg zz rfl) ES) ?_
  exact ze rfl (h _ _ (rfl) rfl)
def fre10_o0 : Oper := ⟨some 30, .load 36 (.tmp 3), 36, "law.go:207", #[], none⟩
def fre10_o1 : Oper := ⟨none, .store 36 (.tmp 2) (.tmp 30), 0, "law.go:207", #[⟨0, .data⟩, ⟨0, .phase⟩], none⟩
def fre10_ops : Array Oper := #[fre10_o0, fre10_o1]
theorem fre10 {b2 b3 : Nat} {k : IdK} {w1 : World} (a : Act) (w : World) (Q : Exit → Act → World → Prop) (zz : a.tmps.size = 31)
    (t2 : a.tmps.getD 2 undef = .pointer (some ⟨b2, 0, none⟩))
    (t3 : a.tmps.getD 3 undef = .pointer (some ⟨b3, 0, none⟩))
    (LK : (Instr.loadAt 36 (.pointer (some ⟨b3, 0, none⟩))).run Tryz.prog w = .ok (k.v) w) (ES : (Instr.storeAt 36 (.pointer (some ⟨b2, 0, none⟩)) (k.v)).run Tryz.prog w = .ok () w1)
    (h : ∀ (a' : Act) (w' : World), w' = w1 → a' = (a).put (some 30) (k.v) → Q .normal a' w') :
    (Code.region 10 fre10_ops false).wp Tryz.prog Q a w := by
  refine z0 rfl ?_
  refine zv rfl (xld rfl (zi t3 rfl) LK) ?_
  refine zs rfl (exec_store rfl (zi t2 rfl) (zg zz rfl) ES) ?_
  exact ze rfl (h _ _ (rfl) rfl)
def off1_o0 : Oper := ⟨some 15, .move (.tmp 0), 3, "law.go:212", #[], none⟩
def off1_o1 : Oper := ⟨some 16, .call { callee := Callee.value (Operand.func 33), args := #[.tmp 15], argTypes := #[3] }, 3, "law.go:212", #[⟨0, .data⟩], none⟩
def off1_o2 : Oper := ⟨some 17, .move (.tmp 1), 22, "law.go:212", #[], none⟩
def off1_o3 : Oper := ⟨some 18, .call { callee := Callee.value (Operand.func 32), args := #[.tmp 16, .tmp 17], argTypes := #[3, 22] }, 60, "law.go:212", #[⟨1, .data⟩, ⟨2, .data⟩, ⟨1, .chain⟩], none⟩
def off1_o4 : Oper := ⟨some 14, .move (.tmp 18), 60, "law.go:212", #[⟨3, .data⟩], none⟩
def off1_o5 : Oper := ⟨some 19, .extract (.tmp 14) 0, 23, "law.go:212", #[⟨4, .data⟩], none⟩
def off1_o6 : Oper := ⟨some 20, .extract (.tmp 14) 1, 27, "law.go:212", #[⟨4, .data⟩, { on := 8, ground := Ground.gcOnly Departure.lateStores }], none⟩
def off1_o7 : Oper := ⟨some 21, .extract (.tmp 14) 2, 4, "law.go:212", #[⟨4, .data⟩, { on := 9, ground := Ground.gcOnly Departure.lateStores }], none⟩
def off1_o8 : Oper := ⟨some 7, .assign (.tmp 19), 23, "law.go:212", #[⟨5, .data⟩, ⟨3, .chain⟩, ⟨0, .phase⟩, ⟨1, .phase⟩, ⟨2, .phase⟩, ⟨3, .phase⟩, ⟨4, .phase⟩, ⟨5, .phase⟩, { on := 6, ground := Ground.textOnly Departure.lateStores }, { on := 7, ground := Ground.textOnly Departure.lateStores }], none⟩
def off1_o9 : Oper := ⟨some 8, .assign (.tmp 20), 27, "law.go:212", #[⟨6, .data⟩, ⟨8, .chain⟩, ⟨0, .phase⟩, ⟨1, .phase⟩, ⟨2, .phase⟩, ⟨3, .phase⟩, ⟨4, .phase⟩, ⟨5, .phase⟩, ⟨6, .phase⟩, { on := 7, ground := Ground.textOnly Departure.lateStores }, ⟨8, .phase⟩], none⟩
def off1_o10 : Oper := ⟨some 9, .assign (.tmp 21), 4, "law.go:212", #[⟨7, .data⟩, ⟨9, .chain⟩, ⟨0, .phase⟩, ⟨1, .phase⟩, ⟨2, .phase⟩, ⟨3, .phase⟩, ⟨4, .phase⟩, ⟨5, .phase⟩, ⟨6, .phase⟩, ⟨7, .phase⟩, ⟨8, .phase⟩, ⟨9, .phase⟩], none⟩
def off1_ops : Array Oper := #[off1_o0, off1_o1, off1_o2, off1_o3, off1_o4, off1_o5, off1_o6, off1_o7, off1_o8, off1_o9, off1_o10]
theorem off1 {n k : Int} {lv : Value} (Fin : Nat → Nat → World → Prop) (a : Act) (w : World) (Q : Exit → Act → World → Prop) (zz : a.tmps.size = 76)
    (t0 : a.tmps.getD 0 undef = .int .i64 n)
    (t1 : a.tmps.getD 1 undef = lv)
    (CS : Calls Tryz.prog 33 #[.int .i64 n] w fun e w1 => e = .returned (.int .i64 k) ∧ Calls Tryz.prog 32 #[.int .i64 k, lv] w1 fun e w2 => ∃ sb mb, e = .returned (.tuple #[.pointer (some ⟨sb, 0, none⟩), .pointer (some ⟨mb, 0, none⟩), .bool true]) ∧ Fin sb mb w2)
    (h : ∀ (sb mb : Nat) (a' : Act) (w' : World), Fin sb mb w' → a' = (((((((((((a).put (some 15) (.int .i64 n)).put (some 16) (.int .i64 k)).put (some 17) (lv)).put (some 18) (.tuple #[.pointer (some ⟨sb, 0, none⟩), .pointer (some ⟨mb, 0, none⟩), .bool true])).put (some 14) (.tuple #[.pointer (some ⟨sb, 0, none⟩), .pointer (some ⟨mb, 0, none⟩), .bool true])).put (some 19) (.pointer (some ⟨sb, 0, none⟩))).put (some 20) (.pointer (some ⟨mb, 0, none⟩))).put (some 21) (.bool true)).put (some 7) (.pointer (some ⟨sb, 0, none⟩))).put (some 8) (.pointer (some ⟨mb, 0, none⟩))).put (some 9) (.bool true) → Q .normal a' w') :
    (Code.region 1 off1_ops false).wp Tryz.prog Q a w := by
  refine z0 rfl ?_
  refine zv rfl (xmv rfl (zi t0 rfl)) ?_
  refine zc rfl (exec_c1 rfl (zg zz rfl)) (CS) (fun e x1 hx => ?_)
  obtain ⟨rfl, CL⟩ := hx
  refine ⟨_, rfl, ?_⟩
  refine zv rfl (xmv rfl (zi t1 rfl)) ?_
  refine zc rfl (exec_c2 rfl (zg zz rfl) (zg zz rfl)) (CL) (fun e x3 hx => ?_)
  obtain ⟨sb, mb, rfl, HF⟩ := hx
  replace h := h sb mb
  refine ⟨_, rfl, ?_⟩
  refine zv rfl (xmv rfl (zg zz rfl)) ?_
  refine zv rfl (exec_extract rfl (zg zz rfl) rfl) ?_
  refine zv rfl (exec_extract rfl (zg zz rfl) rfl) ?_
  refine zv rfl (exec_extract rfl (zg zz rfl) rfl) ?_
  refine zv rfl (xas rfl (zg zz rfl)) ?_
  refine zv rfl (xas rfl (zg zz rfl)) ?_
  refine zv rfl (xas rfl (zg zz rfl)) ?_
  exact ze rfl (h _ _ (HF) rfl)
def off5_o0 : Oper := ⟨some 24, .move (.tmp 8), 27, "law.go:217", #[], none⟩
def off5_o1 : Oper := ⟨some 25, .move (.tmp 7), 23, "law.go:217", #[], none⟩
def off5_o2 : Oper := ⟨some 26, .call { callee := Callee.value (Operand.func 25), args := #[.tmp 24, .tmp 25], argTypes := #[27, 23] }, 49, "law.go:217", #[⟨0, .data⟩, ⟨1, .data⟩], none⟩
def off5_o3 : Oper := ⟨some 11, .assign (.tmp 26), 49, "law.go:217", #[⟨2, .data⟩, ⟨2, .chain⟩, ⟨0, .phase⟩, ⟨1, .phase⟩, ⟨2, .phase⟩], none⟩
def off5_ops : Array Oper := #[off5_o0, off5_o1, off5_o2, off5_o3]
theorem off5 {sb mb : Nat} (Fin : Value → World → Prop) (a : Act) (w : World) (Q : Exit → Act → World → Prop) (zz : a.tmps.size = 76)
    (t7 : a.tmps.getD 7 undef = .pointer (some ⟨sb, 0, none⟩))
    (t8 : a.tmps.getD 8 undef = .pointer (some ⟨mb, 0, none⟩))
    (CP : Calls Tryz.prog 25 #[.pointer (some ⟨mb, 0, none⟩), .pointer (some ⟨sb, 0, none⟩)] w fun e w1 => ∃ v, e = .returned v ∧ Fin v w1)
    (h : ∀ (v : Value) (a' : Act) (w' : World), Fin v w' → a' = ((((a).put (some 24) (.pointer (some ⟨mb, 0, none⟩))).put (some 25) (.pointer (some ⟨sb, 0, none⟩))).put (some 26) (v)).put (some 11) (v) → Q .normal a' w') :
    (Code.region 5 off5_ops false).wp Tryz.prog Q a w := by
  refine z0 rfl ?_
  refine zv rfl (xmv rfl (zi t8 rfl)) ?_
  refine zv rfl (xmv rfl (zi t7 rfl)) ?_
  refine zc rfl (exec_c2 rfl (zg zz rfl) (zg zz rfl)) (CP) (fun e x2 hx => ?_)
  obtain ⟨v, rfl, HF⟩ := hx
  replace h := h v
  refine ⟨_, rfl, ?_⟩
  refine zv rfl (xas rfl (zg zz rfl)) ?_
  exact ze rfl (h _ _ (HF) rfl)
def off9_o0 : Oper := ⟨some 33, .move (.tmp 11), 49, "law.go:219", #[], none⟩
def off9_o1 : Oper := ⟨some 34, .move (.tmp 12), 3, "law.go:219", #[], none⟩
def off9_o2 : Oper := ⟨some 35, .indexAddr 49 (.tmp 33) (.tmp 34), 0, "law.go:219", #[⟨0, .data⟩, ⟨1, .data⟩], none⟩
def off9_o3 : Oper := ⟨some 36, .fieldAddr 65 (.tmp 35) 2, 0, "law.go:219", #[⟨2, .data⟩], none⟩
def off9_o4 : Oper := ⟨some 37, .load 9 (.tmp 36), 9, "law.go:219", #[⟨3, .data⟩], none⟩
def off9_o5 : Oper := ⟨some 38, .move (.tmp 2), 9, "law.go:219", #[], none⟩
def off9_o6 : Oper := ⟨some 39, .binOp BinOp.neq 9 (.tmp 37) (.tmp 38) 9, 4, "law.go:219", #[⟨4, .data⟩, ⟨5, .data⟩], none⟩
def off9_ops : Array Oper := #[off9_o0, off9_o1, off9_o2, off9_o3, off9_o4, off9_o5, off9_o6]
theorem off9 {g o n c i : Nat} {x : SpV} {nm : ByteArray} {r : Bool} (a : Act) (w : World) (Q : Exit → Act → World → Prop) (zz : a.tmps.size = 76)
    (t2 : a.tmps.getD 2 undef = .string nm)
    (t11 : a.tmps.getD 11 undef = .slice (some ⟨g, o, none⟩) n c)
    (t12 : a.tmps.getD 12 undef = .int .i64 (i : Int))
    (hi : i < n) (hm : n ≤ 9223372036854775807) (hr : decide (x.nm ≠ nm) = r) (LN : (Instr.loadAt 9 (.pointer (some ⟨g, o + 7 * i + 2, none⟩))).run Tryz.prog w = .ok (.string x.nm) w)
    (h : ∀ (a' : Act) (w' : World), w' = w → a' = (((((((a).put (some 33) (.slice (some ⟨g, o, none⟩) n c)).put (some 34) (.int .i64 (i : Int))).put (some 35) (.pointer (some ⟨g, o + 7 * i, none⟩))).put (some 36) (.pointer (some ⟨g, o + 7 * i + 2, none⟩))).put (some 37) (.string x.nm)).put (some 38) (.string nm)).put (some 39) (.bool r) → Q .normal a' w') :
    (Code.region 9 off9_ops false).wp Tryz.prog Q a w := by
  refine z0 rfl ?_
  refine zv rfl (xmv rfl (zi t11 rfl)) ?_
  refine zv rfl (xmv rfl (zi t12 rfl)) ?_
  refine zv rfl (xia rfl (zg zz rfl) (zg zz rfl) (ix_sp hi hm _)) ?_
  refine zv rfl (xfa rfl (zg zz rfl) (fg_65_2 _ _ _)) ?_
  refine zv rfl (xld rfl (zg zz rfl) LN) ?_
  refine zv rfl (xmv rfl (zi t2 rfl)) ?_
  refine zv (v := .bool r) rfl (ex_neT rfl (zg zz rfl) (zg zz rfl) hr) ?_
  exact ze rfl (h _ _ (rfl) rfl)
def off10_o0 : Oper := ⟨some 40, .move (.tmp 10), 49, "law.go:220", #[], none⟩
def off10_o1 : Oper := ⟨some 41, .move (.tmp 11), 49, "law.go:220", #[], none⟩
def off10_o2 : Oper := ⟨some 42, .move (.tmp 12), 3, "law.go:220", #[], none⟩
def off10_o3 : Oper := ⟨some 43, .indexAddr 49 (.tmp 41) (.tmp 42), 0, "law.go:220", #[⟨1, .data⟩, ⟨2, .data⟩], none⟩
def off10_o4 : Oper := ⟨some 44, .load 65 (.tmp 43), 65, "law.go:220", #[⟨3, .data⟩], none⟩
def off10_o5 : Oper := ⟨some 45, .buildSlice 49 1 #[(0, .tmp 44)], 49, "law.go:220", #[⟨4, .data⟩], none⟩
def off10_o6 : Oper := ⟨some 46, .call { callee := Callee.builtin Builtin.append, args := #[.tmp 40, .tmp 45], argTypes := #[49, 49] }, 49, "law.go:220", #[⟨0, .data⟩, ⟨5, .data⟩], none⟩
def off10_o7 : Oper := ⟨some 10, .assign (.tmp 46), 49, "law.go:220", #[⟨6, .data⟩, ⟨6, .chain⟩, ⟨0, .phase⟩, ⟨1, .phase⟩, ⟨2, .phase⟩, ⟨3, .phase⟩, ⟨4, .phase⟩, ⟨5, .phase⟩, ⟨6, .phase⟩], none⟩
def off10_ops : Array Oper := #[off10_o0, off10_o1, off10_o2, off10_o3, off10_o4, off10_o5, off10_o6, off10_o7]
theorem off10 {g o n c i : Nat} {x : SpV} {wv sv v2 : Value} {w1 w2 : World} (a : Act) (w : World) (Q : Exit → Act → World → Prop) (zz : a.tmps.size = 76)
    (t10 : a.tmps.getD 10 undef = wv)
    (t11 : a.tmps.getD 11 undef = .slice (some ⟨g, o, none⟩) n c)
    (t12 : a.tmps.getD 12 undef = .int .i64 (i : Int))
    (hi : i < n) (hm : n ≤ 9223372036854775807) (LX : (Instr.loadAt 65 (.pointer (some ⟨g, o + 7 * i, none⟩))).run Tryz.prog w = .ok (x.a) w) (EB : (Instr.buildSlice 49 1 #[(0, x.a)]).run Tryz.prog w = .ok sv w1) (EA : (Builtin.append_ #[49, 49] 49 #[wv, sv]).run Tryz.prog w1 = .ok v2 w2)
    (h : ∀ (a' : Act) (w' : World), w' = w2 → a' = ((((((((a).put (some 40) (wv)).put (some 41) (.slice (some ⟨g, o, none⟩) n c)).put (some 42) (.int .i64 (i : Int))).put (some 43) (.pointer (some ⟨g, o + 7 * i, none⟩))).put (some 44) (x.a)).put (some 45) (sv)).put (some 46) (v2)).put (some 10) (v2) → Q .normal a' w') :
    (Code.region 10 off10_ops false).wp Tryz.prog Q a w := by
  refine z0 rfl ?_
  refine zv rfl (xmv rfl (zi t10 rfl)) ?_
  refine zv rfl (xmv rfl (zi t11 rfl)) ?_
  refine zv rfl (xmv rfl (zi t12 rfl)) ?_
  refine zv rfl (xia rfl (zg zz rfl) (zg zz rfl) (ix_sp hi hm _)) ?_
  refine zv rfl (xld rfl (zg zz rfl) LX) ?_
  refine zv (v := sv) rfl (exec_buildSlice rfl (zg zz rfl) EB) ?_
  refine zv (v := v2) rfl (exec_append rfl (zg zz rfl) (zg zz rfl) EA) ?_
  refine zv rfl (xas rfl (zg zz rfl)) ?_
  exact ze rfl (h _ _ (rfl) rfl)
def off11_o0 : Oper := ⟨some 47, .move (.tmp 8), 27, "law.go:223", #[], none⟩
def off11_o1 : Oper := ⟨some 48, .move (.tmp 1), 22, "law.go:223", #[], none⟩
def off11_o2 : Oper := ⟨some 49, .call { callee := Callee.value (Operand.func 36), args := #[.tmp 48], argTypes := #[22] }, 36, "law.go:223", #[⟨1, .data⟩], none⟩
def off11_o3 : Oper := ⟨some 50, .move (.tmp 2), 9, "law.go:223", #[], none⟩
def off11_o4 : Oper := ⟨some 51, .build 40 #[], 40, "law.go:223", #[], none⟩
def off11_o5 : Oper := ⟨some 52, .build 36 #[], 36, "law.go:223", #[], none⟩
def off11_o6 : Oper := ⟨some 53, .build 36 #[], 36, "law.go:223", #[], none⟩
def off11_o7 : Oper := ⟨some 54, .call { callee := Callee.value (Operand.func 12), args := #[.tmp 47, .tmp 49, .tmp 50, .tmp 51, .tmp 52, .tmp 53, Operand.const (Value.int IntKind.i64 0)], argTypes := #[27, 36, 9, 40, 36, 36, 3] }, 43, "law.go:223", #[⟨0, .data⟩, ⟨2, .data⟩, ⟨3, .data⟩, ⟨4, .data⟩, ⟨5, .data⟩, ⟨6, .data⟩, ⟨2, .chain⟩], none⟩
def off11_o8 : Oper := ⟨some 13, .assign (.tmp 54), 43, "law.go:223", #[⟨7, .data⟩, ⟨7, .chain⟩, ⟨0, .phase⟩, ⟨1, .phase⟩, ⟨2, .phase⟩, ⟨3, .phase⟩, ⟨4, .phase⟩, ⟨5, .phase⟩, ⟨6, .phase⟩, ⟨7, .phase⟩], none⟩
def off11_ops : Array Oper := #[off11_o0, off11_o1, off11_o2, off11_o3, off11_o4, off11_o5, off11_o6, off11_o7, off11_o8]
theorem off11 {mb : Nat} {nm : ByteArray} {lv : Value} {c : Int} (Fin : World → Prop) (a : Act) (w : World) (Q : Exit → Act → World → Prop) (zz : a.tmps.size = 76)
    (t1 : a.tmps.getD 1 undef = lv)
    (t2 : a.tmps.getD 2 undef = .string nm)
    (t8 : a.tmps.getD 8 undef = .pointer (some ⟨mb, 0, none⟩))
    (CF : Calls Tryz.prog 36 #[lv] w fun e w1 => ∃ k : IdK, e = .returned k.v ∧ Calls Tryz.prog 12 #[.pointer (some ⟨mb, 0, none⟩), k.v, .string nm, zVa.v, zId.v, zId.v, .int .i64 0] w1 fun e w2 => e = .returned (.int .i64 c) ∧ Fin w2)
    (h : ∀ (k : IdK) (a' : Act) (w' : World), Fin w' → a' = (((((((((a).put (some 47) (.pointer (some ⟨mb, 0, none⟩))).put (some 48) (lv)).put (some 49) (k.v)).put (some 50) (.string nm)).put (some 51) (zVa.v)).put (some 52) (zId.v)).put (some 53) (zId.v)).put (some 54) (.int .i64 c)).put (some 13) (.int .i64 c) → Q .normal a' w') :
    (Code.region 11 off11_ops false).wp Tryz.prog Q a w := by
  refine z0 rfl ?_
  refine zv rfl (xmv rfl (zi t8 rfl)) ?_
  refine zv rfl (xmv rfl (zi t1 rfl)) ?_
  refine zc rfl (exec_c1 rfl (zg zz rfl)) (CF) (fun e x2 hx => ?_)
  obtain ⟨k, rfl, CA⟩ := hx
  replace h := h k
  refine ⟨_, rfl, ?_⟩
  refine zv rfl (xmv rfl (zi t2 rfl)) ?_
  refine zv rfl (exec_build0 rfl (build_va _)) ?_
  refine zv rfl (exec_build0 rfl (build_id _)) ?_
  refine zv rfl (exec_build0 rfl (build_id _)) ?_
  refine zc rfl (exec_c7 rfl (zg zz rfl) (zg zz rfl) (zg zz rfl) (zg zz rfl) (zg zz rfl) (zg zz rfl) rfl) (CA) (fun e x7 hx => ?_)
  obtain ⟨rfl, HF⟩ := hx
  refine ⟨_, rfl, ?_⟩
  refine zv rfl (xas rfl (zg zz rfl)) ?_
  exact ze rfl (h _ _ (HF) rfl)
def off12_o0 : Oper := ⟨some 55, .move (.tmp 2), 9, "law.go:224", #[], none⟩
def off12_o1 : Oper := ⟨some 56, .call { callee := Callee.value (Operand.func 37), args := #[.tmp 55], argTypes := #[9] }, 4, "law.go:224", #[⟨0, .data⟩], none⟩
def off12_o2 : Oper := ⟨some 57, .unOp UnOp.not 4 (.tmp 56), 4, "law.go:224", #[⟨1, .data⟩], none⟩
def off12_ops : Array Oper := #[off12_o0, off12_o1, off12_o2]
theorem off12 {nm : ByteArray} {r : Bool} (Fin : World → Prop) (a : Act) (w : World) (Q : Exit → Act → World → Prop) (zz : a.tmps.size = 76)
    (t2 : a.tmps.getD 2 undef = .string nm)
    (CK : Calls Tryz.prog 37 #[.string nm] w fun e w' => e = .returned (.bool r) ∧ Fin w')
    (h : ∀ (a' : Act) (w' : World), Fin w' → a' = (((a).put (some 55) (.string nm)).put (some 56) (.bool r)).put (some 57) (.bool (!r)) → Q .normal a' w') :
    (Code.region 12 off12_ops false).wp Tryz.prog Q a w := by
  refine z0 rfl ?_
  refine zv rfl (xmv rfl (zi t2 rfl)) ?_
  refine zc rfl (exec_c1 rfl (zg zz rfl)) (CK) (fun e x1 hx => ?_)
  obtain ⟨rfl, HF⟩ := hx
  refine ⟨_, rfl, ?_⟩
  refine zv rfl (exec_not rfl (zg zz rfl)) ?_
  exact ze rfl (h _ _ (HF) rfl)
def off13_o0 : Oper := ⟨some 58, .move (.tmp 13), 43, "law.go:225", #[], none⟩
def off13_o1 : Oper := ⟨some 59, .binOp BinOp.eql 43 (.tmp 58) (Operand.const (Value.int IntKind.i64 41)) 43, 4, "law.go:225", #[⟨0, .data⟩], none⟩
def off13_o2 : Oper := ⟨some 60, .move (.tmp 59), 4, "law.go:225", #[⟨1, .data⟩], none⟩
def off13_o3 : Oper := ⟨some 61, .move (.tmp 8), 27, "law.go:225", #[⟨2, .guard⟩], some (2, true)⟩
def off13_o4 : Oper := ⟨some 62, .move (.tmp 7), 23, "law.go:225", #[⟨2, .guard⟩], some (2, true)⟩
def off13_o5 : Oper := ⟨some 63, .call { callee := Callee.value (Operand.func 25), args := #[.tmp 61, .tmp 62], argTypes := #[27, 23] }, 49, "law.go:225", #[⟨3, .data⟩, ⟨4, .data⟩, ⟨2, .chain⟩, ⟨2, .guard⟩], some (2, true)⟩
def off13_o6 : Oper := ⟨some 64, .move (.tmp 11), 49, "law.go:225", #[⟨2, .guard⟩], some (2, true)⟩
def off13_o7 : Oper := ⟨some 65, .call { callee := Callee.value (Operand.func 22), args := #[.tmp 63, .tmp 64], argTypes := #[49, 49] }, 4, "law.go:225", #[⟨5, .data⟩, ⟨6, .data⟩, ⟨5, .chain⟩, ⟨2, .guard⟩], some (2, true)⟩
def off13_o8 : Oper := ⟨some 66, .pick (.tmp 60) (.tmp 65) (Operand.const (Value.bool false)), 4, "law.go:225", #[⟨2, .data⟩, ⟨7, .data⟩], none⟩
def off13_o9 : Oper := ⟨some 6, .assign (.tmp 66), 4, "law.go:225", #[⟨8, .data⟩, ⟨7, .chain⟩, ⟨0, .phase⟩, ⟨1, .phase⟩, ⟨2, .phase⟩, ⟨3, .phase⟩, ⟨4, .phase⟩, ⟨5, .phase⟩, ⟨6, .phase⟩, ⟨7, .phase⟩, ⟨8, .phase⟩], none⟩
def off13_ops : Array Oper := #[off13_o0, off13_o1, off13_o2, off13_o3, off13_o4, off13_o5, off13_o6, off13_o7, off13_o8, off13_o9]
theorem off13 {sb mb : Nat} {v0 : Value} (Fin : World → Prop) (a : Act) (w : World) (Q : Exit → Act → World → Prop) (zz : a.tmps.size = 76)
    (t7 : a.tmps.getD 7 undef = .pointer (some ⟨sb, 0, none⟩))
    (t8 : a.tmps.getD 8 undef = .pointer (some ⟨mb, 0, none⟩))
    (t11 : a.tmps.getD 11 undef = v0)
    (t13 : a.tmps.getD 13 undef = .int .i64 41)
    (C2 : Calls Tryz.prog 25 #[.pointer (some ⟨mb, 0, none⟩), .pointer (some ⟨sb, 0, none⟩)] w fun e w2 => ∃ v, e = .returned v ∧ Calls Tryz.prog 22 #[v, v0] w2 fun e w3 => e = .returned (.bool true) ∧ Fin w3)
    (h : ∀ (v : Value) (a' : Act) (w' : World), Fin w' → a' = ((((((((((a).put (some 58) (.int .i64 41)).put (some 59) (.bool true)).put (some 60) (.bool true)).put (some 61) (.pointer (some ⟨mb, 0, none⟩))).put (some 62) (.pointer (some ⟨sb, 0, none⟩))).put (some 63) (v)).put (some 64) (v0)).put (some 65) (.bool true)).put (some 66) (.bool true)).put (some 6) (.bool true) → Q .normal a' w') :
    (Code.region 13 off13_ops false).wp Tryz.prog Q a w := by
  refine z0 rfl ?_
  refine zv rfl (xmv rfl (zi t13 rfl)) ?_
  refine zv (v := .bool true) rfl (ex_eqlE rfl (zg zz rfl) rfl (decide_eq_true rfl)) ?_
  refine zv rfl (xmv rfl (zg zz rfl)) ?_
  refine zv (zw zz rfl rfl rfl (zg zz rfl)) (xmv rfl (zi t8 rfl)) ?_
  refine zv (zw zz rfl rfl rfl (zg zz rfl)) (xmv rfl (zi t7 rfl)) ?_
  refine zc (zw zz rfl rfl rfl (zg zz rfl)) (exec_c2 rfl (zg zz rfl) (zg zz rfl)) (C2) (fun e x5 hx => ?_)
  obtain ⟨v, rfl, C3⟩ := hx
  replace h := h v
  refine ⟨_, rfl, ?_⟩
  refine zv (zw zz rfl rfl rfl (zg zz rfl)) (xmv rfl (zi t11 rfl)) ?_
  refine zc (zw zz rfl rfl rfl (zg zz rfl)) (exec_c2 rfl (zg zz rfl) (zg zz rfl)) (C3) (fun e x7 hx => ?_)
  obtain ⟨rfl, HF⟩ := hx
  refine ⟨_, rfl, ?_⟩
  refine zv rfl (exec_pickT rfl (zg zz rfl) (zg zz rfl)) ?_
  refine zv rfl (xas rfl (zg zz rfl)) ?_
  exact ze rfl (h _ _ (HF) rfl)
def off14_o0 : Oper := ⟨some 67, .move (.tmp 13), 43, "law.go:227", #[], none⟩
def off14_o1 : Oper := ⟨some 68, .binOp BinOp.eql 43 (.tmp 67) (Operand.const (Value.int IntKind.i64 0)) 43, 4, "law.go:227", #[⟨0, .data⟩], none⟩
def off14_o2 : Oper := ⟨some 69, .move (.tmp 68), 4, "law.go:227", #[⟨1, .data⟩], none⟩
def off14_o3 : Oper := ⟨some 70, .move (.tmp 8), 27, "law.go:227", #[⟨2, .guard⟩], some (2, true)⟩
def off14_o4 : Oper := ⟨some 71, .move (.tmp 7), 23, "law.go:227", #[⟨2, .guard⟩], some (2, true)⟩
def off14_o5 : Oper := ⟨some 72, .call { callee := Callee.value (Operand.func 25), args := #[.tmp 70, .tmp 71], argTypes := #[27, 23] }, 49, "law.go:227", #[⟨3, .data⟩, ⟨4, .data⟩, ⟨2, .chain⟩, ⟨2, .guard⟩], some (2, true)⟩
def off14_o6 : Oper := ⟨some 73, .move (.tmp 10), 49, "law.go:227", #[⟨2, .guard⟩], some (2, true)⟩
def off14_o7 : Oper := ⟨some 74, .call { callee := Callee.value (Operand.func 22), args := #[.tmp 72, .tmp 73], argTypes := #[49, 49] }, 4, "law.go:227", #[⟨5, .data⟩, ⟨6, .data⟩, ⟨5, .chain⟩, ⟨2, .guard⟩], some (2, true)⟩
def off14_o8 : Oper := ⟨some 75, .pick (.tmp 69) (.tmp 74) (Operand.const (Value.bool false)), 4, "law.go:227", #[⟨2, .data⟩, ⟨7, .data⟩], none⟩
def off14_o9 : Oper := ⟨some 6, .assign (.tmp 75), 4, "law.go:227", #[⟨8, .data⟩, ⟨7, .chain⟩, ⟨0, .phase⟩, ⟨1, .phase⟩, ⟨2, .phase⟩, ⟨3, .phase⟩, ⟨4, .phase⟩, ⟨5, .phase⟩, ⟨6, .phase⟩, ⟨7, .phase⟩, ⟨8, .phase⟩], none⟩
def off14_ops : Array Oper := #[off14_o0, off14_o1, off14_o2, off14_o3, off14_o4, off14_o5, off14_o6, off14_o7, off14_o8, off14_o9]
theorem off14 {sb mb : Nat} {v0 : Value} (Fin : World → Prop) (a : Act) (w : World) (Q : Exit → Act → World → Prop) (zz : a.tmps.size = 76)
    (t7 : a.tmps.getD 7 undef = .pointer (some ⟨sb, 0, none⟩))
    (t8 : a.tmps.getD 8 undef = .pointer (some ⟨mb, 0, none⟩))
    (t10 : a.tmps.getD 10 undef = v0)
    (t13 : a.tmps.getD 13 undef = .int .i64 0)
    (C2 : Calls Tryz.prog 25 #[.pointer (some ⟨mb, 0, none⟩), .pointer (some ⟨sb, 0, none⟩)] w fun e w2 => ∃ v, e = .returned v ∧ Calls Tryz.prog 22 #[v, v0] w2 fun e w3 => e = .returned (.bool true) ∧ Fin w3)
    (h : ∀ (v : Value) (a' : Act) (w' : World), Fin w' → a' = ((((((((((a).put (some 67) (.int .i64 0)).put (some 68) (.bool true)).put (some 69) (.bool true)).put (some 70) (.pointer (some ⟨mb, 0, none⟩))).put (some 71) (.pointer (some ⟨sb, 0, none⟩))).put (some 72) (v)).put (some 73) (v0)).put (some 74) (.bool true)).put (some 75) (.bool true)).put (some 6) (.bool true) → Q .normal a' w') :
    (Code.region 14 off14_ops false).wp Tryz.prog Q a w := by
  refine z0 rfl ?_
  refine zv rfl (xmv rfl (zi t13 rfl)) ?_
  refine zv (v := .bool true) rfl (ex_eqlE rfl (zg zz rfl) rfl (decide_eq_true rfl)) ?_
  refine zv rfl (xmv rfl (zg zz rfl)) ?_
  refine zv (zw zz rfl rfl rfl (zg zz rfl)) (xmv rfl (zi t8 rfl)) ?_
  refine zv (zw zz rfl rfl rfl (zg zz rfl)) (xmv rfl (zi t7 rfl)) ?_
  refine zc (zw zz rfl rfl rfl (zg zz rfl)) (exec_c2 rfl (zg zz rfl) (zg zz rfl)) (C2) (fun e x5 hx => ?_)
  obtain ⟨v, rfl, C3⟩ := hx
  replace h := h v
  refine ⟨_, rfl, ?_⟩
  refine zv (zw zz rfl rfl rfl (zg zz rfl)) (xmv rfl (zi t10 rfl)) ?_
  refine zc (zw zz rfl rfl rfl (zg zz rfl)) (exec_c2 rfl (zg zz rfl) (zg zz rfl)) (C3) (fun e x7 hx => ?_)
  obtain ⟨rfl, HF⟩ := hx
  refine ⟨_, rfl, ?_⟩
  refine zv rfl (exec_pickT rfl (zg zz rfl) (zg zz rfl)) ?_
  refine zv rfl (xas rfl (zg zz rfl)) ?_
  exact ze rfl (h _ _ (HF) rfl)
end Go.Proofs.YtifendlpeebofaaGreatDoor
namespace Go.Proofs.YtifendlpeebofaaGreatDoor
open Go.RowKit Go.Shelf Sq
attribute [local go_sem] Oper.semAt_some
theorem id_num {W : World} {b : Nat} {v : Int} (h : IdAt W b (idN v)) (x : Int) : (Instr.loadAt 3 (.pointer (some ⟨b, 0 + 32, none⟩))).run Tryz.prog W = .ok (.int .i64 v) W ∧ (Instr.storeAt 3 (.pointer (some ⟨b, 0 + 32, none⟩)) (.int .i64 x)).run Tryz.prog W = .ok () (W.setCell ⟨b, 32, none⟩ (.int .i64 x)) ∧ IdAt (W.setCell ⟨b, 32, none⟩ (.int .i64 x)) b (idN x) := by
  have hc : W.cell? ⟨b, 32, none⟩ = some (.int .i64 v) := (cell_of_row W b 32 _ _ _ h).trans rfl
  have hf := frozen_of_row W b 32 _ _ h
  refine ⟨by clear hf; go_simp, by go_simp, (Go.heap_setCell_same W b 32 _ _ (.int .i64 x) h).trans ?_⟩
  rfl
def StF (O : List OpM) (v : Int) : Prop := ∀ o ∈ O, o.id ≠ idN v
structure FrS (O : List OpM) (b2 b3 : Nat) (v : Int) (w W : World) : Prop where
  i : FrI O v
  r : IdAt W b2 zId
  d : IdAt W b3 (idN v)
  b : Below w.heap.size w W
set_option maxHeartbeats 8000000 in
theorem fresh_any {w : World} {la : Option Addr} {lc : Nat} {O : List OpM} (hat : RO.At w la O) (hok : ∀ x ∈ O, x.ok) (hO : O.length ≤ 800000000000) : Calls Tryz.prog 36 #[.slice la O.length lc] w fun e w' => ∃ k : IdK, e = .returned k.v ∧ (∃ v, k = idN v ∧ 1 ≤ v ∧ v ≤ 800000000001 ∧ StF O v) ∧ Below w.heap.size w w' := by
  have e1 := id_zero w
  have i1 := id_new w zId
  have b1 : Below w.heap.size w (w.alloc (.cells zId.c.toArray 36)) := (Below.refl _ _).alloc (Nat.le_refl _) _
  have z1 : (w.alloc (.cells zId.c.toArray 36)).heap.size = w.heap.size + 1 := by simp
  obtain ⟨w1, hw1⟩ : ∃ w1, w.alloc (.cells zId.c.toArray 36) = w1 := ⟨_, rfl⟩
  rw [hw1] at e1 i1 b1 z1
  have e2 := id_zero w1
  have i2 := id_new w1 zId
  have b2 : Below w1.heap.size w1 (w1.alloc (.cells zId.c.toArray 36)) := (Below.refl _ _).alloc (Nat.le_refl _) _
  have e3 := store_id zId_ok (idN_ok (n := 1) (by omega)) i2
  have i3 := i2.set (idN 1)
  have b3 := b2.trans (set_below (idN 1).c.toArray b2.size (Nat.le_refl w1.heap.size))
  obtain ⟨w2, hw2⟩ : ∃ w2, w1.alloc (.cells zId.c.toArray 36) = w2 := ⟨_, rfl⟩
  obtain ⟨w3, hw3⟩ : ∃ w3, (w1.alloc (.cells zId.c.toArray 36)).setRow w1.heap.size (idN 1).c.toArray = w3 := ⟨_, rfl⟩
  rw [hw3] at i3 b3 e3
  rw [hw2] at e2 e3
  have F0 := hidMk (show FrS O w.heap.size w1.heap.size 1 w w3 from ⟨FrI.one O, i1.below b3, i3, b1.trans (b3.mono (by omega))⟩)
  have HAT := hidMk (fun (W : World) (b : Below w.heap.size w W) => hat.below b)
  have HOK := hidMk hok
  obtain ⟨n, hn⟩ : ∃ n, O.length = n := ⟨_, rfl⟩
  have HN := hidMk (show O.length = n ∧ n ≤ 800000000000 from ⟨hn, by omega⟩)
  have HZ := hidMk (show w.heap.size < w1.heap.size by omega)
  rw [hn]
  clear hat hok hO hn i1 i2 i3 b1 b2 b3 z1 hw1 hw2 hw3
  go_enter Tryz.func36, Tryz.ntmps36
  go_upto_region 0 with fail
  refine fre0 (b2 := w.heap.size) (w1 := w1) _ w _ rfl e1 ?_
  intro a' wx hw ha
  obtain rfl : w1 = wx := hw.symm
  subst ha
  simp only [Act.put, List.setIfInBounds_toArray, List.set_cons_zero, List.set_cons_succ]
  clear e1
  go_upto_region 1 with fail
  refine fre1 (b3 := w1.heap.size) (w1 := w2) (w2 := w3) _ w1 _ rfl e2 e3 ?_
  intro a' wx hw ha
  obtain rfl : w3 = wx := hw.symm
  subst ha
  simp only [Act.put, List.setIfInBounds_toArray, List.set_cons_zero, List.set_cons_succ]
  clear e2 e3
  generalize w1.heap.size = q3 at *
  go_wp2
  go_loopw [4] (fun v4 wr => ∃ i : Nat, v4 = .int .i64 (i : Int) ∧ i ≤ n ∧ Hid (∃ v, FrS O w.heap.size q3 v w wr ∧ (StF O v ∨ (i : Int) ≤ v - 1))) (fun v4 _ => n - (intOf v4).toNat)
  case atStart => exact ⟨0, rfl, Nat.zero_le _, 1, F0, .inr (by omega)⟩
  case round =>
    clear F0
    obtain ⟨i, rfl, hi, HI⟩ := hrel
    by_cases h : i < n
    · have h' : (i : Int) < (n : Int) := by omega
      have J0 : Hid (∃ v, FrS O w.heap.size q3 v w wr ∧ (StF O v ∨ (i : Int) + 1 ≤ v - 1 ∨ ((i : Int) ≤ v - 1 ∧ ∀ k x, k < 0 → O[k]? = some x → x.id ≠ idN v))) := by
        obtain ⟨v, f, s⟩ := HI.out
        exact ⟨v, f, s.elim .inl (fun q => .inr (.inr ⟨q, fun k x hk => by omega⟩))⟩
      have HH1 := hidMk h
      have MS := hidMk (show n - (((i + 1 : Nat) : Int)).toNat < n - ((i : Nat) : Int).toNat by simp only [Int.toNat_natCast]; omega)
      clear HI
      go_wp2
      go_loopw [5] (fun v5 wq => ∃ j : Nat, v5 = .int .i64 (j : Int) ∧ j ≤ n ∧ Hid (∃ v, FrS O w.heap.size q3 v w wq ∧ (StF O v ∨ (i : Int) + 1 ≤ v - 1 ∨ ((i : Int) ≤ v - 1 ∧ ∀ k x, k < j → O[k]? = some x → x.id ≠ idN v)))) (fun v5 _ => n - (intOf v5).toNat)
      case atStart => exact ⟨0, rfl, Nat.zero_le _, J0⟩
      case round =>
        clear J0
        obtain ⟨j, rfl, hj, HJ⟩ := hrel
        by_cases h2 : j < n
        · have h2' : (j : Int) < (n : Int) := by omega
          obtain ⟨v, hF, hs⟩ := HJ.out
          have hn64 : n ≤ 9223372036854775807 := by have := HN.out; omega
          obtain ⟨x, hx⟩ : ∃ x, O[j]? = some x := ⟨_, List.getElem?_eq_getElem (by have := HN.out; omega)⟩
          have hxm := List.mem_of_getElem? hx
          have okx := HOK.out x hxm
          obtain ⟨g, o, rfl, gl, hr⟩ := (HAT.out wr hF.b).get (i := j) (by have := HN.out; omega)
          have hr' : wr.rangeAt g (o + 106 * j) x.c := by
            have e : O[j]'(by have := HN.out; omega) = x := (List.getElem?_eq_some_iff.1 hx).2
            rw [e] at hr; exact hr
          have hv := hF.i.bd
          have hv1 := hF.i.lo
          have kok : (idN v).ok := idN_ok (by have := HN.out; omega)
          obtain ⟨z, hz⟩ : ∃ z, decide (x.id = idN v) = z := ⟨_, rfl⟩
          have HH2 := hidMk h2
          have MS2 := hidMk (show n - (((j + 1 : Nat) : Int)).toNat < n - ((j : Nat) : Int).toNat by simp only [Int.toNat_natCast]; omega)
          have HF := hidMk hF
          have HS := hidMk hs
          have HX := hidMk hx
          clear hr hF hs hx HJ
          go_upto_region 8 with fail
          refine fre8 (b3 := q3) (g := g) (o := o) (n := n) (c := lc) (j := j) (q := x.id) (k := idN v) (r := z) (fun W => Below wr.heap.size wr W) _ wr _ rfl rfl rfl rfl ((Below.refl _ _).drew) h2 hn64 okx.id kok hz (fun W b => om_id okx (rangeAt_keep hr' (b.block g gl))) (fun W b => load_id kok (HF.out.d.below b)) ?_
          intro a' w4 b4 ha
          subst ha
          simp only [Act.put, List.setIfInBounds_toArray, List.set_cons_zero, List.set_cons_succ]
          have F4 := hidMk (show FrS O w.heap.size q3 v w w4 from ⟨HF.out.i, HF.out.r.below b4, HF.out.d.below b4, HF.out.b.trans (b4.mono HF.out.b.size)⟩)
          clear hr' b4
          cases z with
          | true =>
            have he : x.id = idN v := of_decide_eq_true hz
            obtain ⟨l1, l2, l3⟩ := id_num F4.out.d (v + 1)
            have d23 : w.heap.size ≠ q3 := by have := HZ.out; omega
            have NI := hidMk (show ∃ v', FrS O w.heap.size q3 v' w (w4.setCell ⟨q3, 32, none⟩ (.int .i64 (v + 1))) ∧ (StF O v' ∨ (i : Int) + 1 ≤ v' - 1 ∨ ((i : Int) ≤ v' - 1 ∧ ∀ k x, k < j + 1 → O[k]? = some x → x.id ≠ idN v')) from
              ⟨v + 1, ⟨F4.out.i.next hxm he, (set_other d23).trans F4.out.r, l3, F4.out.b.trans (set_bel (by have := HZ.out; omega))⟩, by
                rcases HS.out with q | q | q
                · exact absurd he (q x hxm)
                · exact .inr (.inl (by omega))
                · exact .inr (.inl (by omega))⟩)
            obtain ⟨w5, hw5⟩ : ∃ w5, w4.setCell ⟨q3, 32, none⟩ (.int .i64 (v + 1)) = w5 := ⟨_, rfl⟩
            rw [hw5] at l2 NI
            clear l3 hw5 hz he F4 HF HS
            go_upto_region 9 with fail
            refine fre9 (b3 := q3) (v := v) (w1 := w5) _ w4 _ rfl rfl (by have := HN.out; omega) l1 l2 ?_
            intro a' wx hw ha
            obtain rfl : w5 = wx := hw.symm
            subst ha
            simp only [Act.put, List.setIfInBounds_toArray, List.set_cons_zero, List.set_cons_succ]
            clear l1 l2
            go_wp2
            rw [show ((j : Int) + 1) = ((j + 1 : Nat) : Int) by omega]
            exact ⟨⟨j + 1, rfl, HH2.out, NI⟩, MS2.out⟩
          | false =>
            have NI : Hid (∃ v', FrS O w.heap.size q3 v' w w4 ∧ (StF O v' ∨ (i : Int) + 1 ≤ v' - 1 ∨ ((i : Int) ≤ v' - 1 ∧ ∀ k x, k < j + 1 → O[k]? = some x → x.id ≠ idN v'))) := by
              refine ⟨v, F4.out, ?_⟩
              rcases HS.out with q | q | q
              · exact .inl q
              · exact .inr (.inl q)
              · refine .inr (.inr ⟨q.1, fun k y hk hy => ?_⟩)
                by_cases e : k = j
                · subst e
                  rw [HX.out] at hy
                  cases hy
                  exact of_decide_eq_false hz
                · exact q.2 k y (by omega) hy
            clear hz F4 HF HS
            go_wp2
            rw [show ((j : Int) + 1) = ((j + 1 : Nat) : Int) by omega]
            exact ⟨⟨j + 1, rfl, HH2.out, NI⟩, MS2.out⟩
        · have h2' : ¬ ((j : Int) < (n : Int)) := by omega
          obtain rfl : j = n := by omega
          have NX : Hid (∃ v, FrS O w.heap.size q3 v w wr ∧ (StF O v ∨ ((i + 1 : Nat) : Int) ≤ v - 1)) := by
            obtain ⟨v, hF, hs⟩ := HJ.out
            refine ⟨v, hF, ?_⟩
            rcases hs with q | q | q
            · exact .inl q
            · exact .inr (by omega)
            · refine .inl fun o ho => ?_
              obtain ⟨k, hk⟩ := List.mem_iff_getElem?.1 ho
              exact q.2 k o (by have := (List.getElem?_eq_some_iff.1 hk).1; have := HN.out; omega) hk
          clear HJ
          have hi2 := HH1.out
          have hn64 : j ≤ 9223372036854775807 := by have := HN.out; omega
          go_wp2
          rw [show ((i : Int) + 1) = ((i + 1 : Nat) : Int) by omega]
          exact ⟨⟨i + 1, rfl, HH1.out, NX⟩, MS.out⟩
    · have h' : ¬ ((i : Int) < (n : Int)) := by omega
      obtain rfl : i = n := by omega
      obtain ⟨v, hF, hs⟩ := HI.out
      clear HI
      have hv := hF.i.bd
      have hv1 := hF.i.lo
      have kok : (idN v).ok := idN_ok (by have := HN.out; omega)
      have LK := load_id kok hF.d
      have ES := store_id zId_ok kok hF.r
      have d5 := hF.r.set (idN v)
      have b5 := hF.b.trans (set_below (idN v).c.toArray hF.b.size (Nat.le_refl w.heap.size))
      obtain ⟨w5, hw5⟩ : ∃ w5, wr.setRow w.heap.size (idN v).c.toArray = w5 := ⟨_, rfl⟩
      rw [hw5] at ES d5 b5
      have ST : StF O v := hs.elim id (fun q => hF.i.end (by have := HN.out; omega))
      have RES := hidMk (And.intro d5 (And.intro b5 (And.intro ST (And.intro hv1 (show v ≤ 800000000001 by have := HN.out; omega)))))
      have HL : Hid ((Tryz.prog.info? 36).map (·.size) = some (idN v).c.toArray.size) := by
        show _ = _
        rw [List.size_toArray, IdK.len kok]
        exact szId
      clear hF hs hv hv1 hw5 d5 b5 ST
      go_upto_region 10 with fail
      refine fre10 (b2 := w.heap.size) (b3 := q3) (k := idN v) (w1 := w5) _ wr _ rfl rfl rfl LK ES ?_
      intro a' wx hw ha
      obtain rfl : w5 = wx := hw.symm
      subst ha
      simp only [Act.put, List.setIfInBounds_toArray, List.set_cons_zero, List.set_cons_succ]
      clear LK ES
      go_wp2
      refine bodyPost_ret (results_cell_row Tryz.results36 _ _ w.heap.size _ _ _ _ rfl RES.out.1 Tryz.underlying36 rfl HL.out) rfl ?_
      exact ⟨idN v, rfl, ⟨v, rfl, RES.out.2.2.2.1, RES.out.2.2.2.2, RES.out.2.2.1⟩, RES.out.2.1⟩
attribute [local go_sem] Oper.semAt_some
theorem Gr.seqok {w W : World} {sb mb : Nat} {E : List Elt} {L : List MkV} (h : Gr w sb mb E L W) : SeqOk E := by
  obtain ⟨⟨s, m, _, _, hs, _⟩, _⟩ := h
  exact hs.lk.ok
theorem lo_nt {W W' : World} {b : Nat} {v : Value} {S : List SpV} (h : RSp.Lo W b v S) (n : NT W W') : RSp.Lo W' b v S :=
  h.keep (fun j hj => by
    obtain ⟨_, c, hc⟩ := h.cells hj
    exact n j c _ _ hc (by decide) (by decide) (by decide) (by decide))
def offF (name : ByteArray) (S : List SpV) : List SpV := S.filter fun p => decide (p.nm ≠ name)
theorem offF_snoc (name : ByteArray) (S : List SpV) (x : SpV) : offF name (S ++ [x]) = offF name S ++ (if x.nm ≠ name then [x] else []) := by
  unfold offF
  rw [List.filter_append]
  congr 1
  by_cases h : x.nm = name <;> simp [h]
structure OffS (w : World) (sb mb : Nat) (E : List Elt) (L : List MkV) (name : ByteArray) (v wv : Value) (b b2 : Nat) (S : List SpV) (W : World) : Prop where
  q : ∃ f, Gr w sb mb E (addR L (offV f name)) W ∧ addC L (offV f name) = if keyB name = false then 41 else 0
  was : SpW E L v b S W
  want : RSp.Lo W b2 wv (offF name S)
theorem OffS.below {w W W' : World} {sb mb : Nat} {E : List Elt} {L : List MkV} {name : ByteArray} {v wv : Value} {b b2 : Nat} {S : List SpV} (h : OffS w sb mb E L name v wv b b2 S W) (bl : Below W.heap.size W W') : OffS w sb mb E L name v wv b b2 S W' := by
  obtain ⟨⟨f, g, c⟩, h2, h3⟩ := h
  exact ⟨⟨f, g.below bl, c⟩, h2.nt (NT.of_below bl), h3.below bl⟩
set_option maxHeartbeats 8000000 in
theorem off_any (n : Int) (w : World) (hT : K.V.Tabs w) {la : Option Addr} {lc : Nat} {O : List OpM} (hat : RO.At w la O) (hok : ∀ x ∈ O, x.ok) (hO : O.length ≤ 800000000000) {name : ByteArray} (hname : name.size ≤ maxLen) :
    Calls Tryz.prog 7 #[.int .i64 n, .slice la O.length lc, .string name] w fun e w' => e = .returned (.bool true) ∧ Below w.heap.size w w' := by
  obtain ⟨k, hk, hk12⟩ := szN n
  have CL := hidMk ((size_any n w).mono (R' := fun e W => e = .returned (.int .i64 (k : Int)) ∧ Calls Tryz.prog 32 #[.int .i64 (k : Int), .slice la O.length lc] W fun e w2 => ∃ sb mb, e = .returned (.tuple #[.pointer (some ⟨sb, 0, none⟩), .pointer (some ⟨mb, 0, none⟩), .bool true]) ∧ Gr w sb mb (seg 0 k) (addL [] O) w2) (fun e W q => by
    obtain ⟨rfl, rfl⟩ := q
    exact ⟨by rw [hk], laidO_any k (by omega) _ hT hat hok hO⟩))
  have HT := hidMk (fun (W : World) (b : Below w.heap.size w W) => hT.below b)
  have FR := hidMk (fun (W : World) (b : Below w.heap.size w W) => fresh_any (lc := lc) (hat.below b) hok hO)
  have IDS := hidMk (fun (f : Int) (h : StF O f) => addL_ids (idN f) O (L := []) (fun x hx => by cases hx) h)
  obtain ⟨L, hL⟩ : ∃ L, addL [] O = L := ⟨_, rfl⟩
  have RT := hidMk (show ∀ y ∈ L, y.v.right = true by rw [← hL]; exact addL_right O (fun y hy => by cases hy))
  have LB := hidMk (show L.length ≤ 800000000000 by rw [← hL]; have := addL_len [] O; have z : ([] : List MkV).length = 0 := rfl; omega)
  rw [hL] at CL IDS
  have HNM := hidMk hname
  obtain ⟨E, hE⟩ : ∃ E, seg 0 k = E := ⟨_, rfl⟩
  rw [hE] at CL
  clear hT hat hok hO hk hL hname hE
  go_enter Tryz.func7, Tryz.ntmps7
  go_upto_region 1 with fail
  refine off1 (n := n) (k := (k : Int)) (lv := .slice la O.length lc) (fun sb mb W => Gr w sb mb E L W) _ w _ rfl rfl rfl CL.out ?_
  intro sb mb a' w2 hg ha
  subst ha
  simp only [Act.put, List.setIfInBounds_toArray, List.set_cons_zero, List.set_cons_succ]
  clear CL
  have SP := hidMk (hg.spans RT.out (HT.out w2 hg.bel))
  clear hg
  go_upto_region 5 with fail
  refine off5 (sb := sb) (mb := mb) (fun v W => (∃ S, SpW E L v w2.heap.size S W) ∧ Gr w sb mb E L W ∧ Below w2.heap.size w2 W) _ w2 _ rfl rfl rfl SP.out ?_
  rintro v0 a' w3 ⟨⟨S, hS⟩, hg, hb⟩ ha
  subst ha
  simp only [Act.put, List.setIfInBounds_toArray, List.set_cons_zero, List.set_cons_succ]
  clear SP hb
  obtain ⟨b0, hb0⟩ : ∃ b0, w2.heap.size = b0 := ⟨_, rfl⟩
  rw [hb0] at hS
  clear hb0
  obtain ⟨sa, sc, rfl, hat, _⟩ := hS.lo.open RSp_is hS.ok
  have G3 := hidMk hg
  have S3 := hidMk hS
  have HAT := hidMk (fun (W : World) (b : Below w3.heap.size w3 W) => hat.below b)
  obtain ⟨m, hm⟩ : ∃ m, S.length = m := ⟨_, rfl⟩
  have HM := hidMk (show S.length = m ∧ m ≤ 2000000000000 from ⟨hm, by rw [← hm]; exact hS.len⟩)
  rw [hm]
  rw [hm] at S3
  have I0 := hidMk (show RSp.Own w3 w3.heap.size (.slice none 0 0) (offF name (S.take 0)) ∧ Below w3.heap.size w3 w3 from ⟨RowT.own_nil _ _ _, Below.refl _ _⟩)
  clear hg hS hat hm
  go_wp2
  go_loopw [10, 12] (fun v10 v12 wr => ∃ i : Nat, v12 = .int .i64 (i : Int) ∧ i ≤ m ∧ Hid (RSp.Own wr w3.heap.size v10 (offF name (S.take i)) ∧ Below w3.heap.size w3 wr)) (fun _ v12 _ => m - (intOf v12).toNat)
  case atStart => exact ⟨0, rfl, Nat.zero_le _, I0⟩
  case round =>
    clear I0
    obtain ⟨i, rfl, hi, HI⟩ := hrel
    by_cases h : i < m
    · have h' : (i : Int) < (m : Int) := by omega
      have hm64 : m ≤ 9223372036854775807 := by have := HM.out; omega
      obtain ⟨x, hx⟩ : ∃ x, S[i]? = some x := ⟨_, List.getElem?_eq_getElem (by have := HM.out; omega)⟩
      have okx := S3.out.ok x (List.mem_of_getElem? hx)
      obtain ⟨g, o, rfl, gl, hr⟩ := (HAT.out wr HI.out.2).get (i := i) (by have := HM.out; omega)
      have hr' : wr.rangeAt g (o + 7 * i) x.c := by
        have e : S[i]'(by have := HM.out; omega) = x := (List.getElem?_eq_some_iff.1 hx).2
        rw [e] at hr; exact hr
      have TK := hidMk (show offF name (S.take (i + 1)) = offF name (S.take i) ++ (if x.nm ≠ name then [x] else []) by rw [List.take_add_one, hx]; exact offF_snoc _ _ _)
      have MS := hidMk (show m - (((i + 1 : Nat) : Int)).toNat < m - ((i : Nat) : Int).toNat by simp only [Int.toNat_natCast]; omega)
      obtain ⟨r, hrr⟩ : ∃ r, decide (x.nm ≠ name) = r := ⟨_, rfl⟩
      have LN := (sp_at hr').2.2
      clear hr hx
      go_upto_region 9 with fail
      refine off9 (g := g) (o := o) (n := m) (c := sc) (i := i) (x := x) (nm := name) (r := r) _ wr _ rfl rfl rfl rfl h hm64 hrr LN ?_
      intro a' wx hw ha
      obtain rfl : wr = wx := hw.symm
      subst ha
      simp only [Act.put, List.setIfInBounds_toArray, List.set_cons_zero, List.set_cons_succ]
      clear LN
      cases r with
      | false =>
        have hn : ¬ x.nm ≠ name := of_decide_eq_false hrr
        have NI := hidMk (show RSp.Own wr w3.heap.size u10 (offF name (S.take (i + 1))) ∧ Below w3.heap.size w3 wr by
          rw [TK.out, if_neg hn, List.append_nil]; exact HI.out)
        clear HI hrr hn hr'
        go_wp2
        rw [show ((i : Int) + 1) = ((i + 1 : Nat) : Int) by omega]
        exact ⟨⟨i + 1, rfl, h, NI⟩, MS.out⟩
      | true =>
        have hn : x.nm ≠ name := of_decide_eq_true hrr
        have ll : (offF name (S.take i)).length ≤ m := by
          unfold offF
          refine Nat.le_trans (List.length_filter_le _ _) ?_
          rw [List.length_take]
          have := HM.out
          omega
        have LX := RowT.ld RSp_is okx hr'
        obtain ⟨sv, y1, v2, y2, e1, e2, o2, b1, z1, g2, q2⟩ := RowT.run_push RSp_is wr w3.heap.size u10 _ x HI.out.1 okx (by unfold maxLen; have := HM.out; omega) (by show _ * 72 ≤ _; have := HM.out; omega) HI.out.2.size
        have NI := hidMk (show RSp.Own y2 w3.heap.size v2 (offF name (S.take (i + 1))) ∧ Below w3.heap.size w3 y2 by
          rw [TK.out, if_pos hn]
          exact ⟨o2, (HI.out.2.trans (b1.mono HI.out.2.size)).trans ((Below.refl _ _).grown g2 (Nat.le_trans HI.out.2.size b1.size) (fun k e => (HI.out.1.cells e).1))⟩)
        clear HI hrr hn hr' ll o2 b1 z1 g2 q2
        go_upto_region 10 with fail
        refine off10 (g := g) (o := o) (n := m) (c := sc) (i := i) (x := x) (wv := u10) (sv := sv) (v2 := v2) (w1 := y1) (w2 := y2) _ wr _ rfl rfl rfl rfl h hm64 LX e1 e2 ?_
        intro a' wx hw ha
        obtain rfl : y2 = wx := hw.symm
        subst ha
        simp only [Act.put, List.setIfInBounds_toArray, List.set_cons_zero, List.set_cons_succ]
        clear LX e1 e2
        go_wp2
        rw [show ((i : Int) + 1) = ((i + 1 : Nat) : Int) by omega]
        exact ⟨⟨i + 1, rfl, h, NI⟩, MS.out⟩
    · have h' : ¬ ((i : Int) < (m : Int)) := by omega
      obtain rfl : i = m := by omega
      have GW := G3.out.below HI.out.2
      have SW := S3.out.nt (NT.of_below HI.out.2)
      have WW : RSp.Lo wr w3.heap.size u10 (offF name S) := by
        have := HI.out.1.lo
        rw [List.take_of_length_le (by have := HM.out; omega)] at this
        exact this
      obtain ⟨c, hc⟩ : ∃ c : Int, (if keyB name = false then (41 : Int) else 0) = c := ⟨_, rfl⟩
      have CF := hidMk ((FR.out wr GW.bel).mono (R' := fun e w1 => ∃ k : IdK, e = .returned k.v ∧ Calls Tryz.prog 12 #[.pointer (some ⟨mb, 0, none⟩), k.v, .string name, zVa.v, zId.v, zId.v, .int .i64 0] w1 fun e w2 => e = .returned (.int .i64 c) ∧ OffS w sb mb E L name (.slice sa i sc) u10 b0 w3.heap.size S w2) (fun e w1 q => by
        obtain ⟨kk, rfl, ⟨f, rfl, f1, f2, f3⟩, b1⟩ := q
        have G1 := GW.below b1
        have ac := off_add (L := L) (nm := name) f1 (IDS.out f f3)
        refine ⟨idN f, rfl, (G1.addN (HT.out w1 G1.bel) (x := offV f name) ⟨idN_ok (by omega), HNM.out, zVa_ok, zId_ok, zId_ok, by show (-9223372036854775808 : Int) ≤ 0; decide, by show (0 : Int) ≤ 9223372036854775807; decide⟩ (by have := LB.out; omega)).mono ?_⟩
        rintro e w2 ⟨rfl, g2, n2⟩
        exact ⟨by rw [ac, hc], ⟨f, g2, ac⟩, (SW.nt (NT.of_below b1)).nt n2, lo_nt (WW.below b1) n2⟩))
      clear HI GW SW WW
      go_upto_region 11 with fail
      refine off11 (mb := mb) (nm := name) (lv := .slice la O.length lc) (c := c) (fun W => OffS w sb mb E L name (.slice sa i sc) u10 b0 w3.heap.size S W) _ wr _ rfl rfl rfl rfl CF.out ?_
      intro kk a' w4 hf ha
      have F4 := hidMk hf
      subst ha
      simp only [Act.put, List.setIfInBounds_toArray, List.set_cons_zero, List.set_cons_succ]
      clear CF hf
      obtain ⟨kb, hkb⟩ : ∃ r, keyB name = r := ⟨_, rfl⟩
      have CK := hidMk ((wkeyR name w4).mono (R' := fun e W => e = .returned (.bool kb) ∧ OffS w sb mb E L name (.slice sa i sc) u10 b0 w3.heap.size S W) (fun e W q => ⟨by rw [q.1, hkb], F4.out.below q.2⟩))
      clear F4
      go_upto_region 12 with fail
      refine off12 (nm := name) (r := kb) (fun W => OffS w sb mb E L name (.slice sa i sc) u10 b0 w3.heap.size S W) _ w4 _ rfl rfl CK.out ?_
      intro a' w5 hf ha
      subst ha
      simp only [Act.put, List.setIfInBounds_toArray, List.set_cons_zero, List.set_cons_succ]
      obtain ⟨⟨f, g5, c5⟩, was5, want5⟩ := hf
      have R5 : ∀ y ∈ addR L (offV f name), y.v.right = true := addR_right RT.out
      clear CK
      cases kb with
      | false =>
        rw [if_pos hkb] at hc c5
        subst hc
        rw [addR_same (by rw [c5]; decide)] at g5
        have C2 := hidMk ((g5.spans RT.out (HT.out w5 g5.bel)).mono (R' := fun e W2 => ∃ v, e = .returned v ∧ Calls Tryz.prog 22 #[v, .slice sa i sc] W2 fun e W3 => e = .returned (.bool true) ∧ Below w.heap.size w W3) (fun e W2 q => by
          obtain ⟨v, rfl, ⟨S', hS'⟩, g6, b6⟩ := q
          refine ⟨v, rfl, (same_g hS' (was5.nt (NT.of_below b6)) (hS'.is.unique was5.is)).mono ?_⟩
          rintro e W3 ⟨rfl, b7⟩
          exact ⟨rfl, g6.bel.trans (b7.mono g6.bel.size)⟩))
        clear g5 c5 was5 want5 R5 hkb
        go_upto_region 13 with fail
        refine off13 (sb := sb) (mb := mb) (v0 := .slice sa i sc) (fun W => Below w.heap.size w W) _ w5 _ rfl rfl rfl rfl rfl C2.out ?_
        intro v a' w6 hf ha
        have HF := hidMk hf
        subst ha
        simp only [Act.put, List.setIfInBounds_toArray, List.set_cons_zero, List.set_cons_succ]
        clear hf C2
        go_wp2
        go_ret
        exact ⟨rfl, HF.out⟩
      | true =>
        rw [if_neg (by rw [hkb]; decide)] at hc c5
        subst hc
        have ea : addR L (offV f name) = L ++ [offV f name] := by unfold addR; rw [if_pos c5]
        have WS : SpW E (addR L (offV f name)) u10 w3.heap.size (offF name S) w5 := ⟨want5, by rw [ea]; exact off_is g5.seqok was5.is, fun p hp => was5.ok p (List.mem_filter.1 hp).1, Nat.le_trans (List.length_filter_le _ _) was5.len⟩
        have C2 := hidMk ((g5.spans R5 (HT.out w5 g5.bel)).mono (R' := fun e W2 => ∃ v, e = .returned v ∧ Calls Tryz.prog 22 #[v, u10] W2 fun e W3 => e = .returned (.bool true) ∧ Below w.heap.size w W3) (fun e W2 q => by
          obtain ⟨v, rfl, ⟨S', hS'⟩, g6, b6⟩ := q
          refine ⟨v, rfl, (same_g hS' (WS.nt (NT.of_below b6)) (hS'.is.unique WS.is)).mono ?_⟩
          rintro e W3 ⟨rfl, b7⟩
          exact ⟨rfl, g6.bel.trans (b7.mono g6.bel.size)⟩))
        clear g5 c5 was5 want5 R5 hkb ea WS
        go_upto_region 14 with fail
        refine off14 (sb := sb) (mb := mb) (v0 := u10) (fun W => Below w.heap.size w W) _ w5 _ rfl rfl rfl rfl rfl C2.out ?_
        intro v a' w6 hf ha
        have HF := hidMk hf
        subst ha
        simp only [Act.put, List.setIfInBounds_toArray, List.set_cons_zero, List.set_cons_succ]
        clear hf C2
        go_wp2
        go_ret
        exact ⟨rfl, HF.out⟩
end Go.Proofs.YtifendlpeebofaaGreatDoor
