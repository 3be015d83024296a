import Derived.Test.YtifendlpeebofaaGreatDoorP0
import Derived.Test.YtifendlpeebofaaGreatDoorP8
set_option linter.unusedSimpArgs false
set_option linter.unusedVariables false
set_option maxRecDepth 100000
set_option maxHeartbeats 4000000
namespace Go.Proofs.YtifendlpeebofaaGreatDoor
open Go.RowKit
def boolV : VaV := ⟨1, 0, 0, ⟨#[]⟩⟩
theorem build_bool (w : World) : (Instr.build 40 #[(0, .int .u8 1)]).run Tryz.prog w = .ok boolV.v w := by kernel_rfl
section
variable {w : World} {a : Act} {o : Oper} {x y : Operand}
theorem exec_buildF {P : Program} {t : TypeId} {v0 v : Value} (ho : o.op = .build t #[(0, x)]) (h0 : a.eval x = v0) (hl : (Instr.build t #[(0, v0)]).run P w = .ok v w) : (execOp a.eval o).run P w = .ok (.value v) w := by
  unfold execOp; simp only [ho, List.map_toArray, List.map_cons, List.map_nil, h0, Sem.run_bind, hl, Result.andThen_ok, Sem.run_pure]
theorem ex_pnn (ho : o.op = .binOp .eql 27 x y 27) (hx : a.eval x = .pointer none) (hy : a.eval y = .pointer none) : (execOp a.eval o).run Tryz.prog w = .ok (.value (.bool true)) w := by
  refine exec_binOp ho hx hy ?_ ?_
  · kernel_rfl
  · go_simp
end
def nil7_o0 : Oper := ⟨some 20, .move (.tmp 9), 23, "law.go:76", #[], none⟩
def nil7_o1 : Oper := ⟨some 21, .build 36 #[(1, Operand.const (Value.int IntKind.i64 1))], 36, "law.go:76", #[], none⟩
def nil7_o2 : Oper := ⟨some 22, .build 36 #[], 36, "law.go:76", #[], none⟩
def nil7_o3 : Oper := ⟨some 23, .call { callee := Callee.value (Operand.func 16), args := #[.tmp 20, .tmp 21, .tmp 22], argTypes := #[23, 36, 36] }, 43, "law.go:76", #[⟨0, .data⟩, ⟨1, .data⟩, ⟨2, .data⟩], none⟩
def nil7_ops : Array Oper := #[nil7_o0, nil7_o1, nil7_o2, nil7_o3]
theorem nil7 {sb : Nat} {z : Int} (Fin : World → Prop) (a : Act) (w : World) (Q : Exit → Act → World → Prop) (zz : a.tmps.size = 95)
    (t9 : a.tmps.getD 9 undef = .pointer (some ⟨sb, 0, none⟩))
    (CI : Calls Tryz.prog 16 #[.pointer (some ⟨sb, 0, none⟩), (idN 1).v, zId.v] w fun e w' => e = .returned (.int .i64 z) ∧ Fin w')
    (h : ∀ (a' : Act) (w' : World), Fin w' → a' = ((((a).put (some 20) (.pointer (some ⟨sb, 0, none⟩))).put (some 21) ((idN 1).v)).put (some 22) (zId.v)).put (some 23) (.int .i64 z) → Q .normal a' w') :
    (Code.region 7 nil7_ops false).wp Tryz.prog Q a w := by
  refine z0 rfl ?_
  refine zv rfl (xmv rfl (zi t9 rfl)) ?_
  refine zv rfl (exec_build1 rfl rfl (build_idN _ _)) ?_
  refine zv rfl (exec_build0 rfl (build_id _)) ?_
  refine zc rfl (exec_c3 rfl (zg zz rfl) (zg zz rfl) (zg zz rfl)) (CI) (fun e x3 hx => ?_)
  obtain ⟨rfl, HF⟩ := hx
  refine ⟨_, rfl, ?_⟩
  exact ze rfl (h _ _ (HF) rfl)
def nil8_o0 : Oper := ⟨some 24, .move (.tmp 10), 27, "law.go:77", #[], none⟩
def nil8_o1 : Oper := ⟨some 25, .build 36 #[(1, Operand.const (Value.int IntKind.i64 1))], 36, "law.go:77", #[], none⟩
def nil8_o2 : Oper := ⟨some 26, .build 40 #[(0, Operand.const (Value.int IntKind.u8 1))], 40, "law.go:77", #[], none⟩
def nil8_o3 : Oper := ⟨some 27, .build 36 #[], 36, "law.go:77", #[], none⟩
def nil8_o4 : Oper := ⟨some 28, .build 36 #[], 36, "law.go:77", #[], none⟩
def nil8_o5 : Oper := ⟨some 29, .call { callee := Callee.value (Operand.func 12), args := #[.tmp 24, .tmp 25, Operand.const (Value.string { data := #[120] }), .tmp 26, .tmp 27, .tmp 28, Operand.const (Value.int IntKind.i64 0)], argTypes := #[27, 36, 9, 40, 36, 36, 3] }, 43, "law.go:77", #[⟨0, .data⟩, ⟨1, .data⟩, ⟨2, .data⟩, ⟨3, .data⟩, ⟨4, .data⟩], none⟩
def nil8_o6 : Oper := ⟨some 11, .assign (.tmp 29), 43, "law.go:77", #[⟨5, .data⟩, ⟨5, .chain⟩, ⟨0, .phase⟩, ⟨1, .phase⟩, ⟨2, .phase⟩, ⟨3, .phase⟩, ⟨4, .phase⟩, ⟨5, .phase⟩], none⟩
def nil8_ops : Array Oper := #[nil8_o0, nil8_o1, nil8_o2, nil8_o3, nil8_o4, nil8_o5, nil8_o6]
theorem nil8 {mb : Nat} (Fin : World → Prop) (a : Act) (w : World) (Q : Exit → Act → World → Prop) (zz : a.tmps.size = 95)
    (t10 : a.tmps.getD 10 undef = .pointer (some ⟨mb, 0, none⟩))
    (CA : Calls Tryz.prog 12 #[.pointer (some ⟨mb, 0, none⟩), (idN 1).v, .string { data := #[120] }, boolV.v, zId.v, zId.v, .int .i64 0] w fun e w' => e = .returned (.int .i64 0) ∧ Fin w')
    (h : ∀ (a' : Act) (w' : World), Fin w' → a' = (((((((a).put (some 24) (.pointer (some ⟨mb, 0, none⟩))).put (some 25) ((idN 1).v)).put (some 26) (boolV.v)).put (some 27) (zId.v)).put (some 28) (zId.v)).put (some 29) (.int .i64 0)).put (some 11) (.int .i64 0) → Q .normal a' w') :
    (Code.region 8 nil8_ops false).wp Tryz.prog Q a w := by
  refine z0 rfl ?_
  refine zv rfl (xmv rfl (zi t10 rfl)) ?_
  refine zv rfl (exec_build1 rfl rfl (build_idN _ _)) ?_
  refine zv rfl (exec_buildF rfl rfl (build_bool _)) ?_
  refine zv rfl (exec_build0 rfl (build_id _)) ?_
  refine zv rfl (exec_build0 rfl (build_id _)) ?_
  refine zc rfl (exec_c7 rfl (zg zz rfl) (zg zz rfl) rfl (zg zz rfl) (zg zz rfl) (zg zz rfl) rfl) (CA) (fun e x5 hx => ?_)
  obtain ⟨rfl, HF⟩ := hx
  refine ⟨_, rfl, ?_⟩
  refine zv rfl (xas rfl (zg zz rfl)) ?_
  exact ze rfl (h _ _ (HF) rfl)
def nil9_o0 : Oper := ⟨some 30, .move (.tmp 7), 27, "law.go:78", #[], none⟩
def nil9_o1 : Oper := ⟨some 31, .load 36 (.tmp 3), 36, "law.go:78", #[], none⟩
def nil9_o2 : Oper := ⟨some 32, .move (.tmp 1), 9, "law.go:78", #[], none⟩
def nil9_o3 : Oper := ⟨some 33, .load 40 (.tmp 5), 40, "law.go:78", #[], none⟩
def nil9_o4 : Oper := ⟨some 34, .load 36 (.tmp 3), 36, "law.go:78", #[], none⟩
def nil9_o5 : Oper := ⟨some 35, .load 36 (.tmp 3), 36, "law.go:78", #[], none⟩
def nil9_o6 : Oper := ⟨some 36, .call { callee := Callee.value (Operand.func 12), args := #[.tmp 30, .tmp 31, .tmp 32, .tmp 33, .tmp 34, .tmp 35, Operand.const (Value.int IntKind.i64 0)], argTypes := #[27, 36, 9, 40, 36, 36, 3] }, 43, "law.go:78", #[⟨0, .data⟩, ⟨1, .data⟩, ⟨2, .data⟩, ⟨3, .data⟩, ⟨4, .data⟩, ⟨5, .data⟩], none⟩
def nil9_o7 : Oper := ⟨some 37, .binOp BinOp.eql 43 (.tmp 36) (Operand.const (Value.int IntKind.i64 1)) 43, 4, "law.go:78", #[⟨6, .data⟩], none⟩
def nil9_o8 : Oper := ⟨some 38, .move (.tmp 37), 4, "law.go:78", #[⟨7, .data⟩, ⟨6, .chain⟩], none⟩
def nil9_o9 : Oper := ⟨some 39, .move (.tmp 7), 27, "law.go:78", #[⟨8, .guard⟩], some (8, true)⟩
def nil9_o10 : Oper := ⟨some 40, .load 36 (.tmp 3), 36, "law.go:78", #[⟨8, .guard⟩], some (8, true)⟩
def nil9_o11 : Oper := ⟨some 41, .call { callee := Callee.value (Operand.func 14), args := #[.tmp 39, .tmp 40], argTypes := #[27, 36] }, 43, "law.go:78", #[⟨9, .data⟩, ⟨10, .data⟩, ⟨8, .chain⟩, ⟨8, .guard⟩], some (8, true)⟩
def nil9_o12 : Oper := ⟨some 42, .binOp BinOp.eql 43 (.tmp 41) (Operand.const (Value.int IntKind.i64 1)) 43, 4, "law.go:78", #[⟨11, .data⟩, ⟨8, .guard⟩], some (8, true)⟩
def nil9_o13 : Oper := ⟨some 43, .pick (.tmp 38) (.tmp 42) (Operand.const (Value.bool false)), 4, "law.go:78", #[⟨8, .data⟩, ⟨12, .data⟩], none⟩
def nil9_o14 : Oper := ⟨some 44, .move (.tmp 43), 4, "law.go:78", #[⟨13, .data⟩, ⟨11, .chain⟩], none⟩
def nil9_o15 : Oper := ⟨some 45, .move (.tmp 7), 27, "law.go:78", #[⟨14, .guard⟩], some (14, true)⟩
def nil9_o16 : Oper := ⟨some 46, .call { callee := Callee.value (Operand.func 27), args := #[.tmp 45], argTypes := #[27] }, 3, "law.go:78", #[⟨15, .data⟩, ⟨14, .chain⟩, ⟨14, .guard⟩], some (14, true)⟩
def nil9_o17 : Oper := ⟨some 47, .binOp BinOp.eql 3 (.tmp 46) (Operand.const (Value.int IntKind.i64 0)) 3, 4, "law.go:78", #[⟨16, .data⟩, ⟨14, .guard⟩], some (14, true)⟩
def nil9_o18 : Oper := ⟨some 48, .pick (.tmp 44) (.tmp 47) (Operand.const (Value.bool false)), 4, "law.go:78", #[⟨14, .data⟩, ⟨17, .data⟩], none⟩
def nil9_o19 : Oper := ⟨some 49, .move (.tmp 48), 4, "law.go:78", #[⟨18, .data⟩, ⟨16, .chain⟩], none⟩
def nil9_o20 : Oper := ⟨some 50, .move (.tmp 7), 27, "law.go:78", #[⟨19, .guard⟩], some (19, true)⟩
def nil9_o21 : Oper := ⟨some 51, .call { callee := Callee.value (Operand.func 20), args := #[.tmp 50], argTypes := #[27] }, 27, "law.go:78", #[⟨20, .data⟩, ⟨19, .chain⟩, ⟨19, .guard⟩], some (19, true)⟩
def nil9_o22 : Oper := ⟨some 52, .binOp BinOp.eql 27 (.tmp 51) (Operand.const (Value.pointer none)) 27, 4, "law.go:78", #[⟨21, .data⟩, ⟨19, .guard⟩], some (19, true)⟩
def nil9_o23 : Oper := ⟨some 53, .pick (.tmp 49) (.tmp 52) (Operand.const (Value.bool false)), 4, "law.go:78", #[⟨19, .data⟩, ⟨22, .data⟩], none⟩
def nil9_o24 : Oper := ⟨some 54, .move (.tmp 53), 4, "law.go:78", #[⟨23, .data⟩, ⟨21, .chain⟩], none⟩
def nil9_o25 : Oper := ⟨some 55, .move (.tmp 7), 27, "law.go:78", #[⟨24, .guard⟩], some (24, true)⟩
def nil9_o26 : Oper := ⟨some 56, .move (.tmp 9), 23, "law.go:78", #[⟨24, .guard⟩], some (24, true)⟩
def nil9_o27 : Oper := ⟨some 57, .load 36 (.tmp 3), 36, "law.go:78", #[⟨24, .guard⟩], some (24, true)⟩
def nil9_o28 : Oper := ⟨some 58, .call { callee := Callee.value (Operand.func 23), args := #[.tmp 55, .tmp 56, .tmp 57], argTypes := #[27, 23, 36] }, 49, "law.go:78", #[⟨25, .data⟩, ⟨26, .data⟩, ⟨27, .data⟩, ⟨24, .chain⟩, ⟨24, .guard⟩], some (24, true)⟩
def nil9_o29 : Oper := ⟨some 59, .call { callee := Callee.builtin Builtin.len, args := #[.tmp 58], argTypes := #[49] }, 3, "law.go:78", #[⟨28, .data⟩, ⟨24, .guard⟩], some (24, true)⟩
def nil9_o30 : Oper := ⟨some 60, .binOp BinOp.eql 3 (.tmp 59) (Operand.const (Value.int IntKind.i64 0)) 3, 4, "law.go:78", #[⟨29, .data⟩, ⟨24, .guard⟩], some (24, true)⟩
def nil9_o31 : Oper := ⟨some 61, .pick (.tmp 54) (.tmp 60) (Operand.const (Value.bool false)), 4, "law.go:78", #[⟨24, .data⟩, ⟨30, .data⟩], none⟩
def nil9_o32 : Oper := ⟨some 62, .move (.tmp 61), 4, "law.go:78", #[⟨31, .data⟩, ⟨28, .chain⟩], none⟩
def nil9_o33 : Oper := ⟨some 63, .move (.tmp 7), 27, "law.go:78", #[⟨32, .guard⟩], some (32, true)⟩
def nil9_o34 : Oper := ⟨some 64, .move (.tmp 9), 23, "law.go:78", #[⟨32, .guard⟩], some (32, true)⟩
def nil9_o35 : Oper := ⟨some 65, .call { callee := Callee.value (Operand.func 25), args := #[.tmp 63, .tmp 64], argTypes := #[27, 23] }, 49, "law.go:78", #[⟨33, .data⟩, ⟨34, .data⟩, ⟨32, .chain⟩, ⟨32, .guard⟩], some (32, true)⟩
def nil9_o36 : Oper := ⟨some 66, .call { callee := Callee.builtin Builtin.len, args := #[.tmp 65], argTypes := #[49] }, 3, "law.go:78", #[⟨35, .data⟩, ⟨32, .guard⟩], some (32, true)⟩
def nil9_o37 : Oper := ⟨some 67, .binOp BinOp.eql 3 (.tmp 66) (Operand.const (Value.int IntKind.i64 0)) 3, 4, "law.go:78", #[⟨36, .data⟩, ⟨32, .guard⟩], some (32, true)⟩
def nil9_o38 : Oper := ⟨some 68, .pick (.tmp 62) (.tmp 67) (Operand.const (Value.bool false)), 4, "law.go:78", #[⟨32, .data⟩, ⟨37, .data⟩], none⟩
def nil9_o39 : Oper := ⟨some 69, .move (.tmp 68), 4, "law.go:78", #[⟨38, .data⟩, ⟨35, .chain⟩], none⟩
def nil9_o40 : Oper := ⟨some 70, .move (.tmp 11), 43, "law.go:78", #[⟨39, .guard⟩], some (39, true)⟩
def nil9_o41 : Oper := ⟨some 71, .binOp BinOp.eql 43 (.tmp 70) (Operand.const (Value.int IntKind.i64 0)) 43, 4, "law.go:78", #[⟨40, .data⟩, ⟨39, .guard⟩], some (39, true)⟩
def nil9_o42 : Oper := ⟨some 72, .pick (.tmp 69) (.tmp 71) (Operand.const (Value.bool false)), 4, "law.go:78", #[⟨39, .data⟩, ⟨41, .data⟩], none⟩
def nil9_o43 : Oper := ⟨some 73, .move (.tmp 72), 4, "law.go:78", #[⟨42, .data⟩, ⟨39, .chain⟩], none⟩
def nil9_o44 : Oper := ⟨some 74, .move (.tmp 10), 27, "law.go:78", #[⟨43, .guard⟩], some (43, true)⟩
def nil9_o45 : Oper := ⟨some 75, .move (.tmp 8), 23, "law.go:78", #[⟨43, .guard⟩], some (43, true)⟩
def nil9_o46 : Oper := ⟨some 76, .call { callee := Callee.value (Operand.func 25), args := #[.tmp 74, .tmp 75], argTypes := #[27, 23] }, 49, "law.go:79", #[⟨44, .data⟩, ⟨45, .data⟩, ⟨43, .chain⟩, ⟨43, .guard⟩], some (43, true)⟩
def nil9_o47 : Oper := ⟨some 77, .call { callee := Callee.builtin Builtin.len, args := #[.tmp 76], argTypes := #[49] }, 3, "law.go:78", #[⟨46, .data⟩, ⟨43, .guard⟩], some (43, true)⟩
def nil9_o48 : Oper := ⟨some 78, .binOp BinOp.eql 3 (.tmp 77) (Operand.const (Value.int IntKind.i64 0)) 3, 4, "law.go:78", #[⟨47, .data⟩, ⟨43, .guard⟩], some (43, true)⟩
def nil9_o49 : Oper := ⟨some 79, .pick (.tmp 73) (.tmp 78) (Operand.const (Value.bool false)), 4, "law.go:78", #[⟨43, .data⟩, ⟨48, .data⟩], none⟩
def nil9_o50 : Oper := ⟨some 80, .move (.tmp 79), 4, "law.go:78", #[⟨49, .data⟩, ⟨46, .chain⟩], none⟩
def nil9_o51 : Oper := ⟨some 81, .move (.tmp 10), 27, "law.go:78", #[⟨50, .guard⟩], some (50, true)⟩
def nil9_o52 : Oper := ⟨some 82, .move (.tmp 8), 23, "law.go:78", #[⟨50, .guard⟩], some (50, true)⟩
def nil9_o53 : Oper := ⟨some 83, .build 36 #[(1, Operand.const (Value.int IntKind.i64 1))], 36, "law.go:78", #[⟨50, .guard⟩], some (50, true)⟩
def nil9_o54 : Oper := ⟨some 84, .call { callee := Callee.value (Operand.func 23), args := #[.tmp 81, .tmp 82, .tmp 83], argTypes := #[27, 23, 36] }, 49, "law.go:79", #[⟨51, .data⟩, ⟨52, .data⟩, ⟨53, .data⟩, ⟨50, .chain⟩, ⟨50, .guard⟩], some (50, true)⟩
def nil9_o55 : Oper := ⟨some 85, .call { callee := Callee.builtin Builtin.len, args := #[.tmp 84], argTypes := #[49] }, 3, "law.go:78", #[⟨54, .data⟩, ⟨50, .guard⟩], some (50, true)⟩
def nil9_o56 : Oper := ⟨some 86, .binOp BinOp.eql 3 (.tmp 85) (Operand.const (Value.int IntKind.i64 0)) 3, 4, "law.go:78", #[⟨55, .data⟩, ⟨50, .guard⟩], some (50, true)⟩
def nil9_o57 : Oper := ⟨some 87, .pick (.tmp 80) (.tmp 86) (Operand.const (Value.bool false)), 4, "law.go:78", #[⟨50, .data⟩, ⟨56, .data⟩], none⟩
def nil9_o58 : Oper := ⟨some 88, .move (.tmp 87), 4, "law.go:78", #[⟨57, .data⟩, ⟨54, .chain⟩], none⟩
def nil9_o59 : Oper := ⟨some 89, .move (.tmp 10), 27, "law.go:78", #[⟨58, .guard⟩], some (58, true)⟩
def nil9_o60 : Oper := ⟨some 90, .move (.tmp 9), 23, "law.go:78", #[⟨58, .guard⟩], some (58, true)⟩
def nil9_o61 : Oper := ⟨some 91, .call { callee := Callee.value (Operand.func 25), args := #[.tmp 89, .tmp 90], argTypes := #[27, 23] }, 49, "law.go:79", #[⟨59, .data⟩, ⟨60, .data⟩, ⟨58, .chain⟩, ⟨58, .guard⟩], some (58, true)⟩
def nil9_o62 : Oper := ⟨some 92, .call { callee := Callee.builtin Builtin.len, args := #[.tmp 91], argTypes := #[49] }, 3, "law.go:78", #[⟨61, .data⟩, ⟨58, .guard⟩], some (58, true)⟩
def nil9_o63 : Oper := ⟨some 93, .binOp BinOp.eql 3 (.tmp 92) (Operand.const (Value.int IntKind.i64 1)) 3, 4, "law.go:78", #[⟨62, .data⟩, ⟨58, .guard⟩], some (58, true)⟩
def nil9_o64 : Oper := ⟨some 94, .pick (.tmp 88) (.tmp 93) (Operand.const (Value.bool false)), 4, "law.go:78", #[⟨58, .data⟩, ⟨63, .data⟩], none⟩
def nil9_o65 : Oper := ⟨some 6, .assign (.tmp 94), 4, "law.go:78", #[⟨64, .data⟩, ⟨61, .chain⟩, ⟨0, .phase⟩, ⟨1, .phase⟩, ⟨2, .phase⟩, ⟨3, .phase⟩, ⟨4, .phase⟩, ⟨5, .phase⟩, ⟨6, .phase⟩, ⟨7, .phase⟩, ⟨8, .phase⟩, ⟨9, .phase⟩, ⟨10, .phase⟩, ⟨11, .phase⟩, ⟨12, .phase⟩, ⟨13, .phase⟩, ⟨14, .phase⟩, ⟨15, .phase⟩, ⟨16, .phase⟩, ⟨17, .phase⟩, ⟨18, .phase⟩, ⟨19, .phase⟩, ⟨20, .phase⟩, ⟨21, .phase⟩, ⟨22, .phase⟩, ⟨23, .phase⟩, ⟨24, .phase⟩, ⟨25, .phase⟩, ⟨26, .phase⟩, ⟨27, .phase⟩, ⟨28, .phase⟩, ⟨29, .phase⟩, ⟨30, .phase⟩, ⟨31, .phase⟩, ⟨32, .phase⟩, ⟨33, .phase⟩, ⟨34, .phase⟩, ⟨35, .phase⟩, ⟨36, .phase⟩, ⟨37, .phase⟩, ⟨38, .phase⟩, ⟨39, .phase⟩, ⟨40, .phase⟩, ⟨41, .phase⟩, ⟨42, .phase⟩, ⟨43, .phase⟩, ⟨44, .phase⟩, ⟨45, .phase⟩, ⟨46, .phase⟩, ⟨47, .phase⟩, ⟨48, .phase⟩, ⟨49, .phase⟩, ⟨50, .phase⟩, ⟨51, .phase⟩, ⟨52, .phase⟩, ⟨53, .phase⟩, ⟨54, .phase⟩, ⟨55, .phase⟩, ⟨56, .phase⟩, ⟨57, .phase⟩, ⟨58, .phase⟩, ⟨59, .phase⟩, ⟨60, .phase⟩, ⟨61, .phase⟩, ⟨62, .phase⟩, ⟨63, .phase⟩, ⟨64, .phase⟩], none⟩
def nil9_ops : Array Oper := #[nil9_o0, nil9_o1, nil9_o2, nil9_o3, nil9_o4, nil9_o5, nil9_o6, nil9_o7, nil9_o8, nil9_o9, nil9_o10, nil9_o11, nil9_o12, nil9_o13, nil9_o14, nil9_o15, nil9_o16, nil9_o17, nil9_o18, nil9_o19, nil9_o20, nil9_o21, nil9_o22, nil9_o23, nil9_o24, nil9_o25, nil9_o26, nil9_o27, nil9_o28, nil9_o29, nil9_o30, nil9_o31, nil9_o32, nil9_o33, nil9_o34, nil9_o35, nil9_o36, nil9_o37, nil9_o38, nil9_o39, nil9_o40, nil9_o41, nil9_o42, nil9_o43, nil9_o44, nil9_o45, nil9_o46, nil9_o47, nil9_o48, nil9_o49, nil9_o50, nil9_o51, nil9_o52, nil9_o53, nil9_o54, nil9_o55, nil9_o56, nil9_o57, nil9_o58, nil9_o59, nil9_o60, nil9_o61, nil9_o62, nil9_o63, nil9_o64, nil9_o65]
theorem nil9 {b3 b5 sb mb : Nat} {k : IdK} {x : VaV} {nm : ByteArray} (Fin : World → Prop) (a : Act) (w : World) (Q : Exit → Act → World → Prop) (zz : a.tmps.size = 95)
    (t1 : a.tmps.getD 1 undef = .string nm)
    (t3 : a.tmps.getD 3 undef = .pointer (some ⟨b3, 0, none⟩))
    (t5 : a.tmps.getD 5 undef = .pointer (some ⟨b5, 0, none⟩))
    (t7 : a.tmps.getD 7 undef = .pointer none)
    (t8 : a.tmps.getD 8 undef = .pointer none)
    (t9 : a.tmps.getD 9 undef = .pointer (some ⟨sb, 0, none⟩))
    (t10 : a.tmps.getD 10 undef = .pointer (some ⟨mb, 0, none⟩))
    (t11 : a.tmps.getD 11 undef = .int .i64 0)
    (LK : (Instr.loadAt 36 (.pointer (some ⟨b3, 0, none⟩))).run Tryz.prog w = .ok (k.v) w) (LV : (Instr.loadAt 40 (.pointer (some ⟨b5, 0, none⟩))).run Tryz.prog w = .ok (x.v) w) (C1 : Calls Tryz.prog 12 #[.pointer none, k.v, .string nm, x.v, k.v, k.v, .int .i64 0] w fun e w1 => e = .returned (.int .i64 1) ∧ (Instr.loadAt 36 (.pointer (some ⟨b3, 0, none⟩))).run Tryz.prog w1 = .ok k.v w1 ∧ Calls Tryz.prog 14 #[.pointer none, k.v] w1 fun e w2 => e = .returned (.int .i64 1) ∧ Calls Tryz.prog 27 #[.pointer none] w2 fun e w3 => e = .returned (.int .i64 0) ∧ Calls Tryz.prog 20 #[.pointer none] w3 fun e w4 => e = .returned (.pointer none) ∧ (Instr.loadAt 36 (.pointer (some ⟨b3, 0, none⟩))).run Tryz.prog w4 = .ok k.v w4 ∧ Calls Tryz.prog 23 #[.pointer none, .pointer (some ⟨sb, 0, none⟩), k.v] w4 fun e w5 => e = .returned (.slice none 0 0) ∧ Calls Tryz.prog 25 #[.pointer none, .pointer (some ⟨sb, 0, none⟩)] w5 fun e w6 => e = .returned (.slice none 0 0) ∧ Calls Tryz.prog 25 #[.pointer (some ⟨mb, 0, none⟩), .pointer none] w6 fun e w7 => ∃ la c, e = .returned (.slice la 0 c) ∧ Calls Tryz.prog 23 #[.pointer (some ⟨mb, 0, none⟩), .pointer none, (idN 1).v] w7 fun e w8 => e = .returned (.slice none 0 0) ∧ Calls Tryz.prog 25 #[.pointer (some ⟨mb, 0, none⟩), .pointer (some ⟨sb, 0, none⟩)] w8 fun e w9 => ∃ lb c2, e = .returned (.slice lb 1 c2) ∧ Fin w9)
    (h : ∀ (la : Option Addr) (c : Nat) (lb : Option Addr) (c2 : Nat) (a' : Act) (w' : World), Fin w' → a' = ((((((((((((((((((((((((((((((((((((((((((((((((((((((((((((((((((a).put (some 30) (.pointer none)).put (some 31) (k.v)).put (some 32) (.string nm)).put (some 33) (x.v)).put (some 34) (k.v)).put (some 35) (k.v)).put (some 36) (.int .i64 1)).put (some 37) (.bool true)).put (some 38) (.bool true)).put (some 39) (.pointer none)).put (some 40) (k.v)).put (some 41) (.int .i64 1)).put (some 42) (.bool true)).put (some 43) (.bool true)).put (some 44) (.bool true)).put (some 45) (.pointer none)).put (some 46) (.int .i64 0)).put (some 47) (.bool true)).put (some 48) (.bool true)).put (some 49) (.bool true)).put (some 50) (.pointer none)).put (some 51) (.pointer none)).put (some 52) (.bool true)).put (some 53) (.bool true)).put (some 54) (.bool true)).put (some 55) (.pointer none)).put (some 56) (.pointer (some ⟨sb, 0, none⟩))).put (some 57) (k.v)).put (some 58) (.slice none 0 0)).put (some 59) (.int .i64 ((0 : Nat) : Int))).put (some 60) (.bool true)).put (some 61) (.bool true)).put (some 62) (.bool true)).put (some 63) (.pointer none)).put (some 64) (.pointer (some ⟨sb, 0, none⟩))).put (some 65) (.slice none 0 0)).put (some 66) (.int .i64 ((0 : Nat) : Int))).put (some 67) (.bool true)).put (some 68) (.bool true)).put (some 69) (.bool true)).put (some 70) (.int .i64 0)).put (some 71) (.bool true)).put (some 72) (.bool true)).put (some 73) (.bool true)).put (some 74) (.pointer (some ⟨mb, 0, none⟩))).put (some 75) (.pointer none)).put (some 76) (.slice la 0 c)).put (some 77) (.int .i64 ((0 : Nat) : Int))).put (some 78) (.bool true)).put (some 79) (.bool true)).put (some 80) (.bool true)).put (some 81) (.pointer (some ⟨mb, 0, none⟩))).put (some 82) (.pointer none)).put (some 83) ((idN 1).v)).put (some 84) (.slice none 0 0)).put (some 85) (.int .i64 ((0 : Nat) : Int))).put (some 86) (.bool true)).put (some 87) (.bool true)).put (some 88) (.bool true)).put (some 89) (.pointer (some ⟨mb, 0, none⟩))).put (some 90) (.pointer (some ⟨sb, 0, none⟩))).put (some 91) (.slice lb 1 c2)).put (some 92) (.int .i64 ((1 : Nat) : Int))).put (some 93) (.bool true)).put (some 94) (.bool true)).put (some 6) (.bool true) → Q .normal a' w') :
    (Code.region 9 nil9_ops false).wp Tryz.prog Q a w := by
  refine z0 rfl ?_
  refine zv rfl (xmv rfl (zi t7 rfl)) ?_
  refine zv rfl (xld rfl (zi t3 rfl) LK) ?_
  refine zv rfl (xmv rfl (zi t1 rfl)) ?_
  refine zv rfl (xld rfl (zi t5 rfl) LV) ?_
  refine zv rfl (xld rfl (zi t3 rfl) LK) ?_
  refine zv rfl (xld rfl (zi t3 rfl) LK) ?_
  refine zc rfl (exec_c7 rfl (zg zz rfl) (zg zz rfl) (zg zz rfl) (zg zz rfl) (zg zz rfl) (zg zz rfl) rfl) (C1) (fun e x6 hx => ?_)
  obtain ⟨rfl, LA, C2⟩ := hx
  refine ⟨_, rfl, ?_⟩
  refine zv (v := .bool true) rfl (ex_eqlE rfl (zg zz rfl) rfl (decide_eq_true rfl)) ?_
  refine zv rfl (xmv rfl (zg zz rfl)) ?_
  refine zv (zw zz rfl rfl rfl (zg zz rfl)) (xmv rfl (zi t7 rfl)) ?_
  refine zv (zw zz rfl rfl rfl (zg zz rfl)) (xld rfl (zi t3 rfl) LA) ?_
  refine zc (zw zz rfl rfl rfl (zg zz rfl)) (exec_c2 rfl (zg zz rfl) (zg zz rfl)) (C2) (fun e x11 hx => ?_)
  obtain ⟨rfl, C3⟩ := hx
  refine ⟨_, rfl, ?_⟩
  refine zv (v := .bool true) (zw zz rfl rfl rfl (zg zz rfl)) (ex_eqlE rfl (zg zz rfl) rfl (decide_eq_true rfl)) ?_
  refine zv rfl (exec_pickT rfl (zg zz rfl) (zg zz rfl)) ?_
  refine zv rfl (xmv rfl (zg zz rfl)) ?_
  refine zv (zw zz rfl rfl rfl (zg zz rfl)) (xmv rfl (zi t7 rfl)) ?_
  refine zc (zw zz rfl rfl rfl (zg zz rfl)) (exec_c1 rfl (zg zz rfl)) (C3) (fun e x16 hx => ?_)
  obtain ⟨rfl, C4⟩ := hx
  refine ⟨_, rfl, ?_⟩
  refine zv (v := .bool true) (zw zz rfl rfl rfl (zg zz rfl)) (ex_eql rfl (zg zz rfl) rfl (decide_eq_true rfl)) ?_
  refine zv rfl (exec_pickT rfl (zg zz rfl) (zg zz rfl)) ?_
  refine zv rfl (xmv rfl (zg zz rfl)) ?_
  refine zv (zw zz rfl rfl rfl (zg zz rfl)) (xmv rfl (zi t7 rfl)) ?_
  refine zc (zw zz rfl rfl rfl (zg zz rfl)) (exec_c1 rfl (zg zz rfl)) (C4) (fun e x21 hx => ?_)
  obtain ⟨rfl, LB, C5⟩ := hx
  refine ⟨_, rfl, ?_⟩
  refine zv (v := .bool true) (zw zz rfl rfl rfl (zg zz rfl)) (ex_pnn rfl (zg zz rfl) rfl) ?_
  refine zv rfl (exec_pickT rfl (zg zz rfl) (zg zz rfl)) ?_
  refine zv rfl (xmv rfl (zg zz rfl)) ?_
  refine zv (zw zz rfl rfl rfl (zg zz rfl)) (xmv rfl (zi t7 rfl)) ?_
  refine zv (zw zz rfl rfl rfl (zg zz rfl)) (xmv rfl (zi t9 rfl)) ?_
  refine zv (zw zz rfl rfl rfl (zg zz rfl)) (xld rfl (zi t3 rfl) LB) ?_
  refine zc (zw zz rfl rfl rfl (zg zz rfl)) (exec_c3 rfl (zg zz rfl) (zg zz rfl) (zg zz rfl)) (C5) (fun e x28 hx => ?_)
  obtain ⟨rfl, C6⟩ := hx
  refine ⟨_, rfl, ?_⟩
  refine zv (zw zz rfl rfl rfl (zg zz rfl)) (exec_len rfl (zg zz rfl) (len_sq _ _ _ _)) ?_
  refine zv (v := .bool true) (zw zz rfl rfl rfl (zg zz rfl)) (ex_eql rfl (zg zz rfl) rfl (decide_eq_true rfl)) ?_
  refine zv rfl (exec_pickT rfl (zg zz rfl) (zg zz rfl)) ?_
  refine zv rfl (xmv rfl (zg zz rfl)) ?_
  refine zv (zw zz rfl rfl rfl (zg zz rfl)) (xmv rfl (zi t7 rfl)) ?_
  refine zv (zw zz rfl rfl rfl (zg zz rfl)) (xmv rfl (zi t9 rfl)) ?_
  refine zc (zw zz rfl rfl rfl (zg zz rfl)) (exec_c2 rfl (zg zz rfl) (zg zz rfl)) (C6) (fun e x35 hx => ?_)
  obtain ⟨rfl, C7⟩ := hx
  refine ⟨_, rfl, ?_⟩
  refine zv (zw zz rfl rfl rfl (zg zz rfl)) (exec_len rfl (zg zz rfl) (len_sq _ _ _ _)) ?_
  refine zv (v := .bool true) (zw zz rfl rfl rfl (zg zz rfl)) (ex_eql rfl (zg zz rfl) rfl (decide_eq_true rfl)) ?_
  refine zv rfl (exec_pickT rfl (zg zz rfl) (zg zz rfl)) ?_
  refine zv rfl (xmv rfl (zg zz rfl)) ?_
  refine zv (zw zz rfl rfl rfl (zg zz rfl)) (xmv rfl (zi t11 rfl)) ?_
  refine zv (v := .bool true) (zw zz rfl rfl rfl (zg zz rfl)) (ex_eqlE rfl (zg zz rfl) rfl (decide_eq_true rfl)) ?_
  refine zv rfl (exec_pickT rfl (zg zz rfl) (zg zz rfl)) ?_
  refine zv rfl (xmv rfl (zg zz rfl)) ?_
  refine zv (zw zz rfl rfl rfl (zg zz rfl)) (xmv rfl (zi t10 rfl)) ?_
  refine zv (zw zz rfl rfl rfl (zg zz rfl)) (xmv rfl (zi t8 rfl)) ?_
  refine zc (zw zz rfl rfl rfl (zg zz rfl)) (exec_c2 rfl (zg zz rfl) (zg zz rfl)) (C7) (fun e x46 hx => ?_)
  obtain ⟨la, c, rfl, C8⟩ := hx
  replace h := h la c
  refine ⟨_, rfl, ?_⟩
  refine zv (zw zz rfl rfl rfl (zg zz rfl)) (exec_len rfl (zg zz rfl) (len_sq _ _ _ _)) ?_
  refine zv (v := .bool true) (zw zz rfl rfl rfl (zg zz rfl)) (ex_eql rfl (zg zz rfl) rfl (decide_eq_true rfl)) ?_
  refine zv rfl (exec_pickT rfl (zg zz rfl) (zg zz rfl)) ?_
  refine zv rfl (xmv rfl (zg zz rfl)) ?_
  refine zv (zw zz rfl rfl rfl (zg zz rfl)) (xmv rfl (zi t10 rfl)) ?_
  refine zv (zw zz rfl rfl rfl (zg zz rfl)) (xmv rfl (zi t8 rfl)) ?_
  refine zv (zw zz rfl rfl rfl (zg zz rfl)) (exec_build1 rfl rfl (build_idN _ _)) ?_
  refine zc (zw zz rfl rfl rfl (zg zz rfl)) (exec_c3 rfl (zg zz rfl) (zg zz rfl) (zg zz rfl)) (C8) (fun e x54 hx => ?_)
  obtain ⟨rfl, C9⟩ := hx
  refine ⟨_, rfl, ?_⟩
  refine zv (zw zz rfl rfl rfl (zg zz rfl)) (exec_len rfl (zg zz rfl) (len_sq _ _ _ _)) ?_
  refine zv (v := .bool true) (zw zz rfl rfl rfl (zg zz rfl)) (ex_eql rfl (zg zz rfl) rfl (decide_eq_true rfl)) ?_
  refine zv rfl (exec_pickT rfl (zg zz rfl) (zg zz rfl)) ?_
  refine zv rfl (xmv rfl (zg zz rfl)) ?_
  refine zv (zw zz rfl rfl rfl (zg zz rfl)) (xmv rfl (zi t10 rfl)) ?_
  refine zv (zw zz rfl rfl rfl (zg zz rfl)) (xmv rfl (zi t9 rfl)) ?_
  refine zc (zw zz rfl rfl rfl (zg zz rfl)) (exec_c2 rfl (zg zz rfl) (zg zz rfl)) (C9) (fun e x61 hx => ?_)
  obtain ⟨lb, c2, rfl, HF⟩ := hx
  replace h := h lb c2
  refine ⟨_, rfl, ?_⟩
  refine zv (zw zz rfl rfl rfl (zg zz rfl)) (exec_len rfl (zg zz rfl) (len_sq _ _ _ _)) ?_
  refine zv (v := .bool true) (zw zz rfl rfl rfl (zg zz rfl)) (ex_eql rfl (zg zz rfl) rfl (decide_eq_true rfl)) ?_
  refine zv rfl (exec_pickT rfl (zg zz rfl) (zg zz rfl)) ?_
  refine zv rfl (xas rfl (zg zz rfl)) ?_
  exact ze rfl (h _ _ (HF) rfl)
end Go.Proofs.YtifendlpeebofaaGreatDoor
namespace Go.Proofs.YtifendlpeebofaaGreatDoor
open Go.RowKit Go.Shelf Sq
attribute [local go_sem] Oper.semAt_some
theorem nadd_nil (k : IdK) (nm : ByteArray) (v : VaV) (w : World) : Calls Tryz.prog 12 #[.pointer none, k.v, .string nm, v.v, k.v, k.v, .int .i64 0] w fun e w' => e = .returned (.int .i64 1) ∧ Below w.heap.size w w' := by
  obtain ⟨wx, ewx, _, _, _, _, bx, _⟩ := four_boxes w k v k k
  show Calls Tryz.prog 12 #[.pointer none, .agg k.c.toArray, .string nm, .agg v.c.toArray, .agg k.c.toArray, .agg k.c.toArray, .int .i64 0] w _
  go_enter Tryz.func12, Tryz.ntmps12
  go_wp2
  go_ret
  exact ⟨rfl, by rw [← ewx]; exact bx⟩
theorem nundo_nil (k : IdK) (w : World) : Calls Tryz.prog 14 #[.pointer none, k.v] w fun e w' => e = .returned (.int .i64 1) ∧ Below w.heap.size w w' := by
  have bx : Below w.heap.size w (w.alloc (.cells k.c.toArray 36)) := (Below.refl _ _).alloc (Nat.le_refl _) _
  show Calls Tryz.prog 14 #[.pointer none, .agg k.c.toArray] w _
  go_enter Tryz.func14, Tryz.ntmps14
  go_wp2
  go_ret
  exact ⟨rfl, bx⟩
theorem nlen_nil (w : World) : Calls Tryz.prog 27 #[.pointer none] w fun e w' => e = .returned (.int .i64 0) ∧ w' = w := by
  go_enter Tryz.func27, Tryz.ntmps27
  go_wp2
  go_ret
  exact ⟨rfl, rfl⟩
theorem nfork_nil (w : World) : Calls Tryz.prog 20 #[.pointer none] w fun e w' => e = .returned (.pointer none) ∧ w' = w := by
  go_enter Tryz.func20, Tryz.ntmps20
  go_wp2
  go_ret
  exact ⟨rfl, rfl⟩
theorem nover_nil (sv : Value) (k : IdK) (w : World) : Calls Tryz.prog 23 #[.pointer none, sv, k.v] w fun e w' => e = .returned (.slice none 0 0) ∧ Below w.heap.size w w' := by
  have bx : Below w.heap.size w (w.alloc (.cells k.c.toArray 36)) := (Below.refl _ _).alloc (Nat.le_refl _) _
  show Calls Tryz.prog 23 #[.pointer none, sv, .agg k.c.toArray] w _
  go_enter Tryz.func23, Tryz.ntmps23
  go_wp2
  go_ret
  exact ⟨rfl, bx⟩
theorem nspans_nil (sv : Value) (w : World) : Calls Tryz.prog 25 #[.pointer none, sv] w fun e w' => e = .returned (.slice none 0 0) ∧ w' = w := by
  go_enter Tryz.func25, Tryz.ntmps25
  go_wp2
  go_ret
  exact ⟨rfl, rfl⟩
theorem over_none (mb : Nat) {k : IdK} (hk : k.ok) (w : World) : Calls Tryz.prog 23 #[.pointer (some ⟨mb, 0, none⟩), .pointer none, k.v] w fun e w' => e = .returned (.slice none 0 0) ∧ Below w.heap.size w w' := by
  have bx : Below w.heap.size w (w.alloc (.cells k.c.toArray 36)) := (Below.refl _ _).alloc (Nat.le_refl _) _
  have hx := id_new w k
  have HH : Hid (∀ W : World, Calls Tryz.prog 47 #[.pointer none, k.v] W fun e w' => e = .returned (.bool false) ∧ Below W.heap.size W w') := fun W => pnil_has W k
  show Calls Tryz.prog 23 #[.pointer (some ⟨mb, 0, none⟩), .pointer none, .agg k.c.toArray] w _
  go_enter Tryz.func23, Tryz.ntmps23
  go_upto_region 1 with fail
  generalize w.alloc (.cells k.c.toArray 36) = wx at *
  have HL := hidMk (load_id hk hx)
  clear hx
  go_wp2_with (first
    | (refine wload wx rfl rfl rfl HL.out rfl ?_)
    | (go_at_call 47; refine (HH.out _).mono ?_; rintro e w1 ⟨rfl, b1⟩)
    | fail)
  go_ret
  exact ⟨rfl, bx.trans (b1.mono bx.size)⟩
/-! ### one mark over one element -/
def oneV : MkV := ⟨idN 1, { data := #[120] }, boolV, zId, zId, 0⟩
theorem oneV_ok : oneV.ok := ⟨idN_ok (by omega), by decide, ⟨by decide, by decide, by decide, by decide, by decide, by decide⟩, zId_ok, zId_ok, by decide, by decide⟩
theorem oneV_right : ∀ y ∈ [oneV], y.v.right = true := fun y hy => by
  rw [List.mem_singleton.1 hy]
  decide +kernel
theorem one_add : addC [] oneV = 0 ∧ addR [] oneV = [oneV] := by
  have c : addC [] oneV = 0 := by decide +kernel
  refine ⟨c, ?_⟩
  unfold addR
  rw [if_pos c]
  rfl
theorem one_cv : cvE (seg 0 1) oneV = ⟨0, 1, { data := #[120] }, boolV⟩ := by decide +kernel
theorem valC_snoc1 (c : SpV) (j : Int) : valC [c] j = if inC j c = true then (if c.v.k = 0 then none else some c.v) else none := by
  rw [lastI_filter]
  by_cases h : inC j c = true
  · rw [if_pos h, show [c].filter (inC j) = [c] by simp [h]]
    rfl
  · rw [if_neg h, show [c].filter (inC j) = [] by simp [h]]
    rfl
theorem one_is : SpansIs (hE (seg 0 1) [oneV]) [⟨0, 1, { data := #[120] }, boolV⟩] := by
  have hc : ∀ nm, cvN (seg 0 1) [oneV] nm = if nm = oneV.nm then [⟨0, 1, { data := #[120] }, boolV⟩] else [] := fun nm => by
    have := cvN_snoc (seg 0 1) [] oneV nm
    rw [List.nil_append, one_cv] at this
    rw [this]
    have z : cvN (seg 0 1) [] nm = [] := rfl
    rw [z, List.nil_append]
    by_cases e : nm = oneV.nm
    · rw [if_pos ⟨by show (0 : Int) < 1; decide, e⟩, if_pos e]
    · rw [if_neg (fun q => e q.2), if_neg e]
  have hv : ∀ nm j, hE (seg 0 1) [oneV] nm j = if nm = oneV.nm ∧ 0 ≤ j ∧ j < 1 then some boolV else none := fun nm j => by
    unfold hE
    rw [hc]
    by_cases e : nm = oneV.nm
    · rw [if_pos e]
      have := valC_snoc1 ⟨0, 1, { data := #[120] }, boolV⟩ j
      have hin : inC j (⟨0, 1, { data := #[120] }, boolV⟩ : SpV) = decide (0 ≤ j ∧ j < 1) := rfl
      rw [this, hin]
      by_cases q : 0 ≤ j ∧ j < 1
      · rw [if_pos (decide_eq_true q)]
        show (if boolV.k = 0 then none else some boolV) = _
        rw [if_neg (by decide), if_pos ⟨e, q⟩]
      · rw [if_neg (fun h => q (of_decide_eq_true h)), if_neg (fun h => q h.2)]
    · rw [if_neg e, if_neg (fun h => e h.1)]; rfl
  refine ⟨List.pairwise_singleton _ _, fun p => ?_⟩
  rw [List.mem_singleton]
  constructor
  · rintro rfl
    refine ⟨by show (0 : Int) < 1; decide, fun j h1 h2 => ?_, ?_, ?_⟩
    · rw [hv, if_pos ⟨rfl, h1, h2⟩]
    · rw [hv, if_neg (fun h => by have := h.2.1; revert this; show ¬ ((0 : Int) ≤ 0 - 1); decide)]; simp
    · rw [hv, if_neg (fun h => by have := h.2.2; revert this; show ¬ ((1 : Int) < 1); decide)]; simp
  · rintro ⟨h0, h1, h2, h3⟩
    obtain ⟨f, t, nm, v⟩ := p
    simp only at h0 h1 h2 h3
    have a1 := h1 f (Int.le_refl _) h0
    have a2 := h1 (t - 1) (by omega) (by omega)
    rw [hv] at a1 a2
    split at a1
    · rename_i q1
      split at a2
      · rename_i q2
        have e1 : f = 0 := by omega
        have e2 : t = 1 := by omega
        have e3 : boolV = v := Option.some.inj a1
        rw [e1, e2, ← e3, q1.1]
        rfl
      · cases a2
    · cases a1
theorem none_is {L : List MkV} {S : List SpV} (h : SpansIs (hE [] L) S) : S = [] := by
  cases S with
  | nil => rfl
  | cons p S =>
    have r := (h.mem p).1 (by simp)
    have a := r.2.1 p.fr (Int.le_refl _) r.1
    rw [hE_out (E := []) ⟨by simp, by simp, by simp⟩ L p.nm (by show p.fr < 0 ∨ (0 : Int) ≤ p.fr; omega)] at a
    cases a
attribute [local go_sem] Oper.semAt_some
theorem Gr.spans_none {w W : World} {sb mb : Nat} {E : List Elt} {L : List MkV} (h : Gr w sb mb E L W) (rt : ∀ x ∈ L, x.v.right = true) (hT : K.V.Tabs W) : Calls Tryz.prog 25 #[.pointer (some ⟨mb, 0, none⟩), .pointer none] W fun e w' => ∃ la c, e = .returned (.slice la 0 c) ∧ Below W.heap.size W w' := by
  obtain ⟨⟨s, m, rfl, rfl, hs, hm, rfl, c1, c2, d⟩, b'⟩ := h
  refine (Spans_anyP (pv := .pointer none) (E := []) (.inl ⟨rfl, rfl⟩) hm rt hT).mono ?_
  rintro e w' ⟨v, rfl, S, lo, is, ok, len, b⟩
  have hS := none_is is
  subst hS
  obtain ⟨a, c, rfl, _⟩ := lo.open RSp_is (fun p hp => (ok p hp).1)
  exact ⟨a, c, rfl, b⟩
theorem Gr.spans_one {w W : World} {sb mb : Nat} (h : Gr w sb mb (seg 0 1) [oneV] W) (hT : K.V.Tabs W) : Calls Tryz.prog 25 #[.pointer (some ⟨mb, 0, none⟩), .pointer (some ⟨sb, 0, none⟩)] W fun e w' => ∃ lb c2, e = .returned (.slice lb 1 c2) ∧ Below W.heap.size W w' := by
  refine (h.spans oneV_right hT).mono ?_
  rintro e w' ⟨v, rfl, ⟨S, hS⟩, _, b⟩
  have e2 := hS.is.unique one_is
  subst e2
  obtain ⟨a, c, rfl, _⟩ := hS.lo.open RSp_is hS.ok
  exact ⟨a, c, rfl, b⟩
set_option maxHeartbeats 8000000 in
theorem nil_any (k : IdK) (hk : k.ok) (nm : ByteArray) (x : VaV) (w : World) (hT : K.V.Tabs w) : Calls Tryz.prog 4 #[k.v, .string nm, x.v] w fun e w' => e = .returned (.bool true) ∧ Below w.heap.size w w' := by
  obtain ⟨w1, hw1⟩ : ∃ w1, w.alloc (.cells k.c.toArray 36) = w1 := ⟨_, rfl⟩
  obtain ⟨w2, hw2⟩ : ∃ w2, w1.alloc (.cells x.c.toArray 40) = w2 := ⟨_, rfl⟩
  have p1 : IdAt w1 w.heap.size k := by rw [← hw1]; exact heap_alloc_new _ _
  have b1 : Below w.heap.size w w1 := by rw [← hw1]; exact (Below.refl _ _).alloc (Nat.le_refl _) _
  have z1 : w1.heap.size = w.heap.size + 1 := by rw [← hw1]; simp
  have p2 : VaAt w2 (w.heap.size + 1) x := by rw [← hw2, ← z1]; exact heap_alloc_new _ _
  have b2 : Below w1.heap.size w1 w2 := by rw [← hw2]; exact (Below.refl _ _).alloc (Nat.le_refl _) _
  have HB := hidMk (And.intro (p1.below b2) (And.intro p2 (b1.trans (b2.mono b1.size))))
  have HW := hidMk (And.intro hw1 hw2)
  have HT := hidMk (fun (W : World) (b : Below w2.heap.size w2 W) => (hT.below (b1.trans (b2.mono b1.size))).below b)
  have HN := hidMk (fun W : World => new_any W)
  have HM := hidMk mnew_any
  clear p1 b1 z1 p2 b2 hw1 hw2 hT
  show Calls Tryz.prog 4 #[.agg k.c.toArray, .string nm, .agg x.c.toArray] w _
  go_enter Tryz.func4, Tryz.ntmps4
  go_upto_region 3 with fail
  rw [HW.out.1, HW.out.2]
  go_upto_region 7 with (first
    | (go_at_call 8; refine (HN.out _).mono ?_; rintro e w3 ⟨s, rfl, hs, c1, b1⟩)
    | (go_at_call 10; refine (HM.out _).mono ?_; rintro e w4 ⟨m, rfl, hm, hL, c2, b2⟩)
    | fail)
  have G4 := gr_new hs c1 b1 hm hL c2 b2
  generalize s.sb = sb at *
  generalize m.mb = mb at *
  have I1 : insC (seg 0 0) (idN 1) zId = 0 ∧ insR (seg 0 0) (idN 1) zId = seg 0 1 := ins_seg 0
  have CI := hidMk ((G4.ins (k := idN 1) (b := zId) (idN_ok (by omega)) zId_ok (by rw [seg_len]; omega)).mono (R' := fun e W => e = .returned (.int .i64 (insC (seg 0 0) (idN 1) zId : Int)) ∧ Gr w2 sb mb (seg 0 1) [] W) (fun e W q => ⟨q.1, by rw [← I1.2]; exact q.2⟩))
  clear hs c1 b1 hm hL c2 b2 G4 HN HM
  refine nil7 (sb := sb) (z := (insC (seg 0 0) (idN 1) zId : Int)) (fun W => Gr w2 sb mb (seg 0 1) [] W) _ w4 _ rfl rfl CI.out ?_
  intro a' w5 hg ha
  subst ha
  simp only [Act.put, List.setIfInBounds_toArray, List.set_cons_zero, List.set_cons_succ]
  have A := hg.addN (HT.out w5 hg.bel) oneV_ok (by decide)
  rw [one_add.1, one_add.2] at A
  have CA := hidMk (A.mono (R' := fun e W => e = .returned (.int .i64 0) ∧ Gr w2 sb mb (seg 0 1) [oneV] W) (fun e W q => ⟨q.1, q.2.1⟩))
  clear hg A CI
  go_upto_region 8 with fail
  refine nil8 (mb := mb) (fun W => Gr w2 sb mb (seg 0 1) [oneV] W) _ w5 _ rfl rfl CA.out ?_
  intro a' w6 hg ha
  subst ha
  simp only [Act.put, List.setIfInBounds_toArray, List.set_cons_zero, List.set_cons_succ]
  clear CA
  have LKs : ∀ W, Below w2.heap.size w2 W → (Instr.loadAt 36 (.pointer (some ⟨w.heap.size, 0, none⟩))).run Tryz.prog W = .ok k.v W := fun W b => load_id hk (HB.out.1.below b)
  have LV := load_va (HB.out.2.1.below hg.bel)
  have C1 : Calls Tryz.prog 12 #[.pointer none, k.v, .string nm, x.v, k.v, k.v, .int .i64 0] w6 fun e w1 => e = .returned (.int .i64 1) ∧ (Instr.loadAt 36 (.pointer (some ⟨w.heap.size, 0, none⟩))).run Tryz.prog w1 = .ok k.v w1 ∧ Calls Tryz.prog 14 #[.pointer none, k.v] w1 fun e w2 => e = .returned (.int .i64 1) ∧ Calls Tryz.prog 27 #[.pointer none] w2 fun e w3 => e = .returned (.int .i64 0) ∧ Calls Tryz.prog 20 #[.pointer none] w3 fun e w4 => e = .returned (.pointer none) ∧ (Instr.loadAt 36 (.pointer (some ⟨w.heap.size, 0, none⟩))).run Tryz.prog w4 = .ok k.v w4 ∧ Calls Tryz.prog 23 #[.pointer none, .pointer (some ⟨sb, 0, none⟩), k.v] w4 fun e w5 => e = .returned (.slice none 0 0) ∧ Calls Tryz.prog 25 #[.pointer none, .pointer (some ⟨sb, 0, none⟩)] w5 fun e w6 => e = .returned (.slice none 0 0) ∧ Calls Tryz.prog 25 #[.pointer (some ⟨mb, 0, none⟩), .pointer none] w6 fun e w7 => ∃ la c, e = .returned (.slice la 0 c) ∧ Calls Tryz.prog 23 #[.pointer (some ⟨mb, 0, none⟩), .pointer none, (idN 1).v] w7 fun e w8 => e = .returned (.slice none 0 0) ∧ Calls Tryz.prog 25 #[.pointer (some ⟨mb, 0, none⟩), .pointer (some ⟨sb, 0, none⟩)] w8 fun e w9 => ∃ lb c2, e = .returned (.slice lb 1 c2) ∧ Below w.heap.size w w9 := by
    refine (nadd_nil k nm x w6).mono ?_
    rintro e y1 ⟨rfl, d1⟩
    have g1 := hg.below d1
    refine ⟨rfl, LKs _ g1.bel, (nundo_nil k y1).mono ?_⟩
    rintro e y2 ⟨rfl, d2⟩
    have g2 := g1.below d2
    refine ⟨rfl, (nlen_nil y2).mono ?_⟩
    rintro e _ ⟨rfl, rfl⟩
    refine ⟨rfl, (nfork_nil _).mono ?_⟩
    rintro e _ ⟨rfl, rfl⟩
    refine ⟨rfl, LKs _ g2.bel, (nover_nil _ k _).mono ?_⟩
    rintro e y5 ⟨rfl, d5⟩
    have g5 := g2.below d5
    refine ⟨rfl, (nspans_nil _ y5).mono ?_⟩
    rintro e _ ⟨rfl, rfl⟩
    refine ⟨rfl, (g5.spans_none oneV_right (HT.out _ g5.bel)).mono ?_⟩
    rintro e y7 ⟨la, c, rfl, d7⟩
    have g7 := g5.below d7
    refine ⟨la, c, rfl, (over_none mb (k := idN 1) (idN_ok (by omega)) y7).mono ?_⟩
    rintro e y8 ⟨rfl, d8⟩
    have g8 := g7.below d8
    refine ⟨rfl, (g8.spans_one (HT.out _ g8.bel)).mono ?_⟩
    rintro e y9 ⟨lb, c2, rfl, d9⟩
    have g9 := g8.below d9
    exact ⟨lb, c2, rfl, HB.out.2.2.trans (g9.bel.mono HB.out.2.2.size)⟩
  have CC := hidMk C1
  have LK := LKs _ hg.bel
  clear C1 LKs hg
  go_upto_region 9 with fail
  refine nil9 (b3 := w.heap.size) (b5 := w.heap.size + 1) (sb := sb) (mb := mb) (k := k) (x := x) (nm := nm) (fun W => Below w.heap.size w W) _ w6 _ rfl rfl rfl rfl rfl rfl rfl rfl rfl LK LV CC.out ?_
  intro la c lb c2 a' w7 hf ha
  have HF := hidMk hf
  subst ha
  simp only [Act.put, List.setIfInBounds_toArray, List.set_cons_zero, List.set_cons_succ]
  clear hf CC LK LV
  go_wp2
  go_ret
  exact ⟨rfl, HF.out⟩
end Go.Proofs.YtifendlpeebofaaGreatDoor
