import Derived.Test.YtoofljkgdjjllaaP1
import Derived.Test.YtoofljkgdjjllaaP2
import Derived.Test.YtoofljkgdjjllaaP0
namespace Go.Proofs.Ytoofljkgdjjllaa
open Go.RowKit
set_option linter.unusedVariables false
set_option linter.unusedSimpArgs false

def alike9_ops : Array Oper := #[{ dst := some 62, op := Op.load 37 (Operand.tmp 9), type := 37, pos := "law.go:106", after := #[], guard := none }, { dst := some 63, op := Op.load 37 (Operand.tmp 12), type := 37, pos := "law.go:106", after := #[], guard := none }, { dst := some 64, op := Op.binOp BinOp.neq 37 (Operand.tmp 62) (Operand.tmp 63) 37, type := 4, pos := "law.go:106", after := #[{ on := 0, ground := Ground.data }, { on := 1, ground := Ground.data }], guard := none }, { dst := some 65, op := Op.move (Operand.tmp 64), type := 4, pos := "law.go:106", after := #[{ on := 2, ground := Ground.data }], guard := none }, { dst := some 66, op := Op.move (Operand.tmp 10), type := 9, pos := "law.go:106", after := #[{ on := 3, ground := Ground.guard }], guard := some (3, false) }, { dst := some 67, op := Op.move (Operand.tmp 13), type := 9, pos := "law.go:106", after := #[{ on := 3, ground := Ground.guard }], guard := some (3, false) }, { dst := some 68, op := Op.binOp BinOp.neq 9 (Operand.tmp 66) (Operand.tmp 67) 9, type := 4, pos := "law.go:106", after := #[{ on := 4, ground := Ground.data }, { on := 5, ground := Ground.data }, { on := 3, ground := Ground.guard }], guard := some (3, false) }, { dst := some 69, op := Op.pick (Operand.tmp 65) (Operand.const (Value.bool true)) (Operand.tmp 68), type := 4, pos := "law.go:106", after := #[{ on := 3, ground := Ground.data }, { on := 6, ground := Ground.data }], guard := none }, { dst := some 70, op := Op.move (Operand.tmp 69), type := 4, pos := "law.go:106", after := #[{ on := 7, ground := Ground.data }, { on := 3, ground := Ground.chain }], guard := none }, { dst := some 71, op := Op.move (Operand.tmp 11), type := 4, pos := "law.go:106", after := #[{ on := 8, ground := Ground.guard }], guard := some (8, false) }, { dst := some 72, op := Op.move (Operand.tmp 14), type := 4, pos := "law.go:106", after := #[{ on := 8, ground := Ground.guard }], guard := some (8, false) }, { dst := some 73, op := Op.binOp BinOp.neq 4 (Operand.tmp 71) (Operand.tmp 72) 4, type := 4, pos := "law.go:106", after := #[{ on := 9, ground := Ground.data }, { on := 10, ground := Ground.data }, { on := 8, ground := Ground.guard }], guard := some (8, false) }, { dst := some 74, op := Op.pick (Operand.tmp 70) (Operand.const (Value.bool true)) (Operand.tmp 73), type := 4, pos := "law.go:106", after := #[{ on := 8, ground := Ground.data }, { on := 11, ground := Ground.data }], guard := none }, { dst := some 75, op := Op.move (Operand.tmp 74), type := 4, pos := "law.go:106", after := #[{ on := 12, ground := Ground.data }, { on := 8, ground := Ground.chain }], guard := none }, { dst := some 76, op := Op.move (Operand.tmp 0), type := 25, pos := "law.go:106", after := #[{ on := 13, ground := Ground.guard }], guard := some (13, false) }, { dst := some 77, op := Op.load 37 (Operand.tmp 8), type := 37, pos := "law.go:106", after := #[{ on := 13, ground := Ground.guard }], guard := some (13, false) }, { dst := some 78, op := Op.call { callee := Callee.value (Operand.func 39), args := #[Operand.tmp 76, Operand.tmp 77], argTypes := #[25, 37] }, type := 4, pos := "law.go:106", after := #[{ on := 14, ground := Ground.data }, { on := 15, ground := Ground.data }, { on := 13, ground := Ground.chain }, { on := 13, ground := Ground.guard }], guard := some (13, false) }, { dst := some 79, op := Op.move (Operand.tmp 1), type := 27, pos := "law.go:106", after := #[{ on := 13, ground := Ground.guard }], guard := some (13, false) }, { dst := some 80, op := Op.load 37 (Operand.tmp 8), type := 37, pos := "law.go:106", after := #[{ on := 13, ground := Ground.guard }], guard := some (13, false) }, { dst := some 81, op := Op.call { callee := Callee.value (Operand.func 40), args := #[Operand.tmp 79, Operand.tmp 80], argTypes := #[27, 37] }, type := 4, pos := "law.go:106", after := #[{ on := 17, ground := Ground.data }, { on := 18, ground := Ground.data }, { on := 16, ground := Ground.chain }, { on := 13, ground := Ground.guard }], guard := some (13, false) }, { dst := some 82, op := Op.binOp BinOp.neq 4 (Operand.tmp 78) (Operand.tmp 81) 4, type := 4, pos := "law.go:106", after := #[{ on := 16, ground := Ground.data }, { on := 19, ground := Ground.data }, { on := 13, ground := Ground.guard }], guard := some (13, false) }, { dst := some 83, op := Op.pick (Operand.tmp 75) (Operand.const (Value.bool true)) (Operand.tmp 82), type := 4, pos := "law.go:106", after := #[{ on := 13, ground := Ground.data }, { on := 20, ground := Ground.data }], guard := none }, { dst := some 84, op := Op.move (Operand.tmp 83), type := 4, pos := "law.go:106", after := #[{ on := 21, ground := Ground.data }, { on := 19, ground := Ground.chain }], guard := none }, { dst := some 85, op := Op.move (Operand.tmp 0), type := 25, pos := "law.go:106", after := #[{ on := 22, ground := Ground.guard }], guard := some (22, false) }, { dst := some 86, op := Op.load 37 (Operand.tmp 8), type := 37, pos := "law.go:106", after := #[{ on := 22, ground := Ground.guard }], guard := some (22, false) }, { dst := some 87, op := Op.call { callee := Callee.value (Operand.func 29), args := #[Operand.tmp 85, Operand.tmp 86], argTypes := #[25, 37] }, type := 3, pos := "law.go:106", after := #[{ on := 23, ground := Ground.data }, { on := 24, ground := Ground.data }, { on := 22, ground := Ground.chain }, { on := 22, ground := Ground.guard }], guard := some (22, false) }, { dst := some 88, op := Op.move (Operand.tmp 1), type := 27, pos := "law.go:106", after := #[{ on := 22, ground := Ground.guard }], guard := some (22, false) }, { dst := some 89, op := Op.load 37 (Operand.tmp 8), type := 37, pos := "law.go:106", after := #[{ on := 22, ground := Ground.guard }], guard := some (22, false) }, { dst := some 90, op := Op.call { callee := Callee.value (Operand.func 41), args := #[Operand.tmp 88, Operand.tmp 89], argTypes := #[27, 37] }, type := 3, pos := "law.go:106", after := #[{ on := 26, ground := Ground.data }, { on := 27, ground := Ground.data }, { on := 25, ground := Ground.chain }, { on := 22, ground := Ground.guard }], guard := some (22, false) }, { dst := some 91, op := Op.binOp BinOp.neq 3 (Operand.tmp 87) (Operand.tmp 90) 3, type := 4, pos := "law.go:106", after := #[{ on := 25, ground := Ground.data }, { on := 28, ground := Ground.data }, { on := 22, ground := Ground.guard }], guard := some (22, false) }, { dst := some 92, op := Op.pick (Operand.tmp 84) (Operand.const (Value.bool true)) (Operand.tmp 91), type := 4, pos := "law.go:106", after := #[{ on := 22, ground := Ground.data }, { on := 29, ground := Ground.data }], guard := none }, { dst := some 93, op := Op.move (Operand.tmp 92), type := 4, pos := "law.go:106", after := #[{ on := 30, ground := Ground.data }, { on := 28, ground := Ground.chain }], guard := none }, { dst := some 94, op := Op.move (Operand.tmp 0), type := 25, pos := "law.go:106", after := #[{ on := 31, ground := Ground.guard }], guard := some (31, false) }, { dst := some 95, op := Op.load 37 (Operand.tmp 8), type := 37, pos := "law.go:106", after := #[{ on := 31, ground := Ground.guard }], guard := some (31, false) }, { dst := some 96, op := Op.call { callee := Callee.value (Operand.func 24), args := #[Operand.tmp 94, Operand.tmp 95], argTypes := #[25, 37] }, type := 41, pos := "law.go:106", after := #[{ on := 32, ground := Ground.data }, { on := 33, ground := Ground.data }, { on := 31, ground := Ground.chain }, { on := 31, ground := Ground.guard }], guard := some (31, false) }, { dst := some 97, op := Op.move (Operand.tmp 1), type := 27, pos := "law.go:106", after := #[{ on := 31, ground := Ground.guard }], guard := some (31, false) }, { dst := some 98, op := Op.load 37 (Operand.tmp 8), type := 37, pos := "law.go:106", after := #[{ on := 31, ground := Ground.guard }], guard := some (31, false) }, { dst := some 99, op := Op.call { callee := Callee.value (Operand.func 36), args := #[Operand.tmp 97, Operand.tmp 98], argTypes := #[27, 37] }, type := 41, pos := "law.go:106", after := #[{ on := 35, ground := Ground.data }, { on := 36, ground := Ground.data }, { on := 34, ground := Ground.chain }, { on := 31, ground := Ground.guard }], guard := some (31, false) }, { dst := some 100, op := Op.call { callee := Callee.value (Operand.func 28), args := #[Operand.tmp 96, Operand.tmp 99], argTypes := #[41, 41] }, type := 4, pos := "law.go:106", after := #[{ on := 34, ground := Ground.data }, { on := 37, ground := Ground.data }, { on := 37, ground := Ground.chain }, { on := 31, ground := Ground.guard }], guard := some (31, false) }, { dst := some 101, op := Op.unOp UnOp.not 4 (Operand.tmp 100), type := 4, pos := "law.go:106", after := #[{ on := 38, ground := Ground.data }, { on := 31, ground := Ground.guard }], guard := some (31, false) }, { dst := some 102, op := Op.pick (Operand.tmp 93) (Operand.const (Value.bool true)) (Operand.tmp 101), type := 4, pos := "law.go:106", after := #[{ on := 31, ground := Ground.data }, { on := 39, ground := Ground.data }], guard := none }]
set_option maxRecDepth 100000 in
set_option maxHeartbeats 4000000 in
theorem alike9 (B : Nat) (w0 : World) (bi bu bv : Nat) (tv dv kv uv : Value) (ks : ByteArray) (pb lb : Bool) (dd : Int) (IK : World → Value → Prop) (a : Act) (w : World) (Q : Exit → Act → World → Prop) (hsz : a.tmps.size = 103)
    (t0 : a.tmps.getD 0 undef = tv)
    (t1 : a.tmps.getD 1 undef = dv)
    (t8 : a.tmps.getD 8 undef = .pointer (some ⟨bi, 0, none⟩))
    (t9 : a.tmps.getD 9 undef = .pointer (some ⟨bu, 0, none⟩))
    (t10 : a.tmps.getD 10 undef = .string ks)
    (t11 : a.tmps.getD 11 undef = .bool pb)
    (t12 : a.tmps.getD 12 undef = .pointer (some ⟨bv, 0, none⟩))
    (t13 : a.tmps.getD 13 undef = .string ks)
    (t14 : a.tmps.getD 14 undef = .bool pb)
    (h0 : Below B w0 w.drew)
    (hN : ∀ W, Below B w0 W → B ≤ W.heap.size)
    (KI : ∀ W W' v, IK W v → Below W.heap.size W W' → IK W' v)
    (CLT : ∀ W, Below B w0 W → Calls Try.prog 39 #[tv, kv] W fun e w' => e = .returned (.bool lb) ∧ Below W.heap.size W w')
    (CLD : ∀ W, Below B w0 W → Calls Try.prog 40 #[dv, kv] W fun e w' => e = .returned (.bool lb) ∧ Below W.heap.size W w')
    (CDT : ∀ W, Below B w0 W → Calls Try.prog 29 #[tv, kv] W fun e w' => e = .returned (.int .i64 dd) ∧ Below W.heap.size W w')
    (CDD : ∀ W, Below B w0 W → Calls Try.prog 41 #[dv, kv] W fun e w' => e = .returned (.int .i64 dd) ∧ Below W.heap.size W w')
    (CKT : ∀ W, Below B w0 W → Calls Try.prog 24 #[tv, kv] W fun e w' => ∃ v, e = .returned v ∧ IK w' v ∧ Below W.heap.size W w')
    (CKD : ∀ W, Below B w0 W → Calls Try.prog 36 #[dv, kv] W fun e w' => ∃ v, e = .returned v ∧ IK w' v ∧ Below W.heap.size W w')
    (CS : ∀ W v u, Below B w0 W → IK W v → IK W u → Calls Try.prog 28 #[v, u] W fun e w' => e = .returned (.bool true) ∧ Below W.heap.size W w')
    (G1 : ∀ W, Below B w0 W → (Instr.loadAt 37 (.pointer (some ⟨bu, 0, none⟩))).run Try.prog W = .ok (uv) W)
    (G2 : ∀ W, Below B w0 W → (Instr.loadAt 37 (.pointer (some ⟨bv, 0, none⟩))).run Try.prog W = .ok (uv) W)
    (G3 : ∀ W, (eqGuard BinOp.neq 37 (Operand.tmp 62) (Operand.tmp 63) (uv) (uv)).run Try.prog W = .ok () W)
    (G4 : ∀ W, Below B w0 W → (binOp BinOp.neq 37 (uv) (uv)).run Try.prog W = .ok (.bool false) W)
    (G5 : ∀ W, (eqGuard BinOp.neq 9 (Operand.tmp 66) (Operand.tmp 67) (.string ks) (.string ks)).run Try.prog W = .ok () W)
    (G6 : ∀ W, Below B w0 W → (binOp BinOp.neq 9 (.string ks) (.string ks)).run Try.prog W = .ok (.bool false) W)
    (G7 : ∀ W, (eqGuard BinOp.neq 4 (Operand.tmp 71) (Operand.tmp 72) (.bool pb) (.bool pb)).run Try.prog W = .ok () W)
    (G8 : ∀ W, Below B w0 W → (binOp BinOp.neq 4 (.bool pb) (.bool pb)).run Try.prog W = .ok (.bool false) W)
    (G9 : ∀ W, Below B w0 W → (Instr.loadAt 37 (.pointer (some ⟨bi, 0, none⟩))).run Try.prog W = .ok (kv) W)
    (G10 : ∀ W, (eqGuard BinOp.neq 4 (Operand.tmp 78) (Operand.tmp 81) (.bool lb) (.bool lb)).run Try.prog W = .ok () W)
    (G11 : ∀ W, Below B w0 W → (binOp BinOp.neq 4 (.bool lb) (.bool lb)).run Try.prog W = .ok (.bool false) W)
    (G12 : ∀ W, (eqGuard BinOp.neq 3 (Operand.tmp 87) (Operand.tmp 90) (.int .i64 dd) (.int .i64 dd)).run Try.prog W = .ok () W)
    (G13 : ∀ W, Below B w0 W → (binOp BinOp.neq 3 (.int .i64 dd) (.int .i64 dd)).run Try.prog W = .ok (.bool false) W)
    (h : ∀ (v u : Value) (a' : Act) (w' : World), Below B w0 w' → a' = (((((((((((((((((((((((((((((((((((((((((a).put (some 62) (uv)).put (some 63) (uv)).put (some 64) (.bool false)).put (some 65) (.bool false)).put (some 66) (.string ks)).put (some 67) (.string ks)).put (some 68) (.bool false)).put (some 69) (.bool false)).put (some 70) (.bool false)).put (some 71) (.bool pb)).put (some 72) (.bool pb)).put (some 73) (.bool false)).put (some 74) (.bool false)).put (some 75) (.bool false)).put (some 76) (tv)).put (some 77) (kv)).put (some 79) (dv)).put (some 80) (kv)).put (some 78) (.bool lb)).put (some 81) (.bool lb)).put (some 82) (.bool false)).put (some 83) (.bool false)).put (some 84) (.bool false)).put (some 85) (tv)).put (some 86) (kv)).put (some 88) (dv)).put (some 89) (kv)).put (some 87) (.int .i64 dd)).put (some 90) (.int .i64 dd)).put (some 91) (.bool false)).put (some 92) (.bool false)).put (some 93) (.bool false)).put (some 94) (tv)).put (some 95) (kv)).put (some 97) (dv)).put (some 98) (kv)).put (some 96) (v)).put (some 99) (u)).put (some 100) (.bool true)).put (some 101) (.bool false)).put (some 102) (.bool false) → Q .normal a' w') :
    (Code.region 9 alike9_ops true).wp Try.prog Q a w := by
  refine wp_region_noPanic ?_
  refine wp_region_held_drew (S := fun w' => Below B w0 w') (by kernel_rfl) (h0) (fun hHeld => ?_)
  refine wpAnyH_take (i := 0) (oi := { dst := some 62, op := Op.load 37 (Operand.tmp 9), type := 37, pos := "law.go:106", after := #[], guard := none }) (v := uv) rfl (by kernel_rfl) (by kernel_rfl) (by kernel_rfl) (fun _ _ _ h => h) (Or.inl ⟨by rfl, fun w1 hw => exec_load rfl t9 (G1 _ hw)⟩) hHeld ?_
  change wpAnyH _ _ _ _ _ _ _ (a.put (some 62) (uv)) _
  obtain ⟨a1, e1⟩ : ∃ act, act = a.put (some 62) (uv) := ⟨_, rfl⟩
  rw [← e1] at h ⊢
  have z1 : a1.tmps.size = 103 := by rw [e1, put_size]; exact hsz
  replace t0 : a1.tmps.getD 0 undef = tv := by rw [e1, put_ne _ _ _ _ (by decide)]; exact t0
  replace t1 : a1.tmps.getD 1 undef = dv := by rw [e1, put_ne _ _ _ _ (by decide)]; exact t1
  replace t8 : a1.tmps.getD 8 undef = .pointer (some ⟨bi, 0, none⟩) := by rw [e1, put_ne _ _ _ _ (by decide)]; exact t8
  clear t9
  replace t10 : a1.tmps.getD 10 undef = .string ks := by rw [e1, put_ne _ _ _ _ (by decide)]; exact t10
  replace t11 : a1.tmps.getD 11 undef = .bool pb := by rw [e1, put_ne _ _ _ _ (by decide)]; exact t11
  replace t12 : a1.tmps.getD 12 undef = .pointer (some ⟨bv, 0, none⟩) := by rw [e1, put_ne _ _ _ _ (by decide)]; exact t12
  replace t13 : a1.tmps.getD 13 undef = .string ks := by rw [e1, put_ne _ _ _ _ (by decide)]; exact t13
  replace t14 : a1.tmps.getD 14 undef = .bool pb := by rw [e1, put_ne _ _ _ _ (by decide)]; exact t14
  have t62 : a1.tmps.getD 62 undef = uv := by rw [e1]; exact put_same _ _ _ (by omega)
  clear e1 hsz
  refine wpAnyH_take (i := 1) (oi := { dst := some 63, op := Op.load 37 (Operand.tmp 12), type := 37, pos := "law.go:106", after := #[], guard := none }) (v := uv) rfl (by kernel_rfl) (by kernel_rfl) (by kernel_rfl) (fun _ _ _ h => h) (Or.inl ⟨by rfl, fun w1 hw => exec_load rfl t12 (G2 _ hw)⟩) hHeld ?_
  change wpAnyH _ _ _ _ _ _ _ (a1.put (some 63) (uv)) _
  obtain ⟨a2, e2⟩ : ∃ act, act = a1.put (some 63) (uv) := ⟨_, rfl⟩
  rw [← e2] at h ⊢
  have z2 : a2.tmps.size = 103 := by rw [e2, put_size]; exact z1
  replace t0 : a2.tmps.getD 0 undef = tv := by rw [e2, put_ne _ _ _ _ (by decide)]; exact t0
  replace t1 : a2.tmps.getD 1 undef = dv := by rw [e2, put_ne _ _ _ _ (by decide)]; exact t1
  replace t8 : a2.tmps.getD 8 undef = .pointer (some ⟨bi, 0, none⟩) := by rw [e2, put_ne _ _ _ _ (by decide)]; exact t8
  replace t10 : a2.tmps.getD 10 undef = .string ks := by rw [e2, put_ne _ _ _ _ (by decide)]; exact t10
  replace t11 : a2.tmps.getD 11 undef = .bool pb := by rw [e2, put_ne _ _ _ _ (by decide)]; exact t11
  clear t12
  replace t13 : a2.tmps.getD 13 undef = .string ks := by rw [e2, put_ne _ _ _ _ (by decide)]; exact t13
  replace t14 : a2.tmps.getD 14 undef = .bool pb := by rw [e2, put_ne _ _ _ _ (by decide)]; exact t14
  replace t62 : a2.tmps.getD 62 undef = uv := by rw [e2, put_ne _ _ _ _ (by decide)]; exact t62
  have t63 : a2.tmps.getD 63 undef = uv := by rw [e2]; exact put_same _ _ _ (by omega)
  clear e2 z1
  refine wpAnyH_take (i := 2) (oi := { dst := some 64, op := Op.binOp BinOp.neq 37 (Operand.tmp 62) (Operand.tmp 63) 37, type := 4, pos := "law.go:106", after := #[{ on := 0, ground := Ground.data }, { on := 1, ground := Ground.data }], guard := none }) (v := .bool false) rfl (by kernel_rfl) (by kernel_rfl) (by kernel_rfl) (fun _ _ _ h => h) (Or.inl ⟨by rfl, fun w1 hw => exec_binOp rfl t62 t63 (G3 _) (G4 _ hw)⟩) hHeld ?_
  change wpAnyH _ _ _ _ _ _ _ (a2.put (some 64) (.bool false)) _
  obtain ⟨a3, e3⟩ : ∃ act, act = a2.put (some 64) (.bool false) := ⟨_, rfl⟩
  rw [← e3] at h ⊢
  have z3 : a3.tmps.size = 103 := by rw [e3, put_size]; exact z2
  replace t0 : a3.tmps.getD 0 undef = tv := by rw [e3, put_ne _ _ _ _ (by decide)]; exact t0
  replace t1 : a3.tmps.getD 1 undef = dv := by rw [e3, put_ne _ _ _ _ (by decide)]; exact t1
  replace t8 : a3.tmps.getD 8 undef = .pointer (some ⟨bi, 0, none⟩) := by rw [e3, put_ne _ _ _ _ (by decide)]; exact t8
  replace t10 : a3.tmps.getD 10 undef = .string ks := by rw [e3, put_ne _ _ _ _ (by decide)]; exact t10
  replace t11 : a3.tmps.getD 11 undef = .bool pb := by rw [e3, put_ne _ _ _ _ (by decide)]; exact t11
  replace t13 : a3.tmps.getD 13 undef = .string ks := by rw [e3, put_ne _ _ _ _ (by decide)]; exact t13
  replace t14 : a3.tmps.getD 14 undef = .bool pb := by rw [e3, put_ne _ _ _ _ (by decide)]; exact t14
  clear t62
  clear t63
  have t64 : a3.tmps.getD 64 undef = .bool false := by rw [e3]; exact put_same _ _ _ (by omega)
  clear e3 z2
  refine wpAnyH_take (i := 3) (oi := { dst := some 65, op := Op.move (Operand.tmp 64), type := 4, pos := "law.go:106", after := #[{ on := 2, ground := Ground.data }], guard := none }) (v := .bool false) rfl (by kernel_rfl) (by kernel_rfl) (by kernel_rfl) (fun _ _ _ h => h) (Or.inl ⟨by rfl, fun w1 hw => exec_move rfl t64⟩) hHeld ?_
  change wpAnyH _ _ _ _ _ _ _ (a3.put (some 65) (.bool false)) _
  obtain ⟨a4, e4⟩ : ∃ act, act = a3.put (some 65) (.bool false) := ⟨_, rfl⟩
  rw [← e4] at h ⊢
  have z4 : a4.tmps.size = 103 := by rw [e4, put_size]; exact z3
  replace t0 : a4.tmps.getD 0 undef = tv := by rw [e4, put_ne _ _ _ _ (by decide)]; exact t0
  replace t1 : a4.tmps.getD 1 undef = dv := by rw [e4, put_ne _ _ _ _ (by decide)]; exact t1
  replace t8 : a4.tmps.getD 8 undef = .pointer (some ⟨bi, 0, none⟩) := by rw [e4, put_ne _ _ _ _ (by decide)]; exact t8
  replace t10 : a4.tmps.getD 10 undef = .string ks := by rw [e4, put_ne _ _ _ _ (by decide)]; exact t10
  replace t11 : a4.tmps.getD 11 undef = .bool pb := by rw [e4, put_ne _ _ _ _ (by decide)]; exact t11
  replace t13 : a4.tmps.getD 13 undef = .string ks := by rw [e4, put_ne _ _ _ _ (by decide)]; exact t13
  replace t14 : a4.tmps.getD 14 undef = .bool pb := by rw [e4, put_ne _ _ _ _ (by decide)]; exact t14
  clear t64
  have t65 : a4.tmps.getD 65 undef = .bool false := by rw [e4]; exact put_same _ _ _ (by omega)
  clear e4 z3
  refine wpAnyH_take (i := 4) (oi := { dst := some 66, op := Op.move (Operand.tmp 10), type := 9, pos := "law.go:106", after := #[{ on := 3, ground := Ground.guard }], guard := some (3, false) }) (v := .string ks) rfl (by kernel_rfl) (by kernel_rfl) (by kernel_rfl) (fun _ _ _ h => h) (Or.inl ⟨by simp [Region.wanted, yielded, alike9_ops, tget z4 (by decide) t65], fun w1 hw => exec_move rfl t10⟩) hHeld ?_
  change wpAnyH _ _ _ _ _ _ _ (a4.put (some 66) (.string ks)) _
  obtain ⟨a5, e5⟩ : ∃ act, act = a4.put (some 66) (.string ks) := ⟨_, rfl⟩
  rw [← e5] at h ⊢
  have z5 : a5.tmps.size = 103 := by rw [e5, put_size]; exact z4
  replace t0 : a5.tmps.getD 0 undef = tv := by rw [e5, put_ne _ _ _ _ (by decide)]; exact t0
  replace t1 : a5.tmps.getD 1 undef = dv := by rw [e5, put_ne _ _ _ _ (by decide)]; exact t1
  replace t8 : a5.tmps.getD 8 undef = .pointer (some ⟨bi, 0, none⟩) := by rw [e5, put_ne _ _ _ _ (by decide)]; exact t8
  clear t10
  replace t11 : a5.tmps.getD 11 undef = .bool pb := by rw [e5, put_ne _ _ _ _ (by decide)]; exact t11
  replace t13 : a5.tmps.getD 13 undef = .string ks := by rw [e5, put_ne _ _ _ _ (by decide)]; exact t13
  replace t14 : a5.tmps.getD 14 undef = .bool pb := by rw [e5, put_ne _ _ _ _ (by decide)]; exact t14
  replace t65 : a5.tmps.getD 65 undef = .bool false := by rw [e5, put_ne _ _ _ _ (by decide)]; exact t65
  have t66 : a5.tmps.getD 66 undef = .string ks := by rw [e5]; exact put_same _ _ _ (by omega)
  clear e5 z4
  refine wpAnyH_take (i := 5) (oi := { dst := some 67, op := Op.move (Operand.tmp 13), type := 9, pos := "law.go:106", after := #[{ on := 3, ground := Ground.guard }], guard := some (3, false) }) (v := .string ks) rfl (by kernel_rfl) (by kernel_rfl) (by kernel_rfl) (fun _ _ _ h => h) (Or.inl ⟨by simp [Region.wanted, yielded, alike9_ops, tget z5 (by decide) t65], fun w1 hw => exec_move rfl t13⟩) hHeld ?_
  change wpAnyH _ _ _ _ _ _ _ (a5.put (some 67) (.string ks)) _
  obtain ⟨a6, e6⟩ : ∃ act, act = a5.put (some 67) (.string ks) := ⟨_, rfl⟩
  rw [← e6] at h ⊢
  have z6 : a6.tmps.size = 103 := by rw [e6, put_size]; exact z5
  replace t0 : a6.tmps.getD 0 undef = tv := by rw [e6, put_ne _ _ _ _ (by decide)]; exact t0
  replace t1 : a6.tmps.getD 1 undef = dv := by rw [e6, put_ne _ _ _ _ (by decide)]; exact t1
  replace t8 : a6.tmps.getD 8 undef = .pointer (some ⟨bi, 0, none⟩) := by rw [e6, put_ne _ _ _ _ (by decide)]; exact t8
  replace t11 : a6.tmps.getD 11 undef = .bool pb := by rw [e6, put_ne _ _ _ _ (by decide)]; exact t11
  clear t13
  replace t14 : a6.tmps.getD 14 undef = .bool pb := by rw [e6, put_ne _ _ _ _ (by decide)]; exact t14
  replace t65 : a6.tmps.getD 65 undef = .bool false := by rw [e6, put_ne _ _ _ _ (by decide)]; exact t65
  replace t66 : a6.tmps.getD 66 undef = .string ks := by rw [e6, put_ne _ _ _ _ (by decide)]; exact t66
  have t67 : a6.tmps.getD 67 undef = .string ks := by rw [e6]; exact put_same _ _ _ (by omega)
  clear e6 z5
  refine wpAnyH_take (i := 6) (oi := { dst := some 68, op := Op.binOp BinOp.neq 9 (Operand.tmp 66) (Operand.tmp 67) 9, type := 4, pos := "law.go:106", after := #[{ on := 4, ground := Ground.data }, { on := 5, ground := Ground.data }, { on := 3, ground := Ground.guard }], guard := some (3, false) }) (v := .bool false) rfl (by kernel_rfl) (by kernel_rfl) (by kernel_rfl) (fun _ _ _ h => h) (Or.inl ⟨by simp [Region.wanted, yielded, alike9_ops, tget z6 (by decide) t65], fun w1 hw => exec_binOp rfl t66 t67 (G5 _) (G6 _ hw)⟩) hHeld ?_
  change wpAnyH _ _ _ _ _ _ _ (a6.put (some 68) (.bool false)) _
  obtain ⟨a7, e7⟩ : ∃ act, act = a6.put (some 68) (.bool false) := ⟨_, rfl⟩
  rw [← e7] at h ⊢
  have z7 : a7.tmps.size = 103 := by rw [e7, put_size]; exact z6
  replace t0 : a7.tmps.getD 0 undef = tv := by rw [e7, put_ne _ _ _ _ (by decide)]; exact t0
  replace t1 : a7.tmps.getD 1 undef = dv := by rw [e7, put_ne _ _ _ _ (by decide)]; exact t1
  replace t8 : a7.tmps.getD 8 undef = .pointer (some ⟨bi, 0, none⟩) := by rw [e7, put_ne _ _ _ _ (by decide)]; exact t8
  replace t11 : a7.tmps.getD 11 undef = .bool pb := by rw [e7, put_ne _ _ _ _ (by decide)]; exact t11
  replace t14 : a7.tmps.getD 14 undef = .bool pb := by rw [e7, put_ne _ _ _ _ (by decide)]; exact t14
  replace t65 : a7.tmps.getD 65 undef = .bool false := by rw [e7, put_ne _ _ _ _ (by decide)]; exact t65
  clear t66
  clear t67
  have t68 : a7.tmps.getD 68 undef = .bool false := by rw [e7]; exact put_same _ _ _ (by omega)
  clear e7 z6
  refine wpAnyH_take (i := 7) (oi := { dst := some 69, op := Op.pick (Operand.tmp 65) (Operand.const (Value.bool true)) (Operand.tmp 68), type := 4, pos := "law.go:106", after := #[{ on := 3, ground := Ground.data }, { on := 6, ground := Ground.data }], guard := none }) (v := .bool false) rfl (by kernel_rfl) (by kernel_rfl) (by kernel_rfl) (fun _ _ _ h => h) (Or.inl ⟨by rfl, fun w1 hw => by go_simp⟩) hHeld ?_
  change wpAnyH _ _ _ _ _ _ _ (a7.put (some 69) (.bool false)) _
  obtain ⟨a8, e8⟩ : ∃ act, act = a7.put (some 69) (.bool false) := ⟨_, rfl⟩
  rw [← e8] at h ⊢
  have z8 : a8.tmps.size = 103 := by rw [e8, put_size]; exact z7
  replace t0 : a8.tmps.getD 0 undef = tv := by rw [e8, put_ne _ _ _ _ (by decide)]; exact t0
  replace t1 : a8.tmps.getD 1 undef = dv := by rw [e8, put_ne _ _ _ _ (by decide)]; exact t1
  replace t8 : a8.tmps.getD 8 undef = .pointer (some ⟨bi, 0, none⟩) := by rw [e8, put_ne _ _ _ _ (by decide)]; exact t8
  replace t11 : a8.tmps.getD 11 undef = .bool pb := by rw [e8, put_ne _ _ _ _ (by decide)]; exact t11
  replace t14 : a8.tmps.getD 14 undef = .bool pb := by rw [e8, put_ne _ _ _ _ (by decide)]; exact t14
  clear t65
  clear t68
  have t69 : a8.tmps.getD 69 undef = .bool false := by rw [e8]; exact put_same _ _ _ (by omega)
  clear e8 z7
  refine wpAnyH_take (i := 8) (oi := { dst := some 70, op := Op.move (Operand.tmp 69), type := 4, pos := "law.go:106", after := #[{ on := 7, ground := Ground.data }, { on := 3, ground := Ground.chain }], guard := none }) (v := .bool false) rfl (by kernel_rfl) (by kernel_rfl) (by kernel_rfl) (fun _ _ _ h => h) (Or.inl ⟨by rfl, fun w1 hw => exec_move rfl t69⟩) hHeld ?_
  change wpAnyH _ _ _ _ _ _ _ (a8.put (some 70) (.bool false)) _
  obtain ⟨a9, e9⟩ : ∃ act, act = a8.put (some 70) (.bool false) := ⟨_, rfl⟩
  rw [← e9] at h ⊢
  have z9 : a9.tmps.size = 103 := by rw [e9, put_size]; exact z8
  replace t0 : a9.tmps.getD 0 undef = tv := by rw [e9, put_ne _ _ _ _ (by decide)]; exact t0
  replace t1 : a9.tmps.getD 1 undef = dv := by rw [e9, put_ne _ _ _ _ (by decide)]; exact t1
  replace t8 : a9.tmps.getD 8 undef = .pointer (some ⟨bi, 0, none⟩) := by rw [e9, put_ne _ _ _ _ (by decide)]; exact t8
  replace t11 : a9.tmps.getD 11 undef = .bool pb := by rw [e9, put_ne _ _ _ _ (by decide)]; exact t11
  replace t14 : a9.tmps.getD 14 undef = .bool pb := by rw [e9, put_ne _ _ _ _ (by decide)]; exact t14
  clear t69
  have t70 : a9.tmps.getD 70 undef = .bool false := by rw [e9]; exact put_same _ _ _ (by omega)
  clear e9 z8
  refine wpAnyH_take (i := 9) (oi := { dst := some 71, op := Op.move (Operand.tmp 11), type := 4, pos := "law.go:106", after := #[{ on := 8, ground := Ground.guard }], guard := some (8, false) }) (v := .bool pb) rfl (by kernel_rfl) (by kernel_rfl) (by kernel_rfl) (fun _ _ _ h => h) (Or.inl ⟨by simp [Region.wanted, yielded, alike9_ops, tget z9 (by decide) t70], fun w1 hw => exec_move rfl t11⟩) hHeld ?_
  change wpAnyH _ _ _ _ _ _ _ (a9.put (some 71) (.bool pb)) _
  obtain ⟨a10, e10⟩ : ∃ act, act = a9.put (some 71) (.bool pb) := ⟨_, rfl⟩
  rw [← e10] at h ⊢
  have z10 : a10.tmps.size = 103 := by rw [e10, put_size]; exact z9
  replace t0 : a10.tmps.getD 0 undef = tv := by rw [e10, put_ne _ _ _ _ (by decide)]; exact t0
  replace t1 : a10.tmps.getD 1 undef = dv := by rw [e10, put_ne _ _ _ _ (by decide)]; exact t1
  replace t8 : a10.tmps.getD 8 undef = .pointer (some ⟨bi, 0, none⟩) := by rw [e10, put_ne _ _ _ _ (by decide)]; exact t8
  clear t11
  replace t14 : a10.tmps.getD 14 undef = .bool pb := by rw [e10, put_ne _ _ _ _ (by decide)]; exact t14
  replace t70 : a10.tmps.getD 70 undef = .bool false := by rw [e10, put_ne _ _ _ _ (by decide)]; exact t70
  have t71 : a10.tmps.getD 71 undef = .bool pb := by rw [e10]; exact put_same _ _ _ (by omega)
  clear e10 z9
  refine wpAnyH_take (i := 10) (oi := { dst := some 72, op := Op.move (Operand.tmp 14), type := 4, pos := "law.go:106", after := #[{ on := 8, ground := Ground.guard }], guard := some (8, false) }) (v := .bool pb) rfl (by kernel_rfl) (by kernel_rfl) (by kernel_rfl) (fun _ _ _ h => h) (Or.inl ⟨by simp [Region.wanted, yielded, alike9_ops, tget z10 (by decide) t70], fun w1 hw => exec_move rfl t14⟩) hHeld ?_
  change wpAnyH _ _ _ _ _ _ _ (a10.put (some 72) (.bool pb)) _
  obtain ⟨a11, e11⟩ : ∃ act, act = a10.put (some 72) (.bool pb) := ⟨_, rfl⟩
  rw [← e11] at h ⊢
  have z11 : a11.tmps.size = 103 := by rw [e11, put_size]; exact z10
  replace t0 : a11.tmps.getD 0 undef = tv := by rw [e11, put_ne _ _ _ _ (by decide)]; exact t0
  replace t1 : a11.tmps.getD 1 undef = dv := by rw [e11, put_ne _ _ _ _ (by decide)]; exact t1
  replace t8 : a11.tmps.getD 8 undef = .pointer (some ⟨bi, 0, none⟩) := by rw [e11, put_ne _ _ _ _ (by decide)]; exact t8
  clear t14
  replace t70 : a11.tmps.getD 70 undef = .bool false := by rw [e11, put_ne _ _ _ _ (by decide)]; exact t70
  replace t71 : a11.tmps.getD 71 undef = .bool pb := by rw [e11, put_ne _ _ _ _ (by decide)]; exact t71
  have t72 : a11.tmps.getD 72 undef = .bool pb := by rw [e11]; exact put_same _ _ _ (by omega)
  clear e11 z10
  refine wpAnyH_take (i := 11) (oi := { dst := some 73, op := Op.binOp BinOp.neq 4 (Operand.tmp 71) (Operand.tmp 72) 4, type := 4, pos := "law.go:106", after := #[{ on := 9, ground := Ground.data }, { on := 10, ground := Ground.data }, { on := 8, ground := Ground.guard }], guard := some (8, false) }) (v := .bool false) rfl (by kernel_rfl) (by kernel_rfl) (by kernel_rfl) (fun _ _ _ h => h) (Or.inl ⟨by simp [Region.wanted, yielded, alike9_ops, tget z11 (by decide) t70], fun w1 hw => exec_binOp rfl t71 t72 (G7 _) (G8 _ hw)⟩) hHeld ?_
  change wpAnyH _ _ _ _ _ _ _ (a11.put (some 73) (.bool false)) _
  obtain ⟨a12, e12⟩ : ∃ act, act = a11.put (some 73) (.bool false) := ⟨_, rfl⟩
  rw [← e12] at h ⊢
  have z12 : a12.tmps.size = 103 := by rw [e12, put_size]; exact z11
  replace t0 : a12.tmps.getD 0 undef = tv := by rw [e12, put_ne _ _ _ _ (by decide)]; exact t0
  replace t1 : a12.tmps.getD 1 undef = dv := by rw [e12, put_ne _ _ _ _ (by decide)]; exact t1
  replace t8 : a12.tmps.getD 8 undef = .pointer (some ⟨bi, 0, none⟩) := by rw [e12, put_ne _ _ _ _ (by decide)]; exact t8
  replace t70 : a12.tmps.getD 70 undef = .bool false := by rw [e12, put_ne _ _ _ _ (by decide)]; exact t70
  clear t71
  clear t72
  have t73 : a12.tmps.getD 73 undef = .bool false := by rw [e12]; exact put_same _ _ _ (by omega)
  clear e12 z11
  refine wpAnyH_take (i := 12) (oi := { dst := some 74, op := Op.pick (Operand.tmp 70) (Operand.const (Value.bool true)) (Operand.tmp 73), type := 4, pos := "law.go:106", after := #[{ on := 8, ground := Ground.data }, { on := 11, ground := Ground.data }], guard := none }) (v := .bool false) rfl (by kernel_rfl) (by kernel_rfl) (by kernel_rfl) (fun _ _ _ h => h) (Or.inl ⟨by rfl, fun w1 hw => by go_simp⟩) hHeld ?_
  change wpAnyH _ _ _ _ _ _ _ (a12.put (some 74) (.bool false)) _
  obtain ⟨a13, e13⟩ : ∃ act, act = a12.put (some 74) (.bool false) := ⟨_, rfl⟩
  rw [← e13] at h ⊢
  have z13 : a13.tmps.size = 103 := by rw [e13, put_size]; exact z12
  replace t0 : a13.tmps.getD 0 undef = tv := by rw [e13, put_ne _ _ _ _ (by decide)]; exact t0
  replace t1 : a13.tmps.getD 1 undef = dv := by rw [e13, put_ne _ _ _ _ (by decide)]; exact t1
  replace t8 : a13.tmps.getD 8 undef = .pointer (some ⟨bi, 0, none⟩) := by rw [e13, put_ne _ _ _ _ (by decide)]; exact t8
  clear t70
  clear t73
  have t74 : a13.tmps.getD 74 undef = .bool false := by rw [e13]; exact put_same _ _ _ (by omega)
  clear e13 z12
  refine wpAnyH_take (i := 13) (oi := { dst := some 75, op := Op.move (Operand.tmp 74), type := 4, pos := "law.go:106", after := #[{ on := 12, ground := Ground.data }, { on := 8, ground := Ground.chain }], guard := none }) (v := .bool false) rfl (by kernel_rfl) (by kernel_rfl) (by kernel_rfl) (fun _ _ _ h => h) (Or.inl ⟨by rfl, fun w1 hw => exec_move rfl t74⟩) hHeld ?_
  change wpAnyH _ _ _ _ _ _ _ (a13.put (some 75) (.bool false)) _
  obtain ⟨a14, e14⟩ : ∃ act, act = a13.put (some 75) (.bool false) := ⟨_, rfl⟩
  rw [← e14] at h ⊢
  have z14 : a14.tmps.size = 103 := by rw [e14, put_size]; exact z13
  replace t0 : a14.tmps.getD 0 undef = tv := by rw [e14, put_ne _ _ _ _ (by decide)]; exact t0
  replace t1 : a14.tmps.getD 1 undef = dv := by rw [e14, put_ne _ _ _ _ (by decide)]; exact t1
  replace t8 : a14.tmps.getD 8 undef = .pointer (some ⟨bi, 0, none⟩) := by rw [e14, put_ne _ _ _ _ (by decide)]; exact t8
  clear t74
  have t75 : a14.tmps.getD 75 undef = .bool false := by rw [e14]; exact put_same _ _ _ (by omega)
  clear e14 z13
  refine wpAnyH_take (i := 14) (oi := { dst := some 76, op := Op.move (Operand.tmp 0), type := 25, pos := "law.go:106", after := #[{ on := 13, ground := Ground.guard }], guard := some (13, false) }) (v := tv) rfl (by kernel_rfl) (by kernel_rfl) (by kernel_rfl) (fun _ _ _ h => h) (Or.inl ⟨by simp [Region.wanted, yielded, alike9_ops, tget z14 (by decide) t75], fun w1 hw => exec_move rfl t0⟩) hHeld ?_
  change wpAnyH _ _ _ _ _ _ _ (a14.put (some 76) (tv)) _
  obtain ⟨a15, e15⟩ : ∃ act, act = a14.put (some 76) (tv) := ⟨_, rfl⟩
  rw [← e15] at h ⊢
  have z15 : a15.tmps.size = 103 := by rw [e15, put_size]; exact z14
  replace t0 : a15.tmps.getD 0 undef = tv := by rw [e15, put_ne _ _ _ _ (by decide)]; exact t0
  replace t1 : a15.tmps.getD 1 undef = dv := by rw [e15, put_ne _ _ _ _ (by decide)]; exact t1
  replace t8 : a15.tmps.getD 8 undef = .pointer (some ⟨bi, 0, none⟩) := by rw [e15, put_ne _ _ _ _ (by decide)]; exact t8
  replace t75 : a15.tmps.getD 75 undef = .bool false := by rw [e15, put_ne _ _ _ _ (by decide)]; exact t75
  have t76 : a15.tmps.getD 76 undef = tv := by rw [e15]; exact put_same _ _ _ (by omega)
  clear e15 z14
  refine wpAnyH_take (i := 15) (oi := { dst := some 77, op := Op.load 37 (Operand.tmp 8), type := 37, pos := "law.go:106", after := #[{ on := 13, ground := Ground.guard }], guard := some (13, false) }) (v := kv) rfl (by kernel_rfl) (by kernel_rfl) (by kernel_rfl) (fun _ _ _ h => h) (Or.inl ⟨by simp [Region.wanted, yielded, alike9_ops, tget z15 (by decide) t75], fun w1 hw => exec_load rfl t8 (G9 _ hw)⟩) hHeld ?_
  change wpAnyH _ _ _ _ _ _ _ (a15.put (some 77) (kv)) _
  obtain ⟨a16, e16⟩ : ∃ act, act = a15.put (some 77) (kv) := ⟨_, rfl⟩
  rw [← e16] at h ⊢
  have z16 : a16.tmps.size = 103 := by rw [e16, put_size]; exact z15
  replace t0 : a16.tmps.getD 0 undef = tv := by rw [e16, put_ne _ _ _ _ (by decide)]; exact t0
  replace t1 : a16.tmps.getD 1 undef = dv := by rw [e16, put_ne _ _ _ _ (by decide)]; exact t1
  replace t8 : a16.tmps.getD 8 undef = .pointer (some ⟨bi, 0, none⟩) := by rw [e16, put_ne _ _ _ _ (by decide)]; exact t8
  replace t75 : a16.tmps.getD 75 undef = .bool false := by rw [e16, put_ne _ _ _ _ (by decide)]; exact t75
  replace t76 : a16.tmps.getD 76 undef = tv := by rw [e16, put_ne _ _ _ _ (by decide)]; exact t76
  have t77 : a16.tmps.getD 77 undef = kv := by rw [e16]; exact put_same _ _ _ (by omega)
  clear e16 z15
  refine wpAnyH_take (i := 17) (oi := { dst := some 79, op := Op.move (Operand.tmp 1), type := 27, pos := "law.go:106", after := #[{ on := 13, ground := Ground.guard }], guard := some (13, false) }) (v := dv) rfl (by kernel_rfl) (by kernel_rfl) (by kernel_rfl) (fun _ _ _ h => h) (Or.inl ⟨by simp [Region.wanted, yielded, alike9_ops, tget z16 (by decide) t75], fun w1 hw => exec_move rfl t1⟩) hHeld ?_
  change wpAnyH _ _ _ _ _ _ _ (a16.put (some 79) (dv)) _
  obtain ⟨a17, e17⟩ : ∃ act, act = a16.put (some 79) (dv) := ⟨_, rfl⟩
  rw [← e17] at h ⊢
  have z17 : a17.tmps.size = 103 := by rw [e17, put_size]; exact z16
  replace t0 : a17.tmps.getD 0 undef = tv := by rw [e17, put_ne _ _ _ _ (by decide)]; exact t0
  replace t1 : a17.tmps.getD 1 undef = dv := by rw [e17, put_ne _ _ _ _ (by decide)]; exact t1
  replace t8 : a17.tmps.getD 8 undef = .pointer (some ⟨bi, 0, none⟩) := by rw [e17, put_ne _ _ _ _ (by decide)]; exact t8
  replace t75 : a17.tmps.getD 75 undef = .bool false := by rw [e17, put_ne _ _ _ _ (by decide)]; exact t75
  replace t76 : a17.tmps.getD 76 undef = tv := by rw [e17, put_ne _ _ _ _ (by decide)]; exact t76
  replace t77 : a17.tmps.getD 77 undef = kv := by rw [e17, put_ne _ _ _ _ (by decide)]; exact t77
  have t79 : a17.tmps.getD 79 undef = dv := by rw [e17]; exact put_same _ _ _ (by omega)
  clear e17 z16
  refine wpAnyH_take (i := 18) (oi := { dst := some 80, op := Op.load 37 (Operand.tmp 8), type := 37, pos := "law.go:106", after := #[{ on := 13, ground := Ground.guard }], guard := some (13, false) }) (v := kv) rfl (by kernel_rfl) (by kernel_rfl) (by kernel_rfl) (fun _ _ _ h => h) (Or.inl ⟨by simp [Region.wanted, yielded, alike9_ops, tget z17 (by decide) t75], fun w1 hw => exec_load rfl t8 (G9 _ hw)⟩) hHeld ?_
  change wpAnyH _ _ _ _ _ _ _ (a17.put (some 80) (kv)) _
  obtain ⟨a18, e18⟩ : ∃ act, act = a17.put (some 80) (kv) := ⟨_, rfl⟩
  rw [← e18] at h ⊢
  have z18 : a18.tmps.size = 103 := by rw [e18, put_size]; exact z17
  replace t0 : a18.tmps.getD 0 undef = tv := by rw [e18, put_ne _ _ _ _ (by decide)]; exact t0
  replace t1 : a18.tmps.getD 1 undef = dv := by rw [e18, put_ne _ _ _ _ (by decide)]; exact t1
  replace t8 : a18.tmps.getD 8 undef = .pointer (some ⟨bi, 0, none⟩) := by rw [e18, put_ne _ _ _ _ (by decide)]; exact t8
  replace t75 : a18.tmps.getD 75 undef = .bool false := by rw [e18, put_ne _ _ _ _ (by decide)]; exact t75
  replace t76 : a18.tmps.getD 76 undef = tv := by rw [e18, put_ne _ _ _ _ (by decide)]; exact t76
  replace t77 : a18.tmps.getD 77 undef = kv := by rw [e18, put_ne _ _ _ _ (by decide)]; exact t77
  replace t79 : a18.tmps.getD 79 undef = dv := by rw [e18, put_ne _ _ _ _ (by decide)]; exact t79
  have t80 : a18.tmps.getD 80 undef = kv := by rw [e18]; exact put_same _ _ _ (by omega)
  clear e18 z17
  refine wpAnyH_ready (rs := [16]) (by kernel_rfl) (by simp) ?_
  refine AllReadyH.cons (o := { dst := some 78, op := Op.call { callee := Callee.value (Operand.func 39), args := #[Operand.tmp 76, Operand.tmp 77], argTypes := #[25, 37] }, type := 4, pos := "law.go:106", after := #[{ on := 14, ground := Ground.data }, { on := 15, ground := Ground.data }, { on := 13, ground := Ground.chain }, { on := 13, ground := Ground.guard }], guard := some (13, false) }) rfl (fun K hK => ?_) AllReadyH.nil
  rw [if_pos (by simp [Region.wanted, yielded, alike9_ops, tget z18 (by decide) t75])]
  go_simp
  refine (CLT _ hHeld).mono ?_
  rintro e x19 ⟨rfl, l1⟩
  try go_wp2_with fail
  skip
  refine hK.out _ _ (hHeld.trans (l1.mono (hN _ hHeld))) (fun hHeld => ?_)
  clear hK K
  change wpAnyH _ _ _ _ _ _ _ (a18.put (some 78) (.bool lb)) _
  obtain ⟨a19, e19⟩ : ∃ act, act = a18.put (some 78) (.bool lb) := ⟨_, rfl⟩
  rw [← e19] at h ⊢
  have z19 : a19.tmps.size = 103 := by rw [e19, put_size]; exact z18
  replace t0 : a19.tmps.getD 0 undef = tv := by rw [e19, put_ne _ _ _ _ (by decide)]; exact t0
  replace t1 : a19.tmps.getD 1 undef = dv := by rw [e19, put_ne _ _ _ _ (by decide)]; exact t1
  replace t8 : a19.tmps.getD 8 undef = .pointer (some ⟨bi, 0, none⟩) := by rw [e19, put_ne _ _ _ _ (by decide)]; exact t8
  replace t75 : a19.tmps.getD 75 undef = .bool false := by rw [e19, put_ne _ _ _ _ (by decide)]; exact t75
  clear t76
  clear t77
  replace t79 : a19.tmps.getD 79 undef = dv := by rw [e19, put_ne _ _ _ _ (by decide)]; exact t79
  replace t80 : a19.tmps.getD 80 undef = kv := by rw [e19, put_ne _ _ _ _ (by decide)]; exact t80
  have t78 : a19.tmps.getD 78 undef = .bool lb := by rw [e19]; exact put_same _ _ _ (by omega)
  clear e19 z18
  refine wpAnyH_ready (rs := [19]) (by kernel_rfl) (by simp) ?_
  refine AllReadyH.cons (o := { dst := some 81, op := Op.call { callee := Callee.value (Operand.func 40), args := #[Operand.tmp 79, Operand.tmp 80], argTypes := #[27, 37] }, type := 4, pos := "law.go:106", after := #[{ on := 17, ground := Ground.data }, { on := 18, ground := Ground.data }, { on := 16, ground := Ground.chain }, { on := 13, ground := Ground.guard }], guard := some (13, false) }) rfl (fun K hK => ?_) AllReadyH.nil
  rw [if_pos (by simp [Region.wanted, yielded, alike9_ops, tget z19 (by decide) t75])]
  go_simp
  refine (CLD _ hHeld).mono ?_
  rintro e x20 ⟨rfl, l1⟩
  try go_wp2_with fail
  skip
  refine hK.out _ _ (hHeld.trans (l1.mono (hN _ hHeld))) (fun hHeld => ?_)
  clear hK K
  change wpAnyH _ _ _ _ _ _ _ (a19.put (some 81) (.bool lb)) _
  obtain ⟨a20, e20⟩ : ∃ act, act = a19.put (some 81) (.bool lb) := ⟨_, rfl⟩
  rw [← e20] at h ⊢
  have z20 : a20.tmps.size = 103 := by rw [e20, put_size]; exact z19
  replace t0 : a20.tmps.getD 0 undef = tv := by rw [e20, put_ne _ _ _ _ (by decide)]; exact t0
  replace t1 : a20.tmps.getD 1 undef = dv := by rw [e20, put_ne _ _ _ _ (by decide)]; exact t1
  replace t8 : a20.tmps.getD 8 undef = .pointer (some ⟨bi, 0, none⟩) := by rw [e20, put_ne _ _ _ _ (by decide)]; exact t8
  replace t75 : a20.tmps.getD 75 undef = .bool false := by rw [e20, put_ne _ _ _ _ (by decide)]; exact t75
  clear t79
  clear t80
  replace t78 : a20.tmps.getD 78 undef = .bool lb := by rw [e20, put_ne _ _ _ _ (by decide)]; exact t78
  have t81 : a20.tmps.getD 81 undef = .bool lb := by rw [e20]; exact put_same _ _ _ (by omega)
  clear e20 z19
  refine wpAnyH_take (i := 20) (oi := { dst := some 82, op := Op.binOp BinOp.neq 4 (Operand.tmp 78) (Operand.tmp 81) 4, type := 4, pos := "law.go:106", after := #[{ on := 16, ground := Ground.data }, { on := 19, ground := Ground.data }, { on := 13, ground := Ground.guard }], guard := some (13, false) }) (v := .bool false) rfl (by kernel_rfl) (by kernel_rfl) (by kernel_rfl) (fun _ _ _ h => h) (Or.inl ⟨by simp [Region.wanted, yielded, alike9_ops, tget z20 (by decide) t75], fun w1 hw => exec_binOp rfl t78 t81 (G10 _) (G11 _ hw)⟩) hHeld ?_
  change wpAnyH _ _ _ _ _ _ _ (a20.put (some 82) (.bool false)) _
  obtain ⟨a21, e21⟩ : ∃ act, act = a20.put (some 82) (.bool false) := ⟨_, rfl⟩
  rw [← e21] at h ⊢
  have z21 : a21.tmps.size = 103 := by rw [e21, put_size]; exact z20
  replace t0 : a21.tmps.getD 0 undef = tv := by rw [e21, put_ne _ _ _ _ (by decide)]; exact t0
  replace t1 : a21.tmps.getD 1 undef = dv := by rw [e21, put_ne _ _ _ _ (by decide)]; exact t1
  replace t8 : a21.tmps.getD 8 undef = .pointer (some ⟨bi, 0, none⟩) := by rw [e21, put_ne _ _ _ _ (by decide)]; exact t8
  replace t75 : a21.tmps.getD 75 undef = .bool false := by rw [e21, put_ne _ _ _ _ (by decide)]; exact t75
  clear t78
  clear t81
  have t82 : a21.tmps.getD 82 undef = .bool false := by rw [e21]; exact put_same _ _ _ (by omega)
  clear e21 z20
  refine wpAnyH_take (i := 21) (oi := { dst := some 83, op := Op.pick (Operand.tmp 75) (Operand.const (Value.bool true)) (Operand.tmp 82), type := 4, pos := "law.go:106", after := #[{ on := 13, ground := Ground.data }, { on := 20, ground := Ground.data }], guard := none }) (v := .bool false) rfl (by kernel_rfl) (by kernel_rfl) (by kernel_rfl) (fun _ _ _ h => h) (Or.inl ⟨by rfl, fun w1 hw => by go_simp⟩) hHeld ?_
  change wpAnyH _ _ _ _ _ _ _ (a21.put (some 83) (.bool false)) _
  obtain ⟨a22, e22⟩ : ∃ act, act = a21.put (some 83) (.bool false) := ⟨_, rfl⟩
  rw [← e22] at h ⊢
  have z22 : a22.tmps.size = 103 := by rw [e22, put_size]; exact z21
  replace t0 : a22.tmps.getD 0 undef = tv := by rw [e22, put_ne _ _ _ _ (by decide)]; exact t0
  replace t1 : a22.tmps.getD 1 undef = dv := by rw [e22, put_ne _ _ _ _ (by decide)]; exact t1
  replace t8 : a22.tmps.getD 8 undef = .pointer (some ⟨bi, 0, none⟩) := by rw [e22, put_ne _ _ _ _ (by decide)]; exact t8
  clear t75
  clear t82
  have t83 : a22.tmps.getD 83 undef = .bool false := by rw [e22]; exact put_same _ _ _ (by omega)
  clear e22 z21
  refine wpAnyH_take (i := 22) (oi := { dst := some 84, op := Op.move (Operand.tmp 83), type := 4, pos := "law.go:106", after := #[{ on := 21, ground := Ground.data }, { on := 19, ground := Ground.chain }], guard := none }) (v := .bool false) rfl (by kernel_rfl) (by kernel_rfl) (by kernel_rfl) (fun _ _ _ h => h) (Or.inl ⟨by rfl, fun w1 hw => exec_move rfl t83⟩) hHeld ?_
  change wpAnyH _ _ _ _ _ _ _ (a22.put (some 84) (.bool false)) _
  obtain ⟨a23, e23⟩ : ∃ act, act = a22.put (some 84) (.bool false) := ⟨_, rfl⟩
  rw [← e23] at h ⊢
  have z23 : a23.tmps.size = 103 := by rw [e23, put_size]; exact z22
  replace t0 : a23.tmps.getD 0 undef = tv := by rw [e23, put_ne _ _ _ _ (by decide)]; exact t0
  replace t1 : a23.tmps.getD 1 undef = dv := by rw [e23, put_ne _ _ _ _ (by decide)]; exact t1
  replace t8 : a23.tmps.getD 8 undef = .pointer (some ⟨bi, 0, none⟩) := by rw [e23, put_ne _ _ _ _ (by decide)]; exact t8
  clear t83
  have t84 : a23.tmps.getD 84 undef = .bool false := by rw [e23]; exact put_same _ _ _ (by omega)
  clear e23 z22
  refine wpAnyH_take (i := 23) (oi := { dst := some 85, op := Op.move (Operand.tmp 0), type := 25, pos := "law.go:106", after := #[{ on := 22, ground := Ground.guard }], guard := some (22, false) }) (v := tv) rfl (by kernel_rfl) (by kernel_rfl) (by kernel_rfl) (fun _ _ _ h => h) (Or.inl ⟨by simp [Region.wanted, yielded, alike9_ops, tget z23 (by decide) t84], fun w1 hw => exec_move rfl t0⟩) hHeld ?_
  change wpAnyH _ _ _ _ _ _ _ (a23.put (some 85) (tv)) _
  obtain ⟨a24, e24⟩ : ∃ act, act = a23.put (some 85) (tv) := ⟨_, rfl⟩
  rw [← e24] at h ⊢
  have z24 : a24.tmps.size = 103 := by rw [e24, put_size]; exact z23
  replace t0 : a24.tmps.getD 0 undef = tv := by rw [e24, put_ne _ _ _ _ (by decide)]; exact t0
  replace t1 : a24.tmps.getD 1 undef = dv := by rw [e24, put_ne _ _ _ _ (by decide)]; exact t1
  replace t8 : a24.tmps.getD 8 undef = .pointer (some ⟨bi, 0, none⟩) := by rw [e24, put_ne _ _ _ _ (by decide)]; exact t8
  replace t84 : a24.tmps.getD 84 undef = .bool false := by rw [e24, put_ne _ _ _ _ (by decide)]; exact t84
  have t85 : a24.tmps.getD 85 undef = tv := by rw [e24]; exact put_same _ _ _ (by omega)
  clear e24 z23
  refine wpAnyH_take (i := 24) (oi := { dst := some 86, op := Op.load 37 (Operand.tmp 8), type := 37, pos := "law.go:106", after := #[{ on := 22, ground := Ground.guard }], guard := some (22, false) }) (v := kv) rfl (by kernel_rfl) (by kernel_rfl) (by kernel_rfl) (fun _ _ _ h => h) (Or.inl ⟨by simp [Region.wanted, yielded, alike9_ops, tget z24 (by decide) t84], fun w1 hw => exec_load rfl t8 (G9 _ hw)⟩) hHeld ?_
  change wpAnyH _ _ _ _ _ _ _ (a24.put (some 86) (kv)) _
  obtain ⟨a25, e25⟩ : ∃ act, act = a24.put (some 86) (kv) := ⟨_, rfl⟩
  rw [← e25] at h ⊢
  have z25 : a25.tmps.size = 103 := by rw [e25, put_size]; exact z24
  replace t0 : a25.tmps.getD 0 undef = tv := by rw [e25, put_ne _ _ _ _ (by decide)]; exact t0
  replace t1 : a25.tmps.getD 1 undef = dv := by rw [e25, put_ne _ _ _ _ (by decide)]; exact t1
  replace t8 : a25.tmps.getD 8 undef = .pointer (some ⟨bi, 0, none⟩) := by rw [e25, put_ne _ _ _ _ (by decide)]; exact t8
  replace t84 : a25.tmps.getD 84 undef = .bool false := by rw [e25, put_ne _ _ _ _ (by decide)]; exact t84
  replace t85 : a25.tmps.getD 85 undef = tv := by rw [e25, put_ne _ _ _ _ (by decide)]; exact t85
  have t86 : a25.tmps.getD 86 undef = kv := by rw [e25]; exact put_same _ _ _ (by omega)
  clear e25 z24
  refine wpAnyH_take (i := 26) (oi := { dst := some 88, op := Op.move (Operand.tmp 1), type := 27, pos := "law.go:106", after := #[{ on := 22, ground := Ground.guard }], guard := some (22, false) }) (v := dv) rfl (by kernel_rfl) (by kernel_rfl) (by kernel_rfl) (fun _ _ _ h => h) (Or.inl ⟨by simp [Region.wanted, yielded, alike9_ops, tget z25 (by decide) t84], fun w1 hw => exec_move rfl t1⟩) hHeld ?_
  change wpAnyH _ _ _ _ _ _ _ (a25.put (some 88) (dv)) _
  obtain ⟨a26, e26⟩ : ∃ act, act = a25.put (some 88) (dv) := ⟨_, rfl⟩
  rw [← e26] at h ⊢
  have z26 : a26.tmps.size = 103 := by rw [e26, put_size]; exact z25
  replace t0 : a26.tmps.getD 0 undef = tv := by rw [e26, put_ne _ _ _ _ (by decide)]; exact t0
  replace t1 : a26.tmps.getD 1 undef = dv := by rw [e26, put_ne _ _ _ _ (by decide)]; exact t1
  replace t8 : a26.tmps.getD 8 undef = .pointer (some ⟨bi, 0, none⟩) := by rw [e26, put_ne _ _ _ _ (by decide)]; exact t8
  replace t84 : a26.tmps.getD 84 undef = .bool false := by rw [e26, put_ne _ _ _ _ (by decide)]; exact t84
  replace t85 : a26.tmps.getD 85 undef = tv := by rw [e26, put_ne _ _ _ _ (by decide)]; exact t85
  replace t86 : a26.tmps.getD 86 undef = kv := by rw [e26, put_ne _ _ _ _ (by decide)]; exact t86
  have t88 : a26.tmps.getD 88 undef = dv := by rw [e26]; exact put_same _ _ _ (by omega)
  clear e26 z25
  refine wpAnyH_take (i := 27) (oi := { dst := some 89, op := Op.load 37 (Operand.tmp 8), type := 37, pos := "law.go:106", after := #[{ on := 22, ground := Ground.guard }], guard := some (22, false) }) (v := kv) rfl (by kernel_rfl) (by kernel_rfl) (by kernel_rfl) (fun _ _ _ h => h) (Or.inl ⟨by simp [Region.wanted, yielded, alike9_ops, tget z26 (by decide) t84], fun w1 hw => exec_load rfl t8 (G9 _ hw)⟩) hHeld ?_
  change wpAnyH _ _ _ _ _ _ _ (a26.put (some 89) (kv)) _
  obtain ⟨a27, e27⟩ : ∃ act, act = a26.put (some 89) (kv) := ⟨_, rfl⟩
  rw [← e27] at h ⊢
  have z27 : a27.tmps.size = 103 := by rw [e27, put_size]; exact z26
  replace t0 : a27.tmps.getD 0 undef = tv := by rw [e27, put_ne _ _ _ _ (by decide)]; exact t0
  replace t1 : a27.tmps.getD 1 undef = dv := by rw [e27, put_ne _ _ _ _ (by decide)]; exact t1
  replace t8 : a27.tmps.getD 8 undef = .pointer (some ⟨bi, 0, none⟩) := by rw [e27, put_ne _ _ _ _ (by decide)]; exact t8
  replace t84 : a27.tmps.getD 84 undef = .bool false := by rw [e27, put_ne _ _ _ _ (by decide)]; exact t84
  replace t85 : a27.tmps.getD 85 undef = tv := by rw [e27, put_ne _ _ _ _ (by decide)]; exact t85
  replace t86 : a27.tmps.getD 86 undef = kv := by rw [e27, put_ne _ _ _ _ (by decide)]; exact t86
  replace t88 : a27.tmps.getD 88 undef = dv := by rw [e27, put_ne _ _ _ _ (by decide)]; exact t88
  have t89 : a27.tmps.getD 89 undef = kv := by rw [e27]; exact put_same _ _ _ (by omega)
  clear e27 z26
  refine wpAnyH_ready (rs := [25]) (by kernel_rfl) (by simp) ?_
  refine AllReadyH.cons (o := { dst := some 87, op := Op.call { callee := Callee.value (Operand.func 29), args := #[Operand.tmp 85, Operand.tmp 86], argTypes := #[25, 37] }, type := 3, pos := "law.go:106", after := #[{ on := 23, ground := Ground.data }, { on := 24, ground := Ground.data }, { on := 22, ground := Ground.chain }, { on := 22, ground := Ground.guard }], guard := some (22, false) }) rfl (fun K hK => ?_) AllReadyH.nil
  rw [if_pos (by simp [Region.wanted, yielded, alike9_ops, tget z27 (by decide) t84])]
  go_simp
  refine (CDT _ hHeld).mono ?_
  rintro e x28 ⟨rfl, l1⟩
  try go_wp2_with fail
  skip
  refine hK.out _ _ (hHeld.trans (l1.mono (hN _ hHeld))) (fun hHeld => ?_)
  clear hK K
  change wpAnyH _ _ _ _ _ _ _ (a27.put (some 87) (.int .i64 dd)) _
  obtain ⟨a28, e28⟩ : ∃ act, act = a27.put (some 87) (.int .i64 dd) := ⟨_, rfl⟩
  rw [← e28] at h ⊢
  have z28 : a28.tmps.size = 103 := by rw [e28, put_size]; exact z27
  replace t0 : a28.tmps.getD 0 undef = tv := by rw [e28, put_ne _ _ _ _ (by decide)]; exact t0
  replace t1 : a28.tmps.getD 1 undef = dv := by rw [e28, put_ne _ _ _ _ (by decide)]; exact t1
  replace t8 : a28.tmps.getD 8 undef = .pointer (some ⟨bi, 0, none⟩) := by rw [e28, put_ne _ _ _ _ (by decide)]; exact t8
  replace t84 : a28.tmps.getD 84 undef = .bool false := by rw [e28, put_ne _ _ _ _ (by decide)]; exact t84
  clear t85
  clear t86
  replace t88 : a28.tmps.getD 88 undef = dv := by rw [e28, put_ne _ _ _ _ (by decide)]; exact t88
  replace t89 : a28.tmps.getD 89 undef = kv := by rw [e28, put_ne _ _ _ _ (by decide)]; exact t89
  have t87 : a28.tmps.getD 87 undef = .int .i64 dd := by rw [e28]; exact put_same _ _ _ (by omega)
  clear e28 z27
  refine wpAnyH_ready (rs := [28]) (by kernel_rfl) (by simp) ?_
  refine AllReadyH.cons (o := { dst := some 90, op := Op.call { callee := Callee.value (Operand.func 41), args := #[Operand.tmp 88, Operand.tmp 89], argTypes := #[27, 37] }, type := 3, pos := "law.go:106", after := #[{ on := 26, ground := Ground.data }, { on := 27, ground := Ground.data }, { on := 25, ground := Ground.chain }, { on := 22, ground := Ground.guard }], guard := some (22, false) }) rfl (fun K hK => ?_) AllReadyH.nil
  rw [if_pos (by simp [Region.wanted, yielded, alike9_ops, tget z28 (by decide) t84])]
  go_simp
  refine (CDD _ hHeld).mono ?_
  rintro e x29 ⟨rfl, l1⟩
  try go_wp2_with fail
  skip
  refine hK.out _ _ (hHeld.trans (l1.mono (hN _ hHeld))) (fun hHeld => ?_)
  clear hK K
  change wpAnyH _ _ _ _ _ _ _ (a28.put (some 90) (.int .i64 dd)) _
  obtain ⟨a29, e29⟩ : ∃ act, act = a28.put (some 90) (.int .i64 dd) := ⟨_, rfl⟩
  rw [← e29] at h ⊢
  have z29 : a29.tmps.size = 103 := by rw [e29, put_size]; exact z28
  replace t0 : a29.tmps.getD 0 undef = tv := by rw [e29, put_ne _ _ _ _ (by decide)]; exact t0
  replace t1 : a29.tmps.getD 1 undef = dv := by rw [e29, put_ne _ _ _ _ (by decide)]; exact t1
  replace t8 : a29.tmps.getD 8 undef = .pointer (some ⟨bi, 0, none⟩) := by rw [e29, put_ne _ _ _ _ (by decide)]; exact t8
  replace t84 : a29.tmps.getD 84 undef = .bool false := by rw [e29, put_ne _ _ _ _ (by decide)]; exact t84
  clear t88
  clear t89
  replace t87 : a29.tmps.getD 87 undef = .int .i64 dd := by rw [e29, put_ne _ _ _ _ (by decide)]; exact t87
  have t90 : a29.tmps.getD 90 undef = .int .i64 dd := by rw [e29]; exact put_same _ _ _ (by omega)
  clear e29 z28
  refine wpAnyH_take (i := 29) (oi := { dst := some 91, op := Op.binOp BinOp.neq 3 (Operand.tmp 87) (Operand.tmp 90) 3, type := 4, pos := "law.go:106", after := #[{ on := 25, ground := Ground.data }, { on := 28, ground := Ground.data }, { on := 22, ground := Ground.guard }], guard := some (22, false) }) (v := .bool false) rfl (by kernel_rfl) (by kernel_rfl) (by kernel_rfl) (fun _ _ _ h => h) (Or.inl ⟨by simp [Region.wanted, yielded, alike9_ops, tget z29 (by decide) t84], fun w1 hw => exec_binOp rfl t87 t90 (G12 _) (G13 _ hw)⟩) hHeld ?_
  change wpAnyH _ _ _ _ _ _ _ (a29.put (some 91) (.bool false)) _
  obtain ⟨a30, e30⟩ : ∃ act, act = a29.put (some 91) (.bool false) := ⟨_, rfl⟩
  rw [← e30] at h ⊢
  have z30 : a30.tmps.size = 103 := by rw [e30, put_size]; exact z29
  replace t0 : a30.tmps.getD 0 undef = tv := by rw [e30, put_ne _ _ _ _ (by decide)]; exact t0
  replace t1 : a30.tmps.getD 1 undef = dv := by rw [e30, put_ne _ _ _ _ (by decide)]; exact t1
  replace t8 : a30.tmps.getD 8 undef = .pointer (some ⟨bi, 0, none⟩) := by rw [e30, put_ne _ _ _ _ (by decide)]; exact t8
  replace t84 : a30.tmps.getD 84 undef = .bool false := by rw [e30, put_ne _ _ _ _ (by decide)]; exact t84
  clear t87
  clear t90
  have t91 : a30.tmps.getD 91 undef = .bool false := by rw [e30]; exact put_same _ _ _ (by omega)
  clear e30 z29
  refine wpAnyH_take (i := 30) (oi := { dst := some 92, op := Op.pick (Operand.tmp 84) (Operand.const (Value.bool true)) (Operand.tmp 91), type := 4, pos := "law.go:106", after := #[{ on := 22, ground := Ground.data }, { on := 29, ground := Ground.data }], guard := none }) (v := .bool false) rfl (by kernel_rfl) (by kernel_rfl) (by kernel_rfl) (fun _ _ _ h => h) (Or.inl ⟨by rfl, fun w1 hw => by go_simp⟩) hHeld ?_
  change wpAnyH _ _ _ _ _ _ _ (a30.put (some 92) (.bool false)) _
  obtain ⟨a31, e31⟩ : ∃ act, act = a30.put (some 92) (.bool false) := ⟨_, rfl⟩
  rw [← e31] at h ⊢
  have z31 : a31.tmps.size = 103 := by rw [e31, put_size]; exact z30
  replace t0 : a31.tmps.getD 0 undef = tv := by rw [e31, put_ne _ _ _ _ (by decide)]; exact t0
  replace t1 : a31.tmps.getD 1 undef = dv := by rw [e31, put_ne _ _ _ _ (by decide)]; exact t1
  replace t8 : a31.tmps.getD 8 undef = .pointer (some ⟨bi, 0, none⟩) := by rw [e31, put_ne _ _ _ _ (by decide)]; exact t8
  clear t84
  clear t91
  have t92 : a31.tmps.getD 92 undef = .bool false := by rw [e31]; exact put_same _ _ _ (by omega)
  clear e31 z30
  refine wpAnyH_take (i := 31) (oi := { dst := some 93, op := Op.move (Operand.tmp 92), type := 4, pos := "law.go:106", after := #[{ on := 30, ground := Ground.data }, { on := 28, ground := Ground.chain }], guard := none }) (v := .bool false) rfl (by kernel_rfl) (by kernel_rfl) (by kernel_rfl) (fun _ _ _ h => h) (Or.inl ⟨by rfl, fun w1 hw => exec_move rfl t92⟩) hHeld ?_
  change wpAnyH _ _ _ _ _ _ _ (a31.put (some 93) (.bool false)) _
  obtain ⟨a32, e32⟩ : ∃ act, act = a31.put (some 93) (.bool false) := ⟨_, rfl⟩
  rw [← e32] at h ⊢
  have z32 : a32.tmps.size = 103 := by rw [e32, put_size]; exact z31
  replace t0 : a32.tmps.getD 0 undef = tv := by rw [e32, put_ne _ _ _ _ (by decide)]; exact t0
  replace t1 : a32.tmps.getD 1 undef = dv := by rw [e32, put_ne _ _ _ _ (by decide)]; exact t1
  replace t8 : a32.tmps.getD 8 undef = .pointer (some ⟨bi, 0, none⟩) := by rw [e32, put_ne _ _ _ _ (by decide)]; exact t8
  clear t92
  have t93 : a32.tmps.getD 93 undef = .bool false := by rw [e32]; exact put_same _ _ _ (by omega)
  clear e32 z31
  refine wpAnyH_take (i := 32) (oi := { dst := some 94, op := Op.move (Operand.tmp 0), type := 25, pos := "law.go:106", after := #[{ on := 31, ground := Ground.guard }], guard := some (31, false) }) (v := tv) rfl (by kernel_rfl) (by kernel_rfl) (by kernel_rfl) (fun _ _ _ h => h) (Or.inl ⟨by simp [Region.wanted, yielded, alike9_ops, tget z32 (by decide) t93], fun w1 hw => exec_move rfl t0⟩) hHeld ?_
  change wpAnyH _ _ _ _ _ _ _ (a32.put (some 94) (tv)) _
  obtain ⟨a33, e33⟩ : ∃ act, act = a32.put (some 94) (tv) := ⟨_, rfl⟩
  rw [← e33] at h ⊢
  have z33 : a33.tmps.size = 103 := by rw [e33, put_size]; exact z32
  clear t0
  replace t1 : a33.tmps.getD 1 undef = dv := by rw [e33, put_ne _ _ _ _ (by decide)]; exact t1
  replace t8 : a33.tmps.getD 8 undef = .pointer (some ⟨bi, 0, none⟩) := by rw [e33, put_ne _ _ _ _ (by decide)]; exact t8
  replace t93 : a33.tmps.getD 93 undef = .bool false := by rw [e33, put_ne _ _ _ _ (by decide)]; exact t93
  have t94 : a33.tmps.getD 94 undef = tv := by rw [e33]; exact put_same _ _ _ (by omega)
  clear e33 z32
  refine wpAnyH_take (i := 33) (oi := { dst := some 95, op := Op.load 37 (Operand.tmp 8), type := 37, pos := "law.go:106", after := #[{ on := 31, ground := Ground.guard }], guard := some (31, false) }) (v := kv) rfl (by kernel_rfl) (by kernel_rfl) (by kernel_rfl) (fun _ _ _ h => h) (Or.inl ⟨by simp [Region.wanted, yielded, alike9_ops, tget z33 (by decide) t93], fun w1 hw => exec_load rfl t8 (G9 _ hw)⟩) hHeld ?_
  change wpAnyH _ _ _ _ _ _ _ (a33.put (some 95) (kv)) _
  obtain ⟨a34, e34⟩ : ∃ act, act = a33.put (some 95) (kv) := ⟨_, rfl⟩
  rw [← e34] at h ⊢
  have z34 : a34.tmps.size = 103 := by rw [e34, put_size]; exact z33
  replace t1 : a34.tmps.getD 1 undef = dv := by rw [e34, put_ne _ _ _ _ (by decide)]; exact t1
  replace t8 : a34.tmps.getD 8 undef = .pointer (some ⟨bi, 0, none⟩) := by rw [e34, put_ne _ _ _ _ (by decide)]; exact t8
  replace t93 : a34.tmps.getD 93 undef = .bool false := by rw [e34, put_ne _ _ _ _ (by decide)]; exact t93
  replace t94 : a34.tmps.getD 94 undef = tv := by rw [e34, put_ne _ _ _ _ (by decide)]; exact t94
  have t95 : a34.tmps.getD 95 undef = kv := by rw [e34]; exact put_same _ _ _ (by omega)
  clear e34 z33
  refine wpAnyH_take (i := 35) (oi := { dst := some 97, op := Op.move (Operand.tmp 1), type := 27, pos := "law.go:106", after := #[{ on := 31, ground := Ground.guard }], guard := some (31, false) }) (v := dv) rfl (by kernel_rfl) (by kernel_rfl) (by kernel_rfl) (fun _ _ _ h => h) (Or.inl ⟨by simp [Region.wanted, yielded, alike9_ops, tget z34 (by decide) t93], fun w1 hw => exec_move rfl t1⟩) hHeld ?_
  change wpAnyH _ _ _ _ _ _ _ (a34.put (some 97) (dv)) _
  obtain ⟨a35, e35⟩ : ∃ act, act = a34.put (some 97) (dv) := ⟨_, rfl⟩
  rw [← e35] at h ⊢
  have z35 : a35.tmps.size = 103 := by rw [e35, put_size]; exact z34
  clear t1
  replace t8 : a35.tmps.getD 8 undef = .pointer (some ⟨bi, 0, none⟩) := by rw [e35, put_ne _ _ _ _ (by decide)]; exact t8
  replace t93 : a35.tmps.getD 93 undef = .bool false := by rw [e35, put_ne _ _ _ _ (by decide)]; exact t93
  replace t94 : a35.tmps.getD 94 undef = tv := by rw [e35, put_ne _ _ _ _ (by decide)]; exact t94
  replace t95 : a35.tmps.getD 95 undef = kv := by rw [e35, put_ne _ _ _ _ (by decide)]; exact t95
  have t97 : a35.tmps.getD 97 undef = dv := by rw [e35]; exact put_same _ _ _ (by omega)
  clear e35 z34
  refine wpAnyH_take (i := 36) (oi := { dst := some 98, op := Op.load 37 (Operand.tmp 8), type := 37, pos := "law.go:106", after := #[{ on := 31, ground := Ground.guard }], guard := some (31, false) }) (v := kv) rfl (by kernel_rfl) (by kernel_rfl) (by kernel_rfl) (fun _ _ _ h => h) (Or.inl ⟨by simp [Region.wanted, yielded, alike9_ops, tget z35 (by decide) t93], fun w1 hw => exec_load rfl t8 (G9 _ hw)⟩) hHeld ?_
  change wpAnyH _ _ _ _ _ _ _ (a35.put (some 98) (kv)) _
  obtain ⟨a36, e36⟩ : ∃ act, act = a35.put (some 98) (kv) := ⟨_, rfl⟩
  rw [← e36] at h ⊢
  have z36 : a36.tmps.size = 103 := by rw [e36, put_size]; exact z35
  clear t8
  replace t93 : a36.tmps.getD 93 undef = .bool false := by rw [e36, put_ne _ _ _ _ (by decide)]; exact t93
  replace t94 : a36.tmps.getD 94 undef = tv := by rw [e36, put_ne _ _ _ _ (by decide)]; exact t94
  replace t95 : a36.tmps.getD 95 undef = kv := by rw [e36, put_ne _ _ _ _ (by decide)]; exact t95
  replace t97 : a36.tmps.getD 97 undef = dv := by rw [e36, put_ne _ _ _ _ (by decide)]; exact t97
  have t98 : a36.tmps.getD 98 undef = kv := by rw [e36]; exact put_same _ _ _ (by omega)
  clear e36 z35
  refine wpAnyH_ready (rs := [34]) (by kernel_rfl) (by simp) ?_
  refine AllReadyH.cons (o := { dst := some 96, op := Op.call { callee := Callee.value (Operand.func 24), args := #[Operand.tmp 94, Operand.tmp 95], argTypes := #[25, 37] }, type := 41, pos := "law.go:106", after := #[{ on := 32, ground := Ground.data }, { on := 33, ground := Ground.data }, { on := 31, ground := Ground.chain }, { on := 31, ground := Ground.guard }], guard := some (31, false) }) rfl (fun K hK => ?_) AllReadyH.nil
  rw [if_pos (by simp [Region.wanted, yielded, alike9_ops, tget z36 (by decide) t93])]
  go_simp
  refine (CKT _ hHeld).mono ?_
  rintro e x37 ⟨v, rfl, iv, l1⟩
  try go_wp2_with fail
  replace h := h v
  refine hK.out _ _ (hHeld.trans (l1.mono (hN _ hHeld))) (fun hHeld => ?_)
  clear hK K
  change wpAnyH _ _ _ _ _ _ _ (a36.put (some 96) (v)) _
  obtain ⟨a37, e37⟩ : ∃ act, act = a36.put (some 96) (v) := ⟨_, rfl⟩
  rw [← e37] at h ⊢
  have z37 : a37.tmps.size = 103 := by rw [e37, put_size]; exact z36
  replace t93 : a37.tmps.getD 93 undef = .bool false := by rw [e37, put_ne _ _ _ _ (by decide)]; exact t93
  clear t94
  clear t95
  replace t97 : a37.tmps.getD 97 undef = dv := by rw [e37, put_ne _ _ _ _ (by decide)]; exact t97
  replace t98 : a37.tmps.getD 98 undef = kv := by rw [e37, put_ne _ _ _ _ (by decide)]; exact t98
  have t96 : a37.tmps.getD 96 undef = v := by rw [e37]; exact put_same _ _ _ (by omega)
  clear e37 z36
  refine wpAnyH_ready (rs := [37]) (by kernel_rfl) (by simp) ?_
  refine AllReadyH.cons (o := { dst := some 99, op := Op.call { callee := Callee.value (Operand.func 36), args := #[Operand.tmp 97, Operand.tmp 98], argTypes := #[27, 37] }, type := 41, pos := "law.go:106", after := #[{ on := 35, ground := Ground.data }, { on := 36, ground := Ground.data }, { on := 34, ground := Ground.chain }, { on := 31, ground := Ground.guard }], guard := some (31, false) }) rfl (fun K hK => ?_) AllReadyH.nil
  rw [if_pos (by simp [Region.wanted, yielded, alike9_ops, tget z37 (by decide) t93])]
  go_simp
  refine (CKD _ hHeld).mono ?_
  rintro e x38 ⟨u, rfl, iu, l1⟩
  try go_wp2_with fail
  replace h := h u; replace iv := KI _ _ _ iv l1
  refine hK.out _ _ (hHeld.trans (l1.mono (hN _ hHeld))) (fun hHeld => ?_)
  clear hK K
  change wpAnyH _ _ _ _ _ _ _ (a37.put (some 99) (u)) _
  obtain ⟨a38, e38⟩ : ∃ act, act = a37.put (some 99) (u) := ⟨_, rfl⟩
  rw [← e38] at h ⊢
  have z38 : a38.tmps.size = 103 := by rw [e38, put_size]; exact z37
  replace t93 : a38.tmps.getD 93 undef = .bool false := by rw [e38, put_ne _ _ _ _ (by decide)]; exact t93
  clear t97
  clear t98
  replace t96 : a38.tmps.getD 96 undef = v := by rw [e38, put_ne _ _ _ _ (by decide)]; exact t96
  have t99 : a38.tmps.getD 99 undef = u := by rw [e38]; exact put_same _ _ _ (by omega)
  clear e38 z37
  refine wpAnyH_ready (rs := [38]) (by kernel_rfl) (by simp) ?_
  refine AllReadyH.cons (o := { dst := some 100, op := Op.call { callee := Callee.value (Operand.func 28), args := #[Operand.tmp 96, Operand.tmp 99], argTypes := #[41, 41] }, type := 4, pos := "law.go:106", after := #[{ on := 34, ground := Ground.data }, { on := 37, ground := Ground.data }, { on := 37, ground := Ground.chain }, { on := 31, ground := Ground.guard }], guard := some (31, false) }) rfl (fun K hK => ?_) AllReadyH.nil
  rw [if_pos (by simp [Region.wanted, yielded, alike9_ops, tget z38 (by decide) t93])]
  go_simp
  refine (CS _ _ _ hHeld iv iu).mono ?_
  rintro e x39 ⟨rfl, l1⟩
  try go_wp2_with fail
  skip
  refine hK.out _ _ (hHeld.trans (l1.mono (hN _ hHeld))) (fun hHeld => ?_)
  clear hK K
  change wpAnyH _ _ _ _ _ _ _ (a38.put (some 100) (.bool true)) _
  obtain ⟨a39, e39⟩ : ∃ act, act = a38.put (some 100) (.bool true) := ⟨_, rfl⟩
  rw [← e39] at h ⊢
  have z39 : a39.tmps.size = 103 := by rw [e39, put_size]; exact z38
  replace t93 : a39.tmps.getD 93 undef = .bool false := by rw [e39, put_ne _ _ _ _ (by decide)]; exact t93
  clear t96
  clear t99
  have t100 : a39.tmps.getD 100 undef = .bool true := by rw [e39]; exact put_same _ _ _ (by omega)
  clear e39 z38
  refine wpAnyH_take (i := 39) (oi := { dst := some 101, op := Op.unOp UnOp.not 4 (Operand.tmp 100), type := 4, pos := "law.go:106", after := #[{ on := 38, ground := Ground.data }, { on := 31, ground := Ground.guard }], guard := some (31, false) }) (v := .bool false) rfl (by kernel_rfl) (by kernel_rfl) (by kernel_rfl) (fun _ _ _ h => h) (Or.inl ⟨by simp [Region.wanted, yielded, alike9_ops, tget z39 (by decide) t93], fun w1 hw => by go_simp⟩) hHeld ?_
  change wpAnyH _ _ _ _ _ _ _ (a39.put (some 101) (.bool false)) _
  obtain ⟨a40, e40⟩ : ∃ act, act = a39.put (some 101) (.bool false) := ⟨_, rfl⟩
  rw [← e40] at h ⊢
  have z40 : a40.tmps.size = 103 := by rw [e40, put_size]; exact z39
  replace t93 : a40.tmps.getD 93 undef = .bool false := by rw [e40, put_ne _ _ _ _ (by decide)]; exact t93
  clear t100
  have t101 : a40.tmps.getD 101 undef = .bool false := by rw [e40]; exact put_same _ _ _ (by omega)
  clear e40 z39
  refine wpAnyH_take (i := 40) (oi := { dst := some 102, op := Op.pick (Operand.tmp 93) (Operand.const (Value.bool true)) (Operand.tmp 101), type := 4, pos := "law.go:106", after := #[{ on := 31, ground := Ground.data }, { on := 39, ground := Ground.data }], guard := none }) (v := .bool false) rfl (by kernel_rfl) (by kernel_rfl) (by kernel_rfl) (fun _ _ _ h => h) (Or.inl ⟨by rfl, fun w1 hw => by go_simp⟩) hHeld ?_
  change wpAnyH _ _ _ _ _ _ _ (a40.put (some 102) (.bool false)) _
  obtain ⟨a41, e41⟩ : ∃ act, act = a40.put (some 102) (.bool false) := ⟨_, rfl⟩
  rw [← e41] at h ⊢
  have z41 : a41.tmps.size = 103 := by rw [e41, put_size]; exact z40
  clear t93
  clear t101
  clear e41 z40
  exact wpAnyH_done (by kernel_rfl) (NoPanic.normal (h _ _ (hHeld) rfl)) _
end Go.Proofs.Ytoofljkgdjjllaa

namespace Go.Proofs.Ytoofljkgdjjllaa
open Go.RowKit
set_option linter.unusedVariables false
set_option linter.unusedSimpArgs false

theorem live_exist {f : Fn} (hf : Forest f) (k : IdK) : ∃ b, LiveIs f k b := by
  cases h : (f k).isSome with
  | false => exact ⟨false, Or.inl ⟨h, rfl⟩⟩
  | true => obtain ⟨l, p, hc⟩ := hf.ends k; exact ⟨_, Or.inr ⟨h, l, p, hc, rfl⟩⟩
theorem deep_exist {f : Fn} (hf : Forest f) (k : IdK) : ∃ d, DeepIs f k d := by
  cases h : (f k).isSome with
  | false => exact ⟨-1, Or.inl ⟨h, rfl⟩⟩
  | true => obtain ⟨l, p, hc⟩ := hf.ends k; exact ⟨_, Or.inr ⟨h, l, p, hc, rfl⟩⟩
theorem same_is (L : List IdK) (ok : ∀ x ∈ L, x.ok) (hl : L.length ≤ 1300000000000) (W : World) (v u : Value) (h1 : IdsIs L W v) (h2 : IdsIs L W u) :
    Calls Try.prog 28 #[v, u] W fun e w' => e = .returned (.bool true) ∧ Below W.heap.size W w' := by
  obtain ⟨a1, c1, rfl, h1⟩ := h1
  obtain ⟨a2, c2, rfl, h2⟩ := h2
  refine (same_ids a1 a2 c1 c2 L L W h1 h2 ok ok (by omega)).mono ?_
  rintro e w' ⟨rfl, bw⟩
  exact ⟨by simp, bw⟩
set_option maxRecDepth 100000 in
set_option maxHeartbeats 4000000 in
/-- alike() is true where both tell the same. -/
theorem alike_any (w0 : World) (tv dv : Value) (f : Fn) (D : List IdK) (hf : Forest f) (hD : Dom f D) (hl : D.length ≤ 1300000000000) (hU : ∀ k, (nd f k).u.ok) (a : Option Addr) (c : Nat) (I : List IdK) (hI : IdsAt w0 a I) (oI : ∀ x ∈ I, x.ok) (lI : I.length ≤ 7000000000000)
    (T : Tells w0 tv f D 21 23 24 37 39 29)
    (R : Tells w0 dv f D 34 35 36 38 40 41) :
    Calls Try.prog 13 #[tv, dv, .slice a I.length c] w0 fun e w' => e = .returned (.bool true) ∧ Below w0.heap.size w0 w' := by
  obtain ⟨Wk, hWk⟩ := walk_exist hf hD
  obtain ⟨K0, hK0⟩ := kids_exist hD zId
  have hWl := hWk.le hf hD
  have hKl := hK0.le hD
  obtain ⟨n, hnn⟩ : ∃ n, I.length = n := ⟨_, rfl⟩
  have HNn := hidMk hnn
  have HLn := hidMk lI
  rw [hnn]
  obtain ⟨dn, hdn⟩ : ∃ dn : Nat, D.length = dn := ⟨_, rfl⟩
  have HLT : Hid (∀ W, Below w0.heap.size w0 W → Calls Try.prog 21 #[tv] W fun e w' => e = .returned (.int .i64 (dn : Int)) ∧ Below W.heap.size W w') := by rw [← hdn]; exact T.len
  have HLR : Hid (∀ W, Below w0.heap.size w0 W → Calls Try.prog 34 #[dv] W fun e w' => e = .returned (.int .i64 (dn : Int)) ∧ Below W.heap.size W w') := by rw [← hdn]; exact R.len
  have HWT : Hid (∀ W, Below w0.heap.size w0 W → Calls Try.prog 23 #[tv] W fun e w' => ∃ v, e = .returned v ∧ IdsIs Wk w' v ∧ Below W.heap.size W w') := fun W b => (T.walk W b).mono fun e w' ⟨v, L, h1, h2, h3, h4⟩ => ⟨v, h1, by rw [hWk.unique h3]; exact h2, h4⟩
  have HWR : Hid (∀ W, Below w0.heap.size w0 W → Calls Try.prog 35 #[dv] W fun e w' => ∃ v, e = .returned v ∧ IdsIs Wk w' v ∧ Below W.heap.size W w') := fun W b => (R.walk W b).mono fun e w' ⟨v, L, h1, h2, h3, h4⟩ => ⟨v, h1, by rw [hWk.unique h3]; exact h2, h4⟩
  have KT : ∀ (k : IdK) (K : List IdK), k.ok → IsKids f k K → ∀ W, Below w0.heap.size w0 W → Calls Try.prog 24 #[tv, k.v] W fun e w' => ∃ v, e = .returned v ∧ IdsIs K w' v ∧ Below W.heap.size W w' := fun k K hk hK W b => (T.kids k hk W b).mono fun e w' ⟨v, L, h1, h2, h3, h4⟩ => ⟨v, h1, by rw [hK.unique h3]; exact h2, h4⟩
  have KR : ∀ (k : IdK) (K : List IdK), k.ok → IsKids f k K → ∀ W, Below w0.heap.size w0 W → Calls Try.prog 36 #[dv, k.v] W fun e w' => ∃ v, e = .returned v ∧ IdsIs K w' v ∧ Below W.heap.size W w' := fun k K hk hK W b => (R.kids k hk W b).mono fun e w' ⟨v, L, h1, h2, h3, h4⟩ => ⟨v, h1, by rw [hK.unique h3]; exact h2, h4⟩
  have HK0T := hidMk (KT zId K0 zId_ok hK0)
  have HK0R := hidMk (KR zId K0 zId_ok hK0)
  have HS1 := hidMk (same_is Wk (walk_ok hD hWk) (by omega))
  have HS2 := hidMk (same_is K0 hK0.ok (by omega))
  have HKT := hidMk KT
  have HKR := hidMk KR
  have HD := hidMk hdn
  clear KT KR hdn hnn lI
  go_enter Try.func13, Try.ntmps13
  go_wp2_with (first
    | (go_at_call 21; refine (HLT.out _ (Below.refl _ _)).mono ?_; rintro e w1 ⟨rfl, b1⟩; clear HLT)
    | (go_at_call 34; refine (HLR.out _ b1).mono ?_; rintro e w2 ⟨rfl, c2⟩; have b2 : Below w0.heap.size w0 w2 := b1.trans (c2.mono b1.size); clear HLR)
    | (go_at_call 23; refine (HWT.out _ b2).mono ?_; rintro e w3 ⟨v3, rfl, i3, c3⟩; have b3 : Below w0.heap.size w0 w3 := b2.trans (c3.mono b2.size); clear HWT)
    | (go_at_call 35; refine (HWR.out _ b3).mono ?_; rintro e w4 ⟨v4, rfl, i4, c4⟩; have b4 : Below w0.heap.size w0 w4 := b3.trans (c4.mono b3.size); replace i3 := IdsIs.keep _ _ _ i3 c4; clear HWR)
    | (go_at_call_of 28 v3; refine (HS1.out _ _ _ i3 i4).mono ?_; rintro e w5 ⟨rfl, c5⟩; have b5 : Below w0.heap.size w0 w5 := b4.trans (c5.mono b4.size); clear HS1 i3 i4)
    | (refine wpList_val rfl (exec_build0 rfl (build_id _)) ?_)
    | (go_at_call 24; refine (HK0T.out _ b5).mono ?_; rintro e w6 ⟨v6, rfl, i6, c6⟩; have b6 : Below w0.heap.size w0 w6 := b5.trans (c6.mono b5.size); clear HK0T)
    | (go_at_call 36; refine (HK0R.out _ b6).mono ?_; rintro e w7 ⟨v7, rfl, i7, c7⟩; have b7 : Below w0.heap.size w0 w7 := b6.trans (c7.mono b6.size); replace i6 := IdsIs.keep _ _ _ i6 c7; clear HK0R)
    | (go_at_call_of 28 v6; refine (HS2.out _ _ _ i6 i7).mono ?_; rintro e w8 ⟨rfl, c8⟩; have b8 : Below w0.heap.size w0 w8 := b7.trans (c8.mono b7.size); clear HS2 i6 i7)
    | fail)
  clear b1 b2 b3 b4 b5 b6 b7 c2 c3 c4 c5 c6 c7 c8
  go_loopw [7] (fun v7 wr => ∃ i : Nat, v7 = .int .i64 (i : Int) ∧ i ≤ n ∧ Below w0.heap.size w0 wr) (fun v7 wr => n - (match v7 with | .int _ i => i.toNat | _ => 0))
  case atStart => exact ⟨0, rfl, Nat.zero_le _, b8⟩
  case round =>
    clear b8
    obtain ⟨i, rfl, hin, bel⟩ := hrel
    have hLn := HNn.out
    have hbig := HLn.out
    by_cases hi : i < n
    · have hxi : I[i]? = some I[i] := List.getElem?_eq_getElem (by omega)
      generalize I[i] = x at hxi
      have hxo : x.ok := oI x (List.mem_of_getElem? hxi)
      obtain ⟨b, o, rfl, lb, hr⟩ : ∃ b o, a = some ⟨b, o, none⟩ ∧ b < w0.heap.size ∧ w0.rangeAt b (o + i * 33) x.c := by
        rcases hI with rfl | ⟨b, o, e, h1, h2⟩
        · simp at hxi
        · exact ⟨b, o, e, h1, by rw [Nat.mul_comm]; exact h2 i x hxi⟩
      have HL := hidMk (load_id_at hxo (rangeAt_keep hr (bel.block _ lb)))
      obtain ⟨wz, ea, es⟩ := id_new wr x hxo
      obtain ⟨wa, hwa⟩ : ∃ wa, wr.alloc (.cells x.c.toArray 37) = wa := ⟨_, rfl⟩
      have ba : Below wr.heap.size wr wa := by rw [← hwa]; exact (Below.refl _ _).alloc (Nat.le_refl _) _
      have za : wa.heap.size = wr.heap.size + 1 := by rw [← hwa]; simp
      have hxa : IdAt wa wr.heap.size x := by rw [← hwa]; exact heap_alloc_new _ _
      rw [hwa] at es
      have HEA := hidMk ea
      have HES := hidMk es
      have bela : Below w0.heap.size w0 wa := bel.trans (ba.mono bel.size)
      have hbw := bel.size
      have HZA := hidMk za
      clear ea es hwa hxi hr lb za
      go_upto_region 7 with (first
        | (refine wpList_val rfl (exec_load (t := 37) (u := .pointer (some ⟨b, o + i * 33, none⟩)) rfl rfl HL.out) ?_)
        | (refine wpList_run rfl (exec_alloc (t := 37) rfl HEA.out) ?_)
        | (refine wpList_skip rfl rfl (exec_store (t := 37) rfl rfl rfl HES.out) ?_)
        | fail)
      simp only [Act.put, List.setIfInBounds_toArray, List.set_cons_zero, List.set_cons_succ]
      clear HL HEA HES
      obtain ⟨bi, hbi⟩ : ∃ bi, wr.heap.size = bi := ⟨_, rfl⟩
      rw [hbi] at hxa HZA hbw ⊢
      have HBI := hidMk hbi
      clear hbi
      have HUT := hidMk (T.under x hxo wa bela)
      have HUR := hidMk (R.under x hxo)
      have hUo := hU x
      obtain ⟨uu, huu⟩ : ∃ uu, (nd f x).u = uu := ⟨_, rfl⟩
      obtain ⟨ks, hks⟩ : ∃ ks, (nd f x).key = ks := ⟨_, rfl⟩
      obtain ⟨pb, hpb⟩ : ∃ pb, ((f x).isSome && !(nd f x).pr) = pb := ⟨_, rfl⟩
      rw [huu, hks, hpb] at HUT HUR
      rw [huu] at hUo
      clear huu hks hpb
      have HLa := hidMk (load_id hxo hxa)
      go_upto_region 8 with (first
        | (refine wpList_val rfl (exec_load (t := 37) (u := .pointer (some ⟨bi, 0, none⟩)) rfl rfl HLa.out) ?_)
        | (go_at_call 37; refine HUT.out.mono ?_; rintro e w9 ⟨rfl, c9⟩; obtain ⟨wz9, ea9, es9⟩ := id_new w9 uu hUo; have HEA9 := hidMk ea9; have HES9 := hidMk es9; clear ea9 es9 HUT)
        | (refine wpList_run rfl (exec_alloc (t := 37) rfl HEA9.out) ?_)
        | (refine wpList_skip rfl rfl (exec_store (t := 37) (xv := .pointer (some ⟨w9.heap.size, 0, none⟩)) (yv := uu.v) rfl rfl rfl HES9.out) ?_)
        | fail)
      obtain ⟨hu9, cu9, zu9⟩ := box_id w9 uu
      generalize w9.alloc (.cells uu.c.toArray 37) = w10 at *
      have bel9 : Below w0.heap.size w0 w9 := bela.trans (c9.mono bela.size)
      have bel10 : Below w0.heap.size w0 w10 := bel9.trans (cu9.mono bel9.size)
      have s9 : wa.heap.size ≤ w9.heap.size := c9.size
      have hx10 : IdAt w10 bi x := (cu9.block _ (by have := HZA.out; omega)).trans ((c9.block _ (by have := HZA.out; omega)).trans hxa)
      have HL10 := hidMk (load_id hxo hx10)
      have HUR2 := hidMk (HUR.out w10 bel10)
      obtain ⟨bu, hbu⟩ : ∃ bu, w9.heap.size = bu := ⟨_, rfl⟩
      rw [hbu] at hu9 zu9 cu9 s9 ⊢
      have HZ10 := hidMk zu9
      have HBU := hidMk hbu
      clear hbu zu9 HLa HUR c9 HEA9 HES9
      go_upto_region 9 with (first
        | (refine wpList_val rfl (exec_load (t := 37) (u := .pointer (some ⟨bi, 0, none⟩)) rfl rfl HL10.out) ?_)
        | (go_at_call 38; refine HUR2.out.mono ?_; rintro e w11 ⟨rfl, c11⟩; obtain ⟨wz11, ea11, es11⟩ := id_new w11 uu hUo; have HEA11 := hidMk ea11; have HES11 := hidMk es11; clear ea11 es11 HUR2)
        | (refine wpList_run rfl (exec_alloc (t := 37) rfl HEA11.out) ?_)
        | (refine wpList_skip rfl rfl (exec_store (t := 37) (xv := .pointer (some ⟨w11.heap.size, 0, none⟩)) (yv := uu.v) rfl rfl rfl HES11.out) ?_)
        | fail)
      obtain ⟨hu11, cu11, zu11⟩ := box_id w11 uu
      generalize w11.alloc (.cells uu.c.toArray 37) = w12 at *
      have bel11 : Below w0.heap.size w0 w11 := bel10.trans (c11.mono bel10.size)
      have bel12 : Below w0.heap.size w0 w12 := bel11.trans (cu11.mono bel11.size)
      have s11 : w10.heap.size ≤ w11.heap.size := c11.size
      have z10 := HZ10.out
      have zA := HZA.out
      have hx12 : IdAt w12 bi x := (cu11.block _ (by omega)).trans ((c11.block _ (by omega)).trans hx10)
      have hu12 : IdAt w12 bu uu := (cu11.block _ (by omega)).trans ((c11.block _ (by omega)).trans hu9)
      obtain ⟨lb, hlb⟩ := live_exist hf x
      obtain ⟨dd, hdd⟩ := deep_exist hf x
      obtain ⟨K, hK⟩ := kids_exist hD x
      have hKlen := hK.le hD
      have b12 : ∀ W, Below w12.heap.size w12 W → Below w0.heap.size w0 W := fun W b => bel12.trans (b.mono bel12.size)
      have lbu : bu < w12.heap.size := (Array.getElem?_eq_some_iff.1 hu12).1
      have lbi : bi < w12.heap.size := (Array.getElem?_eq_some_iff.1 hx12).1
      have lbv : w11.heap.size < w12.heap.size := (Array.getElem?_eq_some_iff.1 hu11).1
      refine alike9 w12.heap.size w12 bi bu w11.heap.size tv dv x.v uu.v ks pb lb dd (IdsIs K) _ w12 _ rfl rfl rfl rfl rfl rfl rfl rfl rfl rfl (Below.refl _ _).drew (fun W b => b.size) IdsIs.keep ?_ ?_ ?_ ?_ ?_ ?_ ?_ ?_ ?_ ?_ ?_ ?_ ?_ ?_ ?_ ?_ ?_ ?_ ?_ ?_ ?_
      · exact fun W b => (T.live x hxo W (b12 W b)).mono fun e w' ⟨q, h1, h2, h3⟩ => ⟨by rw [hlb.unique h2]; exact h1, h3⟩
      · exact fun W b => (R.live x hxo W (b12 W b)).mono fun e w' ⟨q, h1, h2, h3⟩ => ⟨by rw [hlb.unique h2]; exact h1, h3⟩
      · exact fun W b => (T.deep x hxo W (b12 W b)).mono fun e w' ⟨q, h1, h2, h3⟩ => ⟨by rw [hdd.unique h2]; exact h1, h3⟩
      · exact fun W b => (R.deep x hxo W (b12 W b)).mono fun e w' ⟨q, h1, h2, h3⟩ => ⟨by rw [hdd.unique h2]; exact h1, h3⟩
      · exact fun W b => HKT.out x K hxo hK W (b12 W b)
      · exact fun W b => HKR.out x K hxo hK W (b12 W b)
      · exact fun W v u b h1 h2 => same_is K hK.ok (by omega) W v u h1 h2
      · exact fun W b => load_id hUo ((b.block _ lbu).trans hu12)
      · exact fun W b => load_id hUo ((b.block _ lbv).trans hu11)
      · exact fun W => guard_id _ _ uu uu W _
      · exact fun W b => by rw [neq_id uu uu hUo hUo]; simp
      · exact fun W => by go_simp
      · exact fun W b => by go_simp
      · exact fun W => by go_simp
      · exact fun W b => by go_simp
      · exact fun W b => load_id hxo ((b.block _ lbi).trans hx12)
      · exact fun W => by go_simp
      · exact fun W b => by go_simp
      · exact fun W => by go_simp
      · exact fun W b => by go_simp
      intro v u a' w13 b13 ha
      subst ha
      simp only [Act.put, List.setIfInBounds_toArray, List.set_cons_zero, List.set_cons_succ]
      have bel13 := b12 _ b13
      clear b13 b12
      go_wp2
      rw [show ((i : Int) + 1) = ((i + 1 : Nat) : Int) by omega]
      refine ⟨⟨i + 1, rfl, hi, bel13⟩, ?_⟩
      show n - ((i + 1 : Nat) : Int).toNat < n - (i : Int).toNat
      omega
    · obtain rfl : i = n := by omega
      clear hLn hin hi
      go_wp2
      go_ret
      exact ⟨rfl, bel⟩
end Go.Proofs.Ytoofljkgdjjllaa

namespace Go.Proofs.Ytoofljkgdjjllaa
open Go.RowKit
set_option linter.unusedVariables false
set_option linter.unusedSimpArgs false

set_option maxRecDepth 100000 in
set_option maxHeartbeats 2000000 in
theorem fork_nil (w : World) : Calls Try.prog 15 #[.pointer none] w fun e w' => e = .returned (.pointer none) ∧ Below w.heap.size w w' := by
  go_enter Try.func15, Try.ntmps15
  go_wp2
  go_ret
  exact ⟨rfl, Below.refl _ _⟩
set_option maxRecDepth 100000 in
set_option maxHeartbeats 2000000 in
theorem rnew_any (w : World) : Calls Try.prog 11 #[] w fun e w' => ∃ d pv, e = .returned (.pointer (some ⟨d, 0, none⟩)) ∧ RefAt w' d [] pv ∧ Below w.heap.size w w' ∧ d < w'.heap.size := by
  go_enter Try.func11, Try.ntmps11
  go_wp2
  go_ret
  refine ⟨_, _, rfl, ⟨⟨none, 0, heap_alloc_new _ _, Or.inl rfl⟩, by simp, by simp⟩, (Below.refl _ _).alloc (Nat.le_refl _) _, by simp⟩
/-- The tree that has one node. -/
def FF : Fn := upd (fun _ => none) ida (some ⟨zId, ⟨#[]⟩, false⟩)
theorem FF_dom : Dom FF [ida] := by
  refine ⟨fun x => ?_, by simp, by simpa using ida_ok⟩
  by_cases e : x = ida
  · subst e; unfold FF; rw [upd_same]; simp
  · unfold FF; rw [upd_ne e]; simp [e]
theorem gC_z : gC (fun _ => none) ida zId = 0 := by
  have h : Bears (fun _ => none) zId = true := bears_iff.2 (Or.inl rfl)
  unfold gC
  rw [if_neg ida_z, h]
  rfl
theorem fresh_grow {B : Nat} {w : World} {s : Tr} (h : Own B w s [] (fun _ => none)) (hB : B ≤ w.heap.size) :
    Calls Try.prog 17 #[.pointer (some ⟨s.t, 0, none⟩), ida.v, zId.v, .string ⟨#[]⟩] w fun e w' => ∃ s' r, e = .returned (.tuple #[.pointer (some ⟨r.bk, 0, none⟩), .int .i64 0]) ∧ Own B w' s' [r] FF ∧ s'.t = s.t ∧ Tch (fun j => j ∈ s.bl) w w' := by
  refine (grow_all h hB ida zId ⟨#[]⟩ ida_ok zId_ok).mono fun e w' hs => ?_
  obtain ⟨s', r, hd⟩ := StepP.ok gC_z hs
  exact ⟨s', r, hd.ret, hd.own, hd.t, hd.tch⟩
/-- What stays as it is while TreeNone runs. -/
structure NC (w0 : World) (d B1 B2 B3 : Nat) (sf : Tr) (Hf : List Rec) : Prop where
  b0 : w0.heap.size ≤ B1
  dl : d < B1
  b1 : B1 ≤ B2
  b2 : B2 ≤ B3
  fb : ∀ j ∈ sf.bl, j < B3
  fh : ∀ r ∈ Hf, ∀ b ∈ r.bl, b < B3
structure NI (w0 : World) (d : Nat) (pv : Value) (B1 B2 B3 : Nat) (sf : Tr) (Hf : List Rec) (to : Nat) (W : World) : Prop where
  bel : Below w0.heap.size w0 W
  ref : RefAt W d [] pv
  fr : Own B2 W sf Hf FF
  sz : B3 ≤ W.heap.size
  ot : ∃ s H f, s.t = to ∧ Own B1 W s H f ∧ ∀ j ∈ s.bl, j < B2 ∨ B3 ≤ j
def BackOk (B3 : Nat) (W : World) (t : Value) : Prop := t = .pointer none ∨ ∃ b c, t = .pointer (some ⟨b, 0, none⟩) ∧ B3 ≤ b ∧ W.heap[b]? = some (.cells c 103 (0, 0))
theorem BackOk.below {B3 : Nat} {W W' : World} {t : Value} (h : BackOk B3 W t) (b : Below W.heap.size W W') : BackOk B3 W' t := by
  rcases h with h | ⟨k, c, h1, h2, h3⟩
  · exact Or.inl h
  · exact Or.inr ⟨k, c, h1, h2, (b.block _ (Array.getElem?_eq_some_iff.1 h3).1).trans h3⟩
section
variable {w0 : World} {d : Nat} {pv : Value} {B1 B2 B3 : Nat} {sf : Tr} {Hf : List Rec} {to : Nat} {W W' : World}
theorem NI.below (h : NI w0 d pv B1 B2 B3 sf Hf to W) (b : Below W.heap.size W W') : NI w0 d pv B1 B2 B3 sf Hf to W' := by
  obtain ⟨s, H, f, h1, h2, h3⟩ := h.ot
  exact ⟨h.bel.trans (b.mono h.bel.size), h.ref.below b, h.fr.below b, Nat.le_trans h.sz b.size, s, H, f, h1, h2.below b, h3⟩
theorem NI.drew (h : NI w0 d pv B1 B2 B3 sf Hf to W) : NI w0 d pv B1 B2 B3 sf Hf to W.drew := h.below (Below.refl _ _).drew
theorem ref_tch {O : Nat → Prop} (h : RefAt W d [] pv) (t : Tch O W W') (hO : ¬ O d) : RefAt W' d [] pv := by
  obtain ⟨a, c, h1, h2⟩ := h.cell
  exact ⟨⟨a, c, (t.block d h.lt hO).trans h1, Or.inl rfl⟩, h.ok, h.nd⟩
theorem ni_grow (hc : NC w0 d B1 B2 B3 sf Hf) (h : NI w0 d pv B1 B2 B3 sf Hf to W) (k u : IdK) (key : ByteArray) (hk : k.ok) (hu : u.ok) :
    Calls Try.prog 17 #[.pointer (some ⟨to, 0, none⟩), k.v, u.v, .string key] W fun e w' => ∃ t v, e = .returned (.tuple #[t, v]) ∧ NI w0 d pv B1 B2 B3 sf Hf to w' ∧ (NI w0 d pv B1 B2 B3 sf Hf to w' ∧ BackOk B3 w' t) := by
  obtain ⟨s, H, f, rfl, h2, h3⟩ := h.ot
  have hs := h.sz
  have c0 := hc.b0
  have c1 := hc.b1
  have c2 := hc.b2
  have c3 := hc.dl
  refine (grow_all h2 (by omega) k u key hk hu).mono fun e w' hst => ?_
  rcases hst with ⟨_, rfl, b⟩ | ⟨_, s', r, hd⟩
  · exact ⟨_, _, rfl, h.below b, h.below b, Or.inl rfl⟩
  · have hni : NI w0 d pv B1 B2 B3 sf Hf s.t w' := by
      refine ⟨h.bel.trans (hd.tch.below (by have := h.bel.size; exact this) fun j hj => by have := h2.ge j hj; omega), ref_tch h.ref hd.tch fun q => by have := h2.ge _ q; omega, h.fr.keep hd.tch (fun j hj q => ?_) (fun r hr b hb q => ?_), Nat.le_trans hs hd.tch.size, s', r :: H, _, hd.t, hd.own, fun j hj => ?_⟩
      · have := hc.fb j hj; have := h.fr.ge j hj; rcases h3 j q with q | q <;> omega
      · have := hc.fh r hr b hb; have := h.fr.hge r hr b hb; rcases h3 b q with q | q <;> omega
      · rcases hd.bl j hj with q | q
        · exact h3 j q
        · exact Or.inr (by omega)
    refine ⟨_, _, hd.ret, hni, hni, Or.inr ?_⟩
    have hh := hd.own.tree.hist.1
    have hb : B3 ≤ r.bk := by have := hd.rb r.bk (by simp [Rec.bl]); omega
    unfold Rec.at at hh
    cases ho : r.o with
    | none => rw [ho] at hh; exact ⟨_, _, rfl, hb, hh.1⟩
    | some n => rw [ho] at hh; exact ⟨_, _, rfl, hb, hh.1⟩
theorem ni_undo (hc : NC w0 d B1 B2 B3 sf Hf) (h : NI w0 d pv B1 B2 B3 sf Hf to W) (t : Value) (hb : BackOk B3 W t) :
    Calls Try.prog 18 #[.pointer (some ⟨sf.t, 0, none⟩), t] W fun e w' => e = .returned (.int .i64 2) ∧ Below W.heap.size W w' := by
  rcases hb with rfl | ⟨b, c, rfl, h2, h3⟩
  · exact undo_none sf Hf W h.fr.tree
  · refine undo_no sf Hf b c W h.fr.tree h3 ?_
    cases Hf with
    | nil => simp [ptr]
    | cons r t =>
      have := hc.fh r (by simp) r.bk (by simp [Rec.bl])
      simp only [ptr]
      intro e
      injection e with e
      injection e with e
      omega
theorem nil_undo (t : Value) (hb : BackOk B3 W t) :
    Calls Try.prog 18 #[.pointer none, t] W fun e w' => e = .returned (.int .i64 1) ∧ Below W.heap.size W w' := by
  rcases hb with rfl | ⟨b, c, rfl, h2, h3⟩
  · exact undo_nil none W
  · exact undo_nil _ W
theorem ni_len (h : NI w0 d pv B1 B2 B3 sf Hf to W) :
    Calls Try.prog 21 #[.pointer (some ⟨sf.t, 0, none⟩)] W fun e w' => e = .returned (.int .i64 1) ∧ Below W.heap.size W w' := len_own h.fr FF_dom
end
/-- How it begins. -/
theorem ni_start {w0 w1 w2 w3 w4 w5 : World} {d : Nat} {pv : Value} {so s0 sf : Tr} {r : Rec} (b1 : Below w0.heap.size w0 w1) (b2 : Below w1.heap.size w1 w2) (hd : RefAt w2 d [] pv) (ho : Own w2.heap.size w3 so [] (fun _ => none)) (b3 : Below w2.heap.size w2 w3)
    (h0 : Own w3.heap.size w4 s0 [] (fun _ => none)) (b4 : Below w3.heap.size w3 w4) (hf : Own w3.heap.size w5 sf [r] FF) (tch : Tch (fun j => j ∈ s0.bl) w4 w5) :
    NC w0 d w2.heap.size w3.heap.size w5.heap.size sf [r] ∧ NI w0 d pv w2.heap.size w3.heap.size w5.heap.size sf [r] so.t w5 := by
  have z1 := b1.size
  have z2 := b2.size
  have z3 := b3.size
  have z4 := b4.size
  have z5 := tch.size
  have zd := hd.lt
  have bel4 : Below w3.heap.size w3 w5 := b4.trans (tch.below (by omega) fun j hj => h0.ge j hj)
  have ol := ho.tree.tr.lt
  refine ⟨⟨by omega, zd, z3, by omega, hf.tree.tr.lt, hf.tree.hist.lt⟩, ⟨?_, (hd.below b3).below bel4, hf, Nat.le_refl _, so, [], _, rfl, ho.below bel4, fun j hj => Or.inl (ol j hj)⟩⟩
  exact b1.trans ((b2.mono z1).trans ((b3.mono (by omega)).trans (bel4.mono (by omega))))
end Go.Proofs.Ytoofljkgdjjllaa

namespace Go.Proofs.Ytoofljkgdjjllaa
open Go.RowKit
set_option linter.unusedVariables false
set_option linter.unusedSimpArgs false

def none13_ops : Array Oper := #[{ dst := some 45, op := Op.move (Operand.tmp 3), type := 25, pos := "law.go:194", after := #[], guard := none }, { dst := some 46, op := Op.move (Operand.tmp 0), type := 23, pos := "law.go:194", after := #[], guard := none }, { dst := some 47, op := Op.move (Operand.tmp 9), type := 3, pos := "law.go:194", after := #[], guard := none }, { dst := some 48, op := Op.indexAddr 23 (Operand.tmp 46) (Operand.tmp 47), type := 0, pos := "law.go:194", after := #[{ on := 1, ground := Ground.data }, { on := 2, ground := Ground.data }], guard := none }, { dst := some 49, op := Op.fieldAddr 39 (Operand.tmp 48) 1, type := 0, pos := "law.go:194", after := #[{ on := 3, ground := Ground.data }], guard := none }, { dst := some 50, op := Op.load 37 (Operand.tmp 49), type := 37, pos := "law.go:194", after := #[{ on := 4, ground := Ground.data }], guard := none }, { dst := some 51, op := Op.move (Operand.tmp 0), type := 23, pos := "law.go:194", after := #[], guard := none }, { dst := some 52, op := Op.move (Operand.tmp 9), type := 3, pos := "law.go:194", after := #[], guard := none }, { dst := some 53, op := Op.indexAddr 23 (Operand.tmp 51) (Operand.tmp 52), type := 0, pos := "law.go:194", after := #[{ on := 6, ground := Ground.data }, { on := 7, ground := Ground.data }], guard := none }, { dst := some 54, op := Op.fieldAddr 39 (Operand.tmp 53) 2, type := 0, pos := "law.go:194", after := #[{ on := 8, ground := Ground.data }], guard := none }, { dst := some 55, op := Op.load 37 (Operand.tmp 54), type := 37, pos := "law.go:194", after := #[{ on := 9, ground := Ground.data }], guard := none }, { dst := some 56, op := Op.move (Operand.tmp 0), type := 23, pos := "law.go:194", after := #[], guard := none }, { dst := some 57, op := Op.move (Operand.tmp 9), type := 3, pos := "law.go:194", after := #[], guard := none }, { dst := some 58, op := Op.indexAddr 23 (Operand.tmp 56) (Operand.tmp 57), type := 0, pos := "law.go:194", after := #[{ on := 11, ground := Ground.data }, { on := 12, ground := Ground.data }], guard := none }, { dst := some 59, op := Op.fieldAddr 39 (Operand.tmp 58) 3, type := 0, pos := "law.go:194", after := #[{ on := 13, ground := Ground.data }], guard := none }, { dst := some 60, op := Op.load 9 (Operand.tmp 59), type := 9, pos := "law.go:194", after := #[{ on := 14, ground := Ground.data }], guard := none }, { dst := some 61, op := Op.call { callee := Callee.value (Operand.func 17), args := #[Operand.tmp 45, Operand.tmp 50, Operand.tmp 55, Operand.tmp 60], argTypes := #[25, 37, 37, 9] }, type := 47, pos := "law.go:194", after := #[{ on := 0, ground := Ground.data }, { on := 5, ground := Ground.data }, { on := 10, ground := Ground.data }, { on := 15, ground := Ground.data }], guard := none }, { dst := some 44, op := Op.move (Operand.tmp 61), type := 47, pos := "law.go:194", after := #[{ on := 16, ground := Ground.data }], guard := none }, { dst := some 62, op := Op.extract (Operand.tmp 44) 0, type := 45, pos := "law.go:194", after := #[{ on := 17, ground := Ground.data }], guard := none }, { dst := some 63, op := Op.extract (Operand.tmp 44) 1, type := 46, pos := "law.go:194", after := #[{ on := 17, ground := Ground.data }, { on := 20, ground := Ground.gcOnly Departure.lateStores }], guard := none }, { dst := some 10, op := Op.assign (Operand.tmp 62), type := 45, pos := "law.go:194", after := #[{ on := 18, ground := Ground.data }, { on := 16, ground := Ground.chain }, { on := 0, ground := Ground.phase }, { on := 1, ground := Ground.phase }, { on := 2, ground := Ground.phase }, { on := 3, ground := Ground.phase }, { on := 4, ground := Ground.phase }, { on := 5, ground := Ground.phase }, { on := 6, ground := Ground.phase }, { on := 7, ground := Ground.phase }, { on := 8, ground := Ground.phase }, { on := 9, ground := Ground.phase }, { on := 10, ground := Ground.phase }, { on := 11, ground := Ground.phase }, { on := 12, ground := Ground.phase }, { on := 13, ground := Ground.phase }, { on := 14, ground := Ground.phase }, { on := 15, ground := Ground.phase }, { on := 16, ground := Ground.phase }, { on := 17, ground := Ground.phase }, { on := 18, ground := Ground.phase }, { on := 19, ground := Ground.textOnly Departure.lateStores }], guard := none }, { dst := some 11, op := Op.assign (Operand.tmp 63), type := 46, pos := "law.go:194", after := #[{ on := 19, ground := Ground.data }, { on := 20, ground := Ground.chain }, { on := 0, ground := Ground.phase }, { on := 1, ground := Ground.phase }, { on := 2, ground := Ground.phase }, { on := 3, ground := Ground.phase }, { on := 4, ground := Ground.phase }, { on := 5, ground := Ground.phase }, { on := 6, ground := Ground.phase }, { on := 7, ground := Ground.phase }, { on := 8, ground := Ground.phase }, { on := 9, ground := Ground.phase }, { on := 10, ground := Ground.phase }, { on := 11, ground := Ground.phase }, { on := 12, ground := Ground.phase }, { on := 13, ground := Ground.phase }, { on := 14, ground := Ground.phase }, { on := 15, ground := Ground.phase }, { on := 16, ground := Ground.phase }, { on := 17, ground := Ground.phase }, { on := 18, ground := Ground.phase }, { on := 19, ground := Ground.phase }, { on := 20, ground := Ground.phase }], guard := none }]
set_option maxRecDepth 100000 in
set_option maxHeartbeats 4000000 in
theorem none13 (S : World → Prop) (Po : Value → Value → World → Prop) (b p : Nat) (rv lv iv kv uv sv : Value) (a : Act) (w : World) (Q : Exit → Act → World → Prop) (hsz : a.tmps.size = 152)
    (t3 : a.tmps.getD 3 undef = rv)
    (t0 : a.tmps.getD 0 undef = lv)
    (t9 : a.tmps.getD 9 undef = iv)
    (h0 : S w.drew)
    (C : ∀ W, S W → Calls Try.prog 17 #[rv, kv, uv, sv] W fun e w' => ∃ t v, e = .returned (.tuple #[t, v]) ∧ S w' ∧ Po t v w')
    (G1 : ∀ W, (Instr.indexAt 23 (lv) (iv)).run Try.prog W = .ok (.pointer (some ⟨b, p, none⟩)) W)
    (G2 : ∀ W, S W → (Instr.loadAt 37 (.pointer (some ⟨b, p + 1, none⟩))).run Try.prog W = .ok (kv) W)
    (G3 : ∀ W, S W → (Instr.loadAt 37 (.pointer (some ⟨b, p + 34, none⟩))).run Try.prog W = .ok (uv) W)
    (G4 : ∀ W, S W → (Instr.loadAt 9 (.pointer (some ⟨b, p + 67, none⟩))).run Try.prog W = .ok (sv) W)
    (h : ∀ (t v : Value) (a' : Act) (w' : World), Po t v w' → a' = ((((((((((((((((((((((a).put (some 45) (rv)).put (some 46) (lv)).put (some 47) (iv)).put (some 48) (.pointer (some ⟨b, p, none⟩))).put (some 49) (.pointer (some ⟨b, p + 1, none⟩))).put (some 50) (kv)).put (some 51) (lv)).put (some 52) (iv)).put (some 53) (.pointer (some ⟨b, p, none⟩))).put (some 54) (.pointer (some ⟨b, p + 34, none⟩))).put (some 55) (uv)).put (some 56) (lv)).put (some 57) (iv)).put (some 58) (.pointer (some ⟨b, p, none⟩))).put (some 59) (.pointer (some ⟨b, p + 67, none⟩))).put (some 60) (sv)).put (some 61) (.tuple #[t, v])).put (some 44) (.tuple #[t, v])).put (some 62) (t)).put (some 63) (v)).put (some 10) (t)).put (some 11) (v) → Q .normal a' w') :
    (Code.region 13 none13_ops true).wp Try.prog Q a w := by
  refine wp_region_noPanic ?_
  refine wp_region_held_drew (S := fun w' => S w') (by kernel_rfl) (h0) (fun hHeld => ?_)
  refine wpAnyH_take (i := 0) (oi := { dst := some 45, op := Op.move (Operand.tmp 3), type := 25, pos := "law.go:194", after := #[], guard := none }) (v := rv) rfl (by kernel_rfl) (by kernel_rfl) (by kernel_rfl) (fun _ _ _ h => h) (Or.inl ⟨by rfl, fun w1 hw => exec_move rfl t3⟩) hHeld ?_
  change wpAnyH _ _ _ _ _ _ _ (a.put (some 45) (rv)) _
  obtain ⟨a1, e1⟩ : ∃ act, act = a.put (some 45) (rv) := ⟨_, rfl⟩
  rw [← e1] at h ⊢
  have z1 : a1.tmps.size = 152 := by rw [e1, put_size]; exact hsz
  clear t3
  replace t0 : a1.tmps.getD 0 undef = lv := by rw [e1, put_ne _ _ _ _ (by decide)]; exact t0
  replace t9 : a1.tmps.getD 9 undef = iv := by rw [e1, put_ne _ _ _ _ (by decide)]; exact t9
  have t45 : a1.tmps.getD 45 undef = rv := by rw [e1]; exact put_same _ _ _ (by omega)
  clear e1 hsz
  refine wpAnyH_take (i := 1) (oi := { dst := some 46, op := Op.move (Operand.tmp 0), type := 23, pos := "law.go:194", after := #[], guard := none }) (v := lv) rfl (by kernel_rfl) (by kernel_rfl) (by kernel_rfl) (fun _ _ _ h => h) (Or.inl ⟨by rfl, fun w1 hw => exec_move rfl t0⟩) hHeld ?_
  change wpAnyH _ _ _ _ _ _ _ (a1.put (some 46) (lv)) _
  obtain ⟨a2, e2⟩ : ∃ act, act = a1.put (some 46) (lv) := ⟨_, rfl⟩
  rw [← e2] at h ⊢
  have z2 : a2.tmps.size = 152 := by rw [e2, put_size]; exact z1
  replace t0 : a2.tmps.getD 0 undef = lv := by rw [e2, put_ne _ _ _ _ (by decide)]; exact t0
  replace t9 : a2.tmps.getD 9 undef = iv := by rw [e2, put_ne _ _ _ _ (by decide)]; exact t9
  replace t45 : a2.tmps.getD 45 undef = rv := by rw [e2, put_ne _ _ _ _ (by decide)]; exact t45
  have t46 : a2.tmps.getD 46 undef = lv := by rw [e2]; exact put_same _ _ _ (by omega)
  clear e2 z1
  refine wpAnyH_take (i := 2) (oi := { dst := some 47, op := Op.move (Operand.tmp 9), type := 3, pos := "law.go:194", after := #[], guard := none }) (v := iv) rfl (by kernel_rfl) (by kernel_rfl) (by kernel_rfl) (fun _ _ _ h => h) (Or.inl ⟨by rfl, fun w1 hw => exec_move rfl t9⟩) hHeld ?_
  change wpAnyH _ _ _ _ _ _ _ (a2.put (some 47) (iv)) _
  obtain ⟨a3, e3⟩ : ∃ act, act = a2.put (some 47) (iv) := ⟨_, rfl⟩
  rw [← e3] at h ⊢
  have z3 : a3.tmps.size = 152 := by rw [e3, put_size]; exact z2
  replace t0 : a3.tmps.getD 0 undef = lv := by rw [e3, put_ne _ _ _ _ (by decide)]; exact t0
  replace t9 : a3.tmps.getD 9 undef = iv := by rw [e3, put_ne _ _ _ _ (by decide)]; exact t9
  replace t45 : a3.tmps.getD 45 undef = rv := by rw [e3, put_ne _ _ _ _ (by decide)]; exact t45
  replace t46 : a3.tmps.getD 46 undef = lv := by rw [e3, put_ne _ _ _ _ (by decide)]; exact t46
  have t47 : a3.tmps.getD 47 undef = iv := by rw [e3]; exact put_same _ _ _ (by omega)
  clear e3 z2
  refine wpAnyH_take (i := 3) (oi := { dst := some 48, op := Op.indexAddr 23 (Operand.tmp 46) (Operand.tmp 47), type := 0, pos := "law.go:194", after := #[{ on := 1, ground := Ground.data }, { on := 2, ground := Ground.data }], guard := none }) (v := .pointer (some ⟨b, p, none⟩)) rfl (by kernel_rfl) (by kernel_rfl) (by kernel_rfl) (fun _ _ _ h => h) (Or.inl ⟨by rfl, fun w1 hw => exec_indexAt rfl t46 t47 (G1 _)⟩) hHeld ?_
  change wpAnyH _ _ _ _ _ _ _ (a3.put (some 48) (.pointer (some ⟨b, p, none⟩))) _
  obtain ⟨a4, e4⟩ : ∃ act, act = a3.put (some 48) (.pointer (some ⟨b, p, none⟩)) := ⟨_, rfl⟩
  rw [← e4] at h ⊢
  have z4 : a4.tmps.size = 152 := by rw [e4, put_size]; exact z3
  replace t0 : a4.tmps.getD 0 undef = lv := by rw [e4, put_ne _ _ _ _ (by decide)]; exact t0
  replace t9 : a4.tmps.getD 9 undef = iv := by rw [e4, put_ne _ _ _ _ (by decide)]; exact t9
  replace t45 : a4.tmps.getD 45 undef = rv := by rw [e4, put_ne _ _ _ _ (by decide)]; exact t45
  clear t46
  clear t47
  have t48 : a4.tmps.getD 48 undef = .pointer (some ⟨b, p, none⟩) := by rw [e4]; exact put_same _ _ _ (by omega)
  clear e4 z3
  refine wpAnyH_take (i := 4) (oi := { dst := some 49, op := Op.fieldAddr 39 (Operand.tmp 48) 1, type := 0, pos := "law.go:194", after := #[{ on := 3, ground := Ground.data }], guard := none }) (v := .pointer (some ⟨b, p + 1, none⟩)) rfl (by kernel_rfl) (by kernel_rfl) (by kernel_rfl) (fun _ _ _ h => h) (Or.inl ⟨by rfl, fun w1 hw => exec_fieldAt rfl t48 (fg_39_1 _ _ _)⟩) hHeld ?_
  change wpAnyH _ _ _ _ _ _ _ (a4.put (some 49) (.pointer (some ⟨b, p + 1, none⟩))) _
  obtain ⟨a5, e5⟩ : ∃ act, act = a4.put (some 49) (.pointer (some ⟨b, p + 1, none⟩)) := ⟨_, rfl⟩
  rw [← e5] at h ⊢
  have z5 : a5.tmps.size = 152 := by rw [e5, put_size]; exact z4
  replace t0 : a5.tmps.getD 0 undef = lv := by rw [e5, put_ne _ _ _ _ (by decide)]; exact t0
  replace t9 : a5.tmps.getD 9 undef = iv := by rw [e5, put_ne _ _ _ _ (by decide)]; exact t9
  replace t45 : a5.tmps.getD 45 undef = rv := by rw [e5, put_ne _ _ _ _ (by decide)]; exact t45
  clear t48
  have t49 : a5.tmps.getD 49 undef = .pointer (some ⟨b, p + 1, none⟩) := by rw [e5]; exact put_same _ _ _ (by omega)
  clear e5 z4
  refine wpAnyH_take (i := 5) (oi := { dst := some 50, op := Op.load 37 (Operand.tmp 49), type := 37, pos := "law.go:194", after := #[{ on := 4, ground := Ground.data }], guard := none }) (v := kv) rfl (by kernel_rfl) (by kernel_rfl) (by kernel_rfl) (fun _ _ _ h => h) (Or.inl ⟨by rfl, fun w1 hw => exec_load rfl t49 (G2 _ hw)⟩) hHeld ?_
  change wpAnyH _ _ _ _ _ _ _ (a5.put (some 50) (kv)) _
  obtain ⟨a6, e6⟩ : ∃ act, act = a5.put (some 50) (kv) := ⟨_, rfl⟩
  rw [← e6] at h ⊢
  have z6 : a6.tmps.size = 152 := by rw [e6, put_size]; exact z5
  replace t0 : a6.tmps.getD 0 undef = lv := by rw [e6, put_ne _ _ _ _ (by decide)]; exact t0
  replace t9 : a6.tmps.getD 9 undef = iv := by rw [e6, put_ne _ _ _ _ (by decide)]; exact t9
  replace t45 : a6.tmps.getD 45 undef = rv := by rw [e6, put_ne _ _ _ _ (by decide)]; exact t45
  clear t49
  have t50 : a6.tmps.getD 50 undef = kv := by rw [e6]; exact put_same _ _ _ (by omega)
  clear e6 z5
  refine wpAnyH_take (i := 6) (oi := { dst := some 51, op := Op.move (Operand.tmp 0), type := 23, pos := "law.go:194", after := #[], guard := none }) (v := lv) rfl (by kernel_rfl) (by kernel_rfl) (by kernel_rfl) (fun _ _ _ h => h) (Or.inl ⟨by rfl, fun w1 hw => exec_move rfl t0⟩) hHeld ?_
  change wpAnyH _ _ _ _ _ _ _ (a6.put (some 51) (lv)) _
  obtain ⟨a7, e7⟩ : ∃ act, act = a6.put (some 51) (lv) := ⟨_, rfl⟩
  rw [← e7] at h ⊢
  have z7 : a7.tmps.size = 152 := by rw [e7, put_size]; exact z6
  replace t0 : a7.tmps.getD 0 undef = lv := by rw [e7, put_ne _ _ _ _ (by decide)]; exact t0
  replace t9 : a7.tmps.getD 9 undef = iv := by rw [e7, put_ne _ _ _ _ (by decide)]; exact t9
  replace t45 : a7.tmps.getD 45 undef = rv := by rw [e7, put_ne _ _ _ _ (by decide)]; exact t45
  replace t50 : a7.tmps.getD 50 undef = kv := by rw [e7, put_ne _ _ _ _ (by decide)]; exact t50
  have t51 : a7.tmps.getD 51 undef = lv := by rw [e7]; exact put_same _ _ _ (by omega)
  clear e7 z6
  refine wpAnyH_take (i := 7) (oi := { dst := some 52, op := Op.move (Operand.tmp 9), type := 3, pos := "law.go:194", after := #[], guard := none }) (v := iv) rfl (by kernel_rfl) (by kernel_rfl) (by kernel_rfl) (fun _ _ _ h => h) (Or.inl ⟨by rfl, fun w1 hw => exec_move rfl t9⟩) hHeld ?_
  change wpAnyH _ _ _ _ _ _ _ (a7.put (some 52) (iv)) _
  obtain ⟨a8, e8⟩ : ∃ act, act = a7.put (some 52) (iv) := ⟨_, rfl⟩
  rw [← e8] at h ⊢
  have z8 : a8.tmps.size = 152 := by rw [e8, put_size]; exact z7
  replace t0 : a8.tmps.getD 0 undef = lv := by rw [e8, put_ne _ _ _ _ (by decide)]; exact t0
  replace t9 : a8.tmps.getD 9 undef = iv := by rw [e8, put_ne _ _ _ _ (by decide)]; exact t9
  replace t45 : a8.tmps.getD 45 undef = rv := by rw [e8, put_ne _ _ _ _ (by decide)]; exact t45
  replace t50 : a8.tmps.getD 50 undef = kv := by rw [e8, put_ne _ _ _ _ (by decide)]; exact t50
  replace t51 : a8.tmps.getD 51 undef = lv := by rw [e8, put_ne _ _ _ _ (by decide)]; exact t51
  have t52 : a8.tmps.getD 52 undef = iv := by rw [e8]; exact put_same _ _ _ (by omega)
  clear e8 z7
  refine wpAnyH_take (i := 8) (oi := { dst := some 53, op := Op.indexAddr 23 (Operand.tmp 51) (Operand.tmp 52), type := 0, pos := "law.go:194", after := #[{ on := 6, ground := Ground.data }, { on := 7, ground := Ground.data }], guard := none }) (v := .pointer (some ⟨b, p, none⟩)) rfl (by kernel_rfl) (by kernel_rfl) (by kernel_rfl) (fun _ _ _ h => h) (Or.inl ⟨by rfl, fun w1 hw => exec_indexAt rfl t51 t52 (G1 _)⟩) hHeld ?_
  change wpAnyH _ _ _ _ _ _ _ (a8.put (some 53) (.pointer (some ⟨b, p, none⟩))) _
  obtain ⟨a9, e9⟩ : ∃ act, act = a8.put (some 53) (.pointer (some ⟨b, p, none⟩)) := ⟨_, rfl⟩
  rw [← e9] at h ⊢
  have z9 : a9.tmps.size = 152 := by rw [e9, put_size]; exact z8
  replace t0 : a9.tmps.getD 0 undef = lv := by rw [e9, put_ne _ _ _ _ (by decide)]; exact t0
  replace t9 : a9.tmps.getD 9 undef = iv := by rw [e9, put_ne _ _ _ _ (by decide)]; exact t9
  replace t45 : a9.tmps.getD 45 undef = rv := by rw [e9, put_ne _ _ _ _ (by decide)]; exact t45
  replace t50 : a9.tmps.getD 50 undef = kv := by rw [e9, put_ne _ _ _ _ (by decide)]; exact t50
  clear t51
  clear t52
  have t53 : a9.tmps.getD 53 undef = .pointer (some ⟨b, p, none⟩) := by rw [e9]; exact put_same _ _ _ (by omega)
  clear e9 z8
  refine wpAnyH_take (i := 9) (oi := { dst := some 54, op := Op.fieldAddr 39 (Operand.tmp 53) 2, type := 0, pos := "law.go:194", after := #[{ on := 8, ground := Ground.data }], guard := none }) (v := .pointer (some ⟨b, p + 34, none⟩)) rfl (by kernel_rfl) (by kernel_rfl) (by kernel_rfl) (fun _ _ _ h => h) (Or.inl ⟨by rfl, fun w1 hw => exec_fieldAt rfl t53 (fg_39_2 _ _ _)⟩) hHeld ?_
  change wpAnyH _ _ _ _ _ _ _ (a9.put (some 54) (.pointer (some ⟨b, p + 34, none⟩))) _
  obtain ⟨a10, e10⟩ : ∃ act, act = a9.put (some 54) (.pointer (some ⟨b, p + 34, none⟩)) := ⟨_, rfl⟩
  rw [← e10] at h ⊢
  have z10 : a10.tmps.size = 152 := by rw [e10, put_size]; exact z9
  replace t0 : a10.tmps.getD 0 undef = lv := by rw [e10, put_ne _ _ _ _ (by decide)]; exact t0
  replace t9 : a10.tmps.getD 9 undef = iv := by rw [e10, put_ne _ _ _ _ (by decide)]; exact t9
  replace t45 : a10.tmps.getD 45 undef = rv := by rw [e10, put_ne _ _ _ _ (by decide)]; exact t45
  replace t50 : a10.tmps.getD 50 undef = kv := by rw [e10, put_ne _ _ _ _ (by decide)]; exact t50
  clear t53
  have t54 : a10.tmps.getD 54 undef = .pointer (some ⟨b, p + 34, none⟩) := by rw [e10]; exact put_same _ _ _ (by omega)
  clear e10 z9
  refine wpAnyH_take (i := 10) (oi := { dst := some 55, op := Op.load 37 (Operand.tmp 54), type := 37, pos := "law.go:194", after := #[{ on := 9, ground := Ground.data }], guard := none }) (v := uv) rfl (by kernel_rfl) (by kernel_rfl) (by kernel_rfl) (fun _ _ _ h => h) (Or.inl ⟨by rfl, fun w1 hw => exec_load rfl t54 (G3 _ hw)⟩) hHeld ?_
  change wpAnyH _ _ _ _ _ _ _ (a10.put (some 55) (uv)) _
  obtain ⟨a11, e11⟩ : ∃ act, act = a10.put (some 55) (uv) := ⟨_, rfl⟩
  rw [← e11] at h ⊢
  have z11 : a11.tmps.size = 152 := by rw [e11, put_size]; exact z10
  replace t0 : a11.tmps.getD 0 undef = lv := by rw [e11, put_ne _ _ _ _ (by decide)]; exact t0
  replace t9 : a11.tmps.getD 9 undef = iv := by rw [e11, put_ne _ _ _ _ (by decide)]; exact t9
  replace t45 : a11.tmps.getD 45 undef = rv := by rw [e11, put_ne _ _ _ _ (by decide)]; exact t45
  replace t50 : a11.tmps.getD 50 undef = kv := by rw [e11, put_ne _ _ _ _ (by decide)]; exact t50
  clear t54
  have t55 : a11.tmps.getD 55 undef = uv := by rw [e11]; exact put_same _ _ _ (by omega)
  clear e11 z10
  refine wpAnyH_take (i := 11) (oi := { dst := some 56, op := Op.move (Operand.tmp 0), type := 23, pos := "law.go:194", after := #[], guard := none }) (v := lv) rfl (by kernel_rfl) (by kernel_rfl) (by kernel_rfl) (fun _ _ _ h => h) (Or.inl ⟨by rfl, fun w1 hw => exec_move rfl t0⟩) hHeld ?_
  change wpAnyH _ _ _ _ _ _ _ (a11.put (some 56) (lv)) _
  obtain ⟨a12, e12⟩ : ∃ act, act = a11.put (some 56) (lv) := ⟨_, rfl⟩
  rw [← e12] at h ⊢
  have z12 : a12.tmps.size = 152 := by rw [e12, put_size]; exact z11
  clear t0
  replace t9 : a12.tmps.getD 9 undef = iv := by rw [e12, put_ne _ _ _ _ (by decide)]; exact t9
  replace t45 : a12.tmps.getD 45 undef = rv := by rw [e12, put_ne _ _ _ _ (by decide)]; exact t45
  replace t50 : a12.tmps.getD 50 undef = kv := by rw [e12, put_ne _ _ _ _ (by decide)]; exact t50
  replace t55 : a12.tmps.getD 55 undef = uv := by rw [e12, put_ne _ _ _ _ (by decide)]; exact t55
  have t56 : a12.tmps.getD 56 undef = lv := by rw [e12]; exact put_same _ _ _ (by omega)
  clear e12 z11
  refine wpAnyH_take (i := 12) (oi := { dst := some 57, op := Op.move (Operand.tmp 9), type := 3, pos := "law.go:194", after := #[], guard := none }) (v := iv) rfl (by kernel_rfl) (by kernel_rfl) (by kernel_rfl) (fun _ _ _ h => h) (Or.inl ⟨by rfl, fun w1 hw => exec_move rfl t9⟩) hHeld ?_
  change wpAnyH _ _ _ _ _ _ _ (a12.put (some 57) (iv)) _
  obtain ⟨a13, e13⟩ : ∃ act, act = a12.put (some 57) (iv) := ⟨_, rfl⟩
  rw [← e13] at h ⊢
  have z13 : a13.tmps.size = 152 := by rw [e13, put_size]; exact z12
  clear t9
  replace t45 : a13.tmps.getD 45 undef = rv := by rw [e13, put_ne _ _ _ _ (by decide)]; exact t45
  replace t50 : a13.tmps.getD 50 undef = kv := by rw [e13, put_ne _ _ _ _ (by decide)]; exact t50
  replace t55 : a13.tmps.getD 55 undef = uv := by rw [e13, put_ne _ _ _ _ (by decide)]; exact t55
  replace t56 : a13.tmps.getD 56 undef = lv := by rw [e13, put_ne _ _ _ _ (by decide)]; exact t56
  have t57 : a13.tmps.getD 57 undef = iv := by rw [e13]; exact put_same _ _ _ (by omega)
  clear e13 z12
  refine wpAnyH_take (i := 13) (oi := { dst := some 58, op := Op.indexAddr 23 (Operand.tmp 56) (Operand.tmp 57), type := 0, pos := "law.go:194", after := #[{ on := 11, ground := Ground.data }, { on := 12, ground := Ground.data }], guard := none }) (v := .pointer (some ⟨b, p, none⟩)) rfl (by kernel_rfl) (by kernel_rfl) (by kernel_rfl) (fun _ _ _ h => h) (Or.inl ⟨by rfl, fun w1 hw => exec_indexAt rfl t56 t57 (G1 _)⟩) hHeld ?_
  change wpAnyH _ _ _ _ _ _ _ (a13.put (some 58) (.pointer (some ⟨b, p, none⟩))) _
  obtain ⟨a14, e14⟩ : ∃ act, act = a13.put (some 58) (.pointer (some ⟨b, p, none⟩)) := ⟨_, rfl⟩
  rw [← e14] at h ⊢
  have z14 : a14.tmps.size = 152 := by rw [e14, put_size]; exact z13
  replace t45 : a14.tmps.getD 45 undef = rv := by rw [e14, put_ne _ _ _ _ (by decide)]; exact t45
  replace t50 : a14.tmps.getD 50 undef = kv := by rw [e14, put_ne _ _ _ _ (by decide)]; exact t50
  replace t55 : a14.tmps.getD 55 undef = uv := by rw [e14, put_ne _ _ _ _ (by decide)]; exact t55
  clear t56
  clear t57
  have t58 : a14.tmps.getD 58 undef = .pointer (some ⟨b, p, none⟩) := by rw [e14]; exact put_same _ _ _ (by omega)
  clear e14 z13
  refine wpAnyH_take (i := 14) (oi := { dst := some 59, op := Op.fieldAddr 39 (Operand.tmp 58) 3, type := 0, pos := "law.go:194", after := #[{ on := 13, ground := Ground.data }], guard := none }) (v := .pointer (some ⟨b, p + 67, none⟩)) rfl (by kernel_rfl) (by kernel_rfl) (by kernel_rfl) (fun _ _ _ h => h) (Or.inl ⟨by rfl, fun w1 hw => exec_fieldAt rfl t58 (fg_39_3 _ _ _)⟩) hHeld ?_
  change wpAnyH _ _ _ _ _ _ _ (a14.put (some 59) (.pointer (some ⟨b, p + 67, none⟩))) _
  obtain ⟨a15, e15⟩ : ∃ act, act = a14.put (some 59) (.pointer (some ⟨b, p + 67, none⟩)) := ⟨_, rfl⟩
  rw [← e15] at h ⊢
  have z15 : a15.tmps.size = 152 := by rw [e15, put_size]; exact z14
  replace t45 : a15.tmps.getD 45 undef = rv := by rw [e15, put_ne _ _ _ _ (by decide)]; exact t45
  replace t50 : a15.tmps.getD 50 undef = kv := by rw [e15, put_ne _ _ _ _ (by decide)]; exact t50
  replace t55 : a15.tmps.getD 55 undef = uv := by rw [e15, put_ne _ _ _ _ (by decide)]; exact t55
  clear t58
  have t59 : a15.tmps.getD 59 undef = .pointer (some ⟨b, p + 67, none⟩) := by rw [e15]; exact put_same _ _ _ (by omega)
  clear e15 z14
  refine wpAnyH_take (i := 15) (oi := { dst := some 60, op := Op.load 9 (Operand.tmp 59), type := 9, pos := "law.go:194", after := #[{ on := 14, ground := Ground.data }], guard := none }) (v := sv) rfl (by kernel_rfl) (by kernel_rfl) (by kernel_rfl) (fun _ _ _ h => h) (Or.inl ⟨by rfl, fun w1 hw => exec_load rfl t59 (G4 _ hw)⟩) hHeld ?_
  change wpAnyH _ _ _ _ _ _ _ (a15.put (some 60) (sv)) _
  obtain ⟨a16, e16⟩ : ∃ act, act = a15.put (some 60) (sv) := ⟨_, rfl⟩
  rw [← e16] at h ⊢
  have z16 : a16.tmps.size = 152 := by rw [e16, put_size]; exact z15
  replace t45 : a16.tmps.getD 45 undef = rv := by rw [e16, put_ne _ _ _ _ (by decide)]; exact t45
  replace t50 : a16.tmps.getD 50 undef = kv := by rw [e16, put_ne _ _ _ _ (by decide)]; exact t50
  replace t55 : a16.tmps.getD 55 undef = uv := by rw [e16, put_ne _ _ _ _ (by decide)]; exact t55
  clear t59
  have t60 : a16.tmps.getD 60 undef = sv := by rw [e16]; exact put_same _ _ _ (by omega)
  clear e16 z15
  refine wpAnyH_ready (rs := [16]) (by kernel_rfl) (by simp) ?_
  refine AllReadyH.cons (o := { dst := some 61, op := Op.call { callee := Callee.value (Operand.func 17), args := #[Operand.tmp 45, Operand.tmp 50, Operand.tmp 55, Operand.tmp 60], argTypes := #[25, 37, 37, 9] }, type := 47, pos := "law.go:194", after := #[{ on := 0, ground := Ground.data }, { on := 5, ground := Ground.data }, { on := 10, ground := Ground.data }, { on := 15, ground := Ground.data }], guard := none }) rfl (fun K hK => ?_) AllReadyH.nil
  rw [if_pos (by rfl)]
  go_simp
  refine (C _ hHeld).mono ?_
  rintro e x17 ⟨t, v, rfl, hs, hq⟩
  try go_wp2_with fail
  replace h := h t v
  refine hK.out _ _ (hs) (fun hHeld => ?_)
  clear hK K
  change wpAnyH _ _ _ _ _ _ _ (a16.put (some 61) (.tuple #[t, v])) _
  obtain ⟨a17, e17⟩ : ∃ act, act = a16.put (some 61) (.tuple #[t, v]) := ⟨_, rfl⟩
  rw [← e17] at h ⊢
  have z17 : a17.tmps.size = 152 := by rw [e17, put_size]; exact z16
  clear t45
  clear t50
  clear t55
  clear t60
  have t61 : a17.tmps.getD 61 undef = .tuple #[t, v] := by rw [e17]; exact put_same _ _ _ (by omega)
  clear e17 z16
  refine wpAnyH_take (i := 17) (oi := { dst := some 44, op := Op.move (Operand.tmp 61), type := 47, pos := "law.go:194", after := #[{ on := 16, ground := Ground.data }], guard := none }) (v := .tuple #[t, v]) rfl (by kernel_rfl) (by kernel_rfl) (by kernel_rfl) (fun _ _ _ h => h) (Or.inl ⟨by rfl, fun w1 hw => exec_move rfl t61⟩) hHeld ?_
  change wpAnyH _ _ _ _ _ _ _ (a17.put (some 44) (.tuple #[t, v])) _
  obtain ⟨a18, e18⟩ : ∃ act, act = a17.put (some 44) (.tuple #[t, v]) := ⟨_, rfl⟩
  rw [← e18] at h ⊢
  have z18 : a18.tmps.size = 152 := by rw [e18, put_size]; exact z17
  clear t61
  have t44 : a18.tmps.getD 44 undef = .tuple #[t, v] := by rw [e18]; exact put_same _ _ _ (by omega)
  clear e18 z17
  refine wpAnyH_take (i := 18) (oi := { dst := some 62, op := Op.extract (Operand.tmp 44) 0, type := 45, pos := "law.go:194", after := #[{ on := 17, ground := Ground.data }], guard := none }) (v := t) rfl (by kernel_rfl) (by kernel_rfl) (by kernel_rfl) (fun _ _ _ h => h) (Or.inl ⟨by rfl, fun w1 hw => exec_extract rfl t44 rfl⟩) hHeld ?_
  change wpAnyH _ _ _ _ _ _ _ (a18.put (some 62) (t)) _
  obtain ⟨a19, e19⟩ : ∃ act, act = a18.put (some 62) (t) := ⟨_, rfl⟩
  rw [← e19] at h ⊢
  have z19 : a19.tmps.size = 152 := by rw [e19, put_size]; exact z18
  replace t44 : a19.tmps.getD 44 undef = .tuple #[t, v] := by rw [e19, put_ne _ _ _ _ (by decide)]; exact t44
  have t62 : a19.tmps.getD 62 undef = t := by rw [e19]; exact put_same _ _ _ (by omega)
  clear e19 z18
  refine wpAnyH_take (i := 19) (oi := { dst := some 63, op := Op.extract (Operand.tmp 44) 1, type := 46, pos := "law.go:194", after := #[{ on := 17, ground := Ground.data }, { on := 20, ground := Ground.gcOnly Departure.lateStores }], guard := none }) (v := v) rfl (by kernel_rfl) (by kernel_rfl) (by kernel_rfl) (fun _ _ _ h => h) (Or.inl ⟨by rfl, fun w1 hw => exec_extract rfl t44 rfl⟩) hHeld ?_
  change wpAnyH _ _ _ _ _ _ _ (a19.put (some 63) (v)) _
  obtain ⟨a20, e20⟩ : ∃ act, act = a19.put (some 63) (v) := ⟨_, rfl⟩
  rw [← e20] at h ⊢
  have z20 : a20.tmps.size = 152 := by rw [e20, put_size]; exact z19
  clear t44
  replace t62 : a20.tmps.getD 62 undef = t := by rw [e20, put_ne _ _ _ _ (by decide)]; exact t62
  have t63 : a20.tmps.getD 63 undef = v := by rw [e20]; exact put_same _ _ _ (by omega)
  clear e20 z19
  refine wpAnyH_take (i := 20) (oi := { dst := some 10, op := Op.assign (Operand.tmp 62), type := 45, pos := "law.go:194", after := #[{ on := 18, ground := Ground.data }, { on := 16, ground := Ground.chain }, { on := 0, ground := Ground.phase }, { on := 1, ground := Ground.phase }, { on := 2, ground := Ground.phase }, { on := 3, ground := Ground.phase }, { on := 4, ground := Ground.phase }, { on := 5, ground := Ground.phase }, { on := 6, ground := Ground.phase }, { on := 7, ground := Ground.phase }, { on := 8, ground := Ground.phase }, { on := 9, ground := Ground.phase }, { on := 10, ground := Ground.phase }, { on := 11, ground := Ground.phase }, { on := 12, ground := Ground.phase }, { on := 13, ground := Ground.phase }, { on := 14, ground := Ground.phase }, { on := 15, ground := Ground.phase }, { on := 16, ground := Ground.phase }, { on := 17, ground := Ground.phase }, { on := 18, ground := Ground.phase }, { on := 19, ground := Ground.textOnly Departure.lateStores }], guard := none }) (v := t) rfl (by kernel_rfl) (by kernel_rfl) (by kernel_rfl) (fun _ _ _ h => h) (Or.inl ⟨by rfl, fun w1 hw => exec_assign rfl t62⟩) hHeld ?_
  change wpAnyH _ _ _ _ _ _ _ (a20.put (some 10) (t)) _
  obtain ⟨a21, e21⟩ : ∃ act, act = a20.put (some 10) (t) := ⟨_, rfl⟩
  rw [← e21] at h ⊢
  have z21 : a21.tmps.size = 152 := by rw [e21, put_size]; exact z20
  clear t62
  replace t63 : a21.tmps.getD 63 undef = v := by rw [e21, put_ne _ _ _ _ (by decide)]; exact t63
  clear e21 z20
  refine wpAnyH_take (i := 21) (oi := { dst := some 11, op := Op.assign (Operand.tmp 63), type := 46, pos := "law.go:194", after := #[{ on := 19, ground := Ground.data }, { on := 20, ground := Ground.chain }, { on := 0, ground := Ground.phase }, { on := 1, ground := Ground.phase }, { on := 2, ground := Ground.phase }, { on := 3, ground := Ground.phase }, { on := 4, ground := Ground.phase }, { on := 5, ground := Ground.phase }, { on := 6, ground := Ground.phase }, { on := 7, ground := Ground.phase }, { on := 8, ground := Ground.phase }, { on := 9, ground := Ground.phase }, { on := 10, ground := Ground.phase }, { on := 11, ground := Ground.phase }, { on := 12, ground := Ground.phase }, { on := 13, ground := Ground.phase }, { on := 14, ground := Ground.phase }, { on := 15, ground := Ground.phase }, { on := 16, ground := Ground.phase }, { on := 17, ground := Ground.phase }, { on := 18, ground := Ground.phase }, { on := 19, ground := Ground.phase }, { on := 20, ground := Ground.phase }], guard := none }) (v := v) rfl (by kernel_rfl) (by kernel_rfl) (by kernel_rfl) (fun _ _ _ h => h) (Or.inl ⟨by rfl, fun w1 hw => exec_assign rfl t63⟩) hHeld ?_
  change wpAnyH _ _ _ _ _ _ _ (a21.put (some 11) (v)) _
  obtain ⟨a22, e22⟩ : ∃ act, act = a21.put (some 11) (v) := ⟨_, rfl⟩
  rw [← e22] at h ⊢
  have z22 : a22.tmps.size = 152 := by rw [e22, put_size]; exact z21
  clear t63
  clear e22 z21
  exact wpAnyH_done (by kernel_rfl) (NoPanic.normal (h _ _ (hq) rfl)) _
def none16_ops : Array Oper := #[{ dst := some 71, op := Op.move (Operand.tmp 3), type := 25, pos := "law.go:198", after := #[], guard := none }, { dst := some 72, op := Op.move (Operand.tmp 0), type := 23, pos := "law.go:198", after := #[], guard := none }, { dst := some 73, op := Op.move (Operand.tmp 9), type := 3, pos := "law.go:198", after := #[], guard := none }, { dst := some 74, op := Op.indexAddr 23 (Operand.tmp 72) (Operand.tmp 73), type := 0, pos := "law.go:198", after := #[{ on := 1, ground := Ground.data }, { on := 2, ground := Ground.data }], guard := none }, { dst := some 75, op := Op.fieldAddr 39 (Operand.tmp 74) 1, type := 0, pos := "law.go:198", after := #[{ on := 3, ground := Ground.data }], guard := none }, { dst := some 76, op := Op.load 37 (Operand.tmp 75), type := 37, pos := "law.go:198", after := #[{ on := 4, ground := Ground.data }], guard := none }, { dst := some 77, op := Op.move (Operand.tmp 0), type := 23, pos := "law.go:198", after := #[], guard := none }, { dst := some 78, op := Op.move (Operand.tmp 9), type := 3, pos := "law.go:198", after := #[], guard := none }, { dst := some 79, op := Op.indexAddr 23 (Operand.tmp 77) (Operand.tmp 78), type := 0, pos := "law.go:198", after := #[{ on := 6, ground := Ground.data }, { on := 7, ground := Ground.data }], guard := none }, { dst := some 80, op := Op.fieldAddr 39 (Operand.tmp 79) 2, type := 0, pos := "law.go:198", after := #[{ on := 8, ground := Ground.data }], guard := none }, { dst := some 81, op := Op.load 37 (Operand.tmp 80), type := 37, pos := "law.go:198", after := #[{ on := 9, ground := Ground.data }], guard := none }, { dst := some 82, op := Op.move (Operand.tmp 0), type := 23, pos := "law.go:198", after := #[], guard := none }, { dst := some 83, op := Op.move (Operand.tmp 9), type := 3, pos := "law.go:198", after := #[], guard := none }, { dst := some 84, op := Op.indexAddr 23 (Operand.tmp 82) (Operand.tmp 83), type := 0, pos := "law.go:198", after := #[{ on := 11, ground := Ground.data }, { on := 12, ground := Ground.data }], guard := none }, { dst := some 85, op := Op.fieldAddr 39 (Operand.tmp 84) 3, type := 0, pos := "law.go:198", after := #[{ on := 13, ground := Ground.data }], guard := none }, { dst := some 86, op := Op.load 9 (Operand.tmp 85), type := 9, pos := "law.go:198", after := #[{ on := 14, ground := Ground.data }], guard := none }, { dst := some 87, op := Op.call { callee := Callee.value (Operand.func 19), args := #[Operand.tmp 71, Operand.tmp 76, Operand.tmp 81, Operand.tmp 86], argTypes := #[25, 37, 37, 9] }, type := 47, pos := "law.go:198", after := #[{ on := 0, ground := Ground.data }, { on := 5, ground := Ground.data }, { on := 10, ground := Ground.data }, { on := 15, ground := Ground.data }], guard := none }, { dst := some 70, op := Op.move (Operand.tmp 87), type := 47, pos := "law.go:198", after := #[{ on := 16, ground := Ground.data }], guard := none }, { dst := some 88, op := Op.extract (Operand.tmp 70) 0, type := 45, pos := "law.go:198", after := #[{ on := 17, ground := Ground.data }], guard := none }, { dst := some 89, op := Op.extract (Operand.tmp 70) 1, type := 46, pos := "law.go:198", after := #[{ on := 17, ground := Ground.data }, { on := 20, ground := Ground.gcOnly Departure.lateStores }], guard := none }, { dst := some 10, op := Op.assign (Operand.tmp 88), type := 45, pos := "law.go:198", after := #[{ on := 18, ground := Ground.data }, { on := 16, ground := Ground.chain }, { on := 0, ground := Ground.phase }, { on := 1, ground := Ground.phase }, { on := 2, ground := Ground.phase }, { on := 3, ground := Ground.phase }, { on := 4, ground := Ground.phase }, { on := 5, ground := Ground.phase }, { on := 6, ground := Ground.phase }, { on := 7, ground := Ground.phase }, { on := 8, ground := Ground.phase }, { on := 9, ground := Ground.phase }, { on := 10, ground := Ground.phase }, { on := 11, ground := Ground.phase }, { on := 12, ground := Ground.phase }, { on := 13, ground := Ground.phase }, { on := 14, ground := Ground.phase }, { on := 15, ground := Ground.phase }, { on := 16, ground := Ground.phase }, { on := 17, ground := Ground.phase }, { on := 18, ground := Ground.phase }, { on := 19, ground := Ground.textOnly Departure.lateStores }], guard := none }, { dst := some 11, op := Op.assign (Operand.tmp 89), type := 46, pos := "law.go:198", after := #[{ on := 19, ground := Ground.data }, { on := 20, ground := Ground.chain }, { on := 0, ground := Ground.phase }, { on := 1, ground := Ground.phase }, { on := 2, ground := Ground.phase }, { on := 3, ground := Ground.phase }, { on := 4, ground := Ground.phase }, { on := 5, ground := Ground.phase }, { on := 6, ground := Ground.phase }, { on := 7, ground := Ground.phase }, { on := 8, ground := Ground.phase }, { on := 9, ground := Ground.phase }, { on := 10, ground := Ground.phase }, { on := 11, ground := Ground.phase }, { on := 12, ground := Ground.phase }, { on := 13, ground := Ground.phase }, { on := 14, ground := Ground.phase }, { on := 15, ground := Ground.phase }, { on := 16, ground := Ground.phase }, { on := 17, ground := Ground.phase }, { on := 18, ground := Ground.phase }, { on := 19, ground := Ground.phase }, { on := 20, ground := Ground.phase }], guard := none }]
set_option maxRecDepth 100000 in
set_option maxHeartbeats 4000000 in
theorem none16 (S : World → Prop) (Po : Value → Value → World → Prop) (b p : Nat) (rv lv iv kv uv sv : Value) (a : Act) (w : World) (Q : Exit → Act → World → Prop) (hsz : a.tmps.size = 152)
    (t3 : a.tmps.getD 3 undef = rv)
    (t0 : a.tmps.getD 0 undef = lv)
    (t9 : a.tmps.getD 9 undef = iv)
    (h0 : S w.drew)
    (C : ∀ W, S W → Calls Try.prog 19 #[rv, kv, uv, sv] W fun e w' => ∃ t v, e = .returned (.tuple #[t, v]) ∧ S w' ∧ Po t v w')
    (G1 : ∀ W, (Instr.indexAt 23 (lv) (iv)).run Try.prog W = .ok (.pointer (some ⟨b, p, none⟩)) W)
    (G2 : ∀ W, S W → (Instr.loadAt 37 (.pointer (some ⟨b, p + 1, none⟩))).run Try.prog W = .ok (kv) W)
    (G3 : ∀ W, S W → (Instr.loadAt 37 (.pointer (some ⟨b, p + 34, none⟩))).run Try.prog W = .ok (uv) W)
    (G4 : ∀ W, S W → (Instr.loadAt 9 (.pointer (some ⟨b, p + 67, none⟩))).run Try.prog W = .ok (sv) W)
    (h : ∀ (t v : Value) (a' : Act) (w' : World), Po t v w' → a' = ((((((((((((((((((((((a).put (some 71) (rv)).put (some 72) (lv)).put (some 73) (iv)).put (some 74) (.pointer (some ⟨b, p, none⟩))).put (some 75) (.pointer (some ⟨b, p + 1, none⟩))).put (some 76) (kv)).put (some 77) (lv)).put (some 78) (iv)).put (some 79) (.pointer (some ⟨b, p, none⟩))).put (some 80) (.pointer (some ⟨b, p + 34, none⟩))).put (some 81) (uv)).put (some 82) (lv)).put (some 83) (iv)).put (some 84) (.pointer (some ⟨b, p, none⟩))).put (some 85) (.pointer (some ⟨b, p + 67, none⟩))).put (some 86) (sv)).put (some 87) (.tuple #[t, v])).put (some 70) (.tuple #[t, v])).put (some 88) (t)).put (some 89) (v)).put (some 10) (t)).put (some 11) (v) → Q .normal a' w') :
    (Code.region 16 none16_ops true).wp Try.prog Q a w := by
  refine wp_region_noPanic ?_
  refine wp_region_held_drew (S := fun w' => S w') (by kernel_rfl) (h0) (fun hHeld => ?_)
  refine wpAnyH_take (i := 0) (oi := { dst := some 71, op := Op.move (Operand.tmp 3), type := 25, pos := "law.go:198", after := #[], guard := none }) (v := rv) rfl (by kernel_rfl) (by kernel_rfl) (by kernel_rfl) (fun _ _ _ h => h) (Or.inl ⟨by rfl, fun w1 hw => exec_move rfl t3⟩) hHeld ?_
  change wpAnyH _ _ _ _ _ _ _ (a.put (some 71) (rv)) _
  obtain ⟨a1, e1⟩ : ∃ act, act = a.put (some 71) (rv) := ⟨_, rfl⟩
  rw [← e1] at h ⊢
  have z1 : a1.tmps.size = 152 := by rw [e1, put_size]; exact hsz
  clear t3
  replace t0 : a1.tmps.getD 0 undef = lv := by rw [e1, put_ne _ _ _ _ (by decide)]; exact t0
  replace t9 : a1.tmps.getD 9 undef = iv := by rw [e1, put_ne _ _ _ _ (by decide)]; exact t9
  have t71 : a1.tmps.getD 71 undef = rv := by rw [e1]; exact put_same _ _ _ (by omega)
  clear e1 hsz
  refine wpAnyH_take (i := 1) (oi := { dst := some 72, op := Op.move (Operand.tmp 0), type := 23, pos := "law.go:198", after := #[], guard := none }) (v := lv) rfl (by kernel_rfl) (by kernel_rfl) (by kernel_rfl) (fun _ _ _ h => h) (Or.inl ⟨by rfl, fun w1 hw => exec_move rfl t0⟩) hHeld ?_
  change wpAnyH _ _ _ _ _ _ _ (a1.put (some 72) (lv)) _
  obtain ⟨a2, e2⟩ : ∃ act, act = a1.put (some 72) (lv) := ⟨_, rfl⟩
  rw [← e2] at h ⊢
  have z2 : a2.tmps.size = 152 := by rw [e2, put_size]; exact z1
  replace t0 : a2.tmps.getD 0 undef = lv := by rw [e2, put_ne _ _ _ _ (by decide)]; exact t0
  replace t9 : a2.tmps.getD 9 undef = iv := by rw [e2, put_ne _ _ _ _ (by decide)]; exact t9
  replace t71 : a2.tmps.getD 71 undef = rv := by rw [e2, put_ne _ _ _ _ (by decide)]; exact t71
  have t72 : a2.tmps.getD 72 undef = lv := by rw [e2]; exact put_same _ _ _ (by omega)
  clear e2 z1
  refine wpAnyH_take (i := 2) (oi := { dst := some 73, op := Op.move (Operand.tmp 9), type := 3, pos := "law.go:198", after := #[], guard := none }) (v := iv) rfl (by kernel_rfl) (by kernel_rfl) (by kernel_rfl) (fun _ _ _ h => h) (Or.inl ⟨by rfl, fun w1 hw => exec_move rfl t9⟩) hHeld ?_
  change wpAnyH _ _ _ _ _ _ _ (a2.put (some 73) (iv)) _
  obtain ⟨a3, e3⟩ : ∃ act, act = a2.put (some 73) (iv) := ⟨_, rfl⟩
  rw [← e3] at h ⊢
  have z3 : a3.tmps.size = 152 := by rw [e3, put_size]; exact z2
  replace t0 : a3.tmps.getD 0 undef = lv := by rw [e3, put_ne _ _ _ _ (by decide)]; exact t0
  replace t9 : a3.tmps.getD 9 undef = iv := by rw [e3, put_ne _ _ _ _ (by decide)]; exact t9
  replace t71 : a3.tmps.getD 71 undef = rv := by rw [e3, put_ne _ _ _ _ (by decide)]; exact t71
  replace t72 : a3.tmps.getD 72 undef = lv := by rw [e3, put_ne _ _ _ _ (by decide)]; exact t72
  have t73 : a3.tmps.getD 73 undef = iv := by rw [e3]; exact put_same _ _ _ (by omega)
  clear e3 z2
  refine wpAnyH_take (i := 3) (oi := { dst := some 74, op := Op.indexAddr 23 (Operand.tmp 72) (Operand.tmp 73), type := 0, pos := "law.go:198", after := #[{ on := 1, ground := Ground.data }, { on := 2, ground := Ground.data }], guard := none }) (v := .pointer (some ⟨b, p, none⟩)) rfl (by kernel_rfl) (by kernel_rfl) (by kernel_rfl) (fun _ _ _ h => h) (Or.inl ⟨by rfl, fun w1 hw => exec_indexAt rfl t72 t73 (G1 _)⟩) hHeld ?_
  change wpAnyH _ _ _ _ _ _ _ (a3.put (some 74) (.pointer (some ⟨b, p, none⟩))) _
  obtain ⟨a4, e4⟩ : ∃ act, act = a3.put (some 74) (.pointer (some ⟨b, p, none⟩)) := ⟨_, rfl⟩
  rw [← e4] at h ⊢
  have z4 : a4.tmps.size = 152 := by rw [e4, put_size]; exact z3
  replace t0 : a4.tmps.getD 0 undef = lv := by rw [e4, put_ne _ _ _ _ (by decide)]; exact t0
  replace t9 : a4.tmps.getD 9 undef = iv := by rw [e4, put_ne _ _ _ _ (by decide)]; exact t9
  replace t71 : a4.tmps.getD 71 undef = rv := by rw [e4, put_ne _ _ _ _ (by decide)]; exact t71
  clear t72
  clear t73
  have t74 : a4.tmps.getD 74 undef = .pointer (some ⟨b, p, none⟩) := by rw [e4]; exact put_same _ _ _ (by omega)
  clear e4 z3
  refine wpAnyH_take (i := 4) (oi := { dst := some 75, op := Op.fieldAddr 39 (Operand.tmp 74) 1, type := 0, pos := "law.go:198", after := #[{ on := 3, ground := Ground.data }], guard := none }) (v := .pointer (some ⟨b, p + 1, none⟩)) rfl (by kernel_rfl) (by kernel_rfl) (by kernel_rfl) (fun _ _ _ h => h) (Or.inl ⟨by rfl, fun w1 hw => exec_fieldAt rfl t74 (fg_39_1 _ _ _)⟩) hHeld ?_
  change wpAnyH _ _ _ _ _ _ _ (a4.put (some 75) (.pointer (some ⟨b, p + 1, none⟩))) _
  obtain ⟨a5, e5⟩ : ∃ act, act = a4.put (some 75) (.pointer (some ⟨b, p + 1, none⟩)) := ⟨_, rfl⟩
  rw [← e5] at h ⊢
  have z5 : a5.tmps.size = 152 := by rw [e5, put_size]; exact z4
  replace t0 : a5.tmps.getD 0 undef = lv := by rw [e5, put_ne _ _ _ _ (by decide)]; exact t0
  replace t9 : a5.tmps.getD 9 undef = iv := by rw [e5, put_ne _ _ _ _ (by decide)]; exact t9
  replace t71 : a5.tmps.getD 71 undef = rv := by rw [e5, put_ne _ _ _ _ (by decide)]; exact t71
  clear t74
  have t75 : a5.tmps.getD 75 undef = .pointer (some ⟨b, p + 1, none⟩) := by rw [e5]; exact put_same _ _ _ (by omega)
  clear e5 z4
  refine wpAnyH_take (i := 5) (oi := { dst := some 76, op := Op.load 37 (Operand.tmp 75), type := 37, pos := "law.go:198", after := #[{ on := 4, ground := Ground.data }], guard := none }) (v := kv) rfl (by kernel_rfl) (by kernel_rfl) (by kernel_rfl) (fun _ _ _ h => h) (Or.inl ⟨by rfl, fun w1 hw => exec_load rfl t75 (G2 _ hw)⟩) hHeld ?_
  change wpAnyH _ _ _ _ _ _ _ (a5.put (some 76) (kv)) _
  obtain ⟨a6, e6⟩ : ∃ act, act = a5.put (some 76) (kv) := ⟨_, rfl⟩
  rw [← e6] at h ⊢
  have z6 : a6.tmps.size = 152 := by rw [e6, put_size]; exact z5
  replace t0 : a6.tmps.getD 0 undef = lv := by rw [e6, put_ne _ _ _ _ (by decide)]; exact t0
  replace t9 : a6.tmps.getD 9 undef = iv := by rw [e6, put_ne _ _ _ _ (by decide)]; exact t9
  replace t71 : a6.tmps.getD 71 undef = rv := by rw [e6, put_ne _ _ _ _ (by decide)]; exact t71
  clear t75
  have t76 : a6.tmps.getD 76 undef = kv := by rw [e6]; exact put_same _ _ _ (by omega)
  clear e6 z5
  refine wpAnyH_take (i := 6) (oi := { dst := some 77, op := Op.move (Operand.tmp 0), type := 23, pos := "law.go:198", after := #[], guard := none }) (v := lv) rfl (by kernel_rfl) (by kernel_rfl) (by kernel_rfl) (fun _ _ _ h => h) (Or.inl ⟨by rfl, fun w1 hw => exec_move rfl t0⟩) hHeld ?_
  change wpAnyH _ _ _ _ _ _ _ (a6.put (some 77) (lv)) _
  obtain ⟨a7, e7⟩ : ∃ act, act = a6.put (some 77) (lv) := ⟨_, rfl⟩
  rw [← e7] at h ⊢
  have z7 : a7.tmps.size = 152 := by rw [e7, put_size]; exact z6
  replace t0 : a7.tmps.getD 0 undef = lv := by rw [e7, put_ne _ _ _ _ (by decide)]; exact t0
  replace t9 : a7.tmps.getD 9 undef = iv := by rw [e7, put_ne _ _ _ _ (by decide)]; exact t9
  replace t71 : a7.tmps.getD 71 undef = rv := by rw [e7, put_ne _ _ _ _ (by decide)]; exact t71
  replace t76 : a7.tmps.getD 76 undef = kv := by rw [e7, put_ne _ _ _ _ (by decide)]; exact t76
  have t77 : a7.tmps.getD 77 undef = lv := by rw [e7]; exact put_same _ _ _ (by omega)
  clear e7 z6
  refine wpAnyH_take (i := 7) (oi := { dst := some 78, op := Op.move (Operand.tmp 9), type := 3, pos := "law.go:198", after := #[], guard := none }) (v := iv) rfl (by kernel_rfl) (by kernel_rfl) (by kernel_rfl) (fun _ _ _ h => h) (Or.inl ⟨by rfl, fun w1 hw => exec_move rfl t9⟩) hHeld ?_
  change wpAnyH _ _ _ _ _ _ _ (a7.put (some 78) (iv)) _
  obtain ⟨a8, e8⟩ : ∃ act, act = a7.put (some 78) (iv) := ⟨_, rfl⟩
  rw [← e8] at h ⊢
  have z8 : a8.tmps.size = 152 := by rw [e8, put_size]; exact z7
  replace t0 : a8.tmps.getD 0 undef = lv := by rw [e8, put_ne _ _ _ _ (by decide)]; exact t0
  replace t9 : a8.tmps.getD 9 undef = iv := by rw [e8, put_ne _ _ _ _ (by decide)]; exact t9
  replace t71 : a8.tmps.getD 71 undef = rv := by rw [e8, put_ne _ _ _ _ (by decide)]; exact t71
  replace t76 : a8.tmps.getD 76 undef = kv := by rw [e8, put_ne _ _ _ _ (by decide)]; exact t76
  replace t77 : a8.tmps.getD 77 undef = lv := by rw [e8, put_ne _ _ _ _ (by decide)]; exact t77
  have t78 : a8.tmps.getD 78 undef = iv := by rw [e8]; exact put_same _ _ _ (by omega)
  clear e8 z7
  refine wpAnyH_take (i := 8) (oi := { dst := some 79, op := Op.indexAddr 23 (Operand.tmp 77) (Operand.tmp 78), type := 0, pos := "law.go:198", after := #[{ on := 6, ground := Ground.data }, { on := 7, ground := Ground.data }], guard := none }) (v := .pointer (some ⟨b, p, none⟩)) rfl (by kernel_rfl) (by kernel_rfl) (by kernel_rfl) (fun _ _ _ h => h) (Or.inl ⟨by rfl, fun w1 hw => exec_indexAt rfl t77 t78 (G1 _)⟩) hHeld ?_
  change wpAnyH _ _ _ _ _ _ _ (a8.put (some 79) (.pointer (some ⟨b, p, none⟩))) _
  obtain ⟨a9, e9⟩ : ∃ act, act = a8.put (some 79) (.pointer (some ⟨b, p, none⟩)) := ⟨_, rfl⟩
  rw [← e9] at h ⊢
  have z9 : a9.tmps.size = 152 := by rw [e9, put_size]; exact z8
  replace t0 : a9.tmps.getD 0 undef = lv := by rw [e9, put_ne _ _ _ _ (by decide)]; exact t0
  replace t9 : a9.tmps.getD 9 undef = iv := by rw [e9, put_ne _ _ _ _ (by decide)]; exact t9
  replace t71 : a9.tmps.getD 71 undef = rv := by rw [e9, put_ne _ _ _ _ (by decide)]; exact t71
  replace t76 : a9.tmps.getD 76 undef = kv := by rw [e9, put_ne _ _ _ _ (by decide)]; exact t76
  clear t77
  clear t78
  have t79 : a9.tmps.getD 79 undef = .pointer (some ⟨b, p, none⟩) := by rw [e9]; exact put_same _ _ _ (by omega)
  clear e9 z8
  refine wpAnyH_take (i := 9) (oi := { dst := some 80, op := Op.fieldAddr 39 (Operand.tmp 79) 2, type := 0, pos := "law.go:198", after := #[{ on := 8, ground := Ground.data }], guard := none }) (v := .pointer (some ⟨b, p + 34, none⟩)) rfl (by kernel_rfl) (by kernel_rfl) (by kernel_rfl) (fun _ _ _ h => h) (Or.inl ⟨by rfl, fun w1 hw => exec_fieldAt rfl t79 (fg_39_2 _ _ _)⟩) hHeld ?_
  change wpAnyH _ _ _ _ _ _ _ (a9.put (some 80) (.pointer (some ⟨b, p + 34, none⟩))) _
  obtain ⟨a10, e10⟩ : ∃ act, act = a9.put (some 80) (.pointer (some ⟨b, p + 34, none⟩)) := ⟨_, rfl⟩
  rw [← e10] at h ⊢
  have z10 : a10.tmps.size = 152 := by rw [e10, put_size]; exact z9
  replace t0 : a10.tmps.getD 0 undef = lv := by rw [e10, put_ne _ _ _ _ (by decide)]; exact t0
  replace t9 : a10.tmps.getD 9 undef = iv := by rw [e10, put_ne _ _ _ _ (by decide)]; exact t9
  replace t71 : a10.tmps.getD 71 undef = rv := by rw [e10, put_ne _ _ _ _ (by decide)]; exact t71
  replace t76 : a10.tmps.getD 76 undef = kv := by rw [e10, put_ne _ _ _ _ (by decide)]; exact t76
  clear t79
  have t80 : a10.tmps.getD 80 undef = .pointer (some ⟨b, p + 34, none⟩) := by rw [e10]; exact put_same _ _ _ (by omega)
  clear e10 z9
  refine wpAnyH_take (i := 10) (oi := { dst := some 81, op := Op.load 37 (Operand.tmp 80), type := 37, pos := "law.go:198", after := #[{ on := 9, ground := Ground.data }], guard := none }) (v := uv) rfl (by kernel_rfl) (by kernel_rfl) (by kernel_rfl) (fun _ _ _ h => h) (Or.inl ⟨by rfl, fun w1 hw => exec_load rfl t80 (G3 _ hw)⟩) hHeld ?_
  change wpAnyH _ _ _ _ _ _ _ (a10.put (some 81) (uv)) _
  obtain ⟨a11, e11⟩ : ∃ act, act = a10.put (some 81) (uv) := ⟨_, rfl⟩
  rw [← e11] at h ⊢
  have z11 : a11.tmps.size = 152 := by rw [e11, put_size]; exact z10
  replace t0 : a11.tmps.getD 0 undef = lv := by rw [e11, put_ne _ _ _ _ (by decide)]; exact t0
  replace t9 : a11.tmps.getD 9 undef = iv := by rw [e11, put_ne _ _ _ _ (by decide)]; exact t9
  replace t71 : a11.tmps.getD 71 undef = rv := by rw [e11, put_ne _ _ _ _ (by decide)]; exact t71
  replace t76 : a11.tmps.getD 76 undef = kv := by rw [e11, put_ne _ _ _ _ (by decide)]; exact t76
  clear t80
  have t81 : a11.tmps.getD 81 undef = uv := by rw [e11]; exact put_same _ _ _ (by omega)
  clear e11 z10
  refine wpAnyH_take (i := 11) (oi := { dst := some 82, op := Op.move (Operand.tmp 0), type := 23, pos := "law.go:198", after := #[], guard := none }) (v := lv) rfl (by kernel_rfl) (by kernel_rfl) (by kernel_rfl) (fun _ _ _ h => h) (Or.inl ⟨by rfl, fun w1 hw => exec_move rfl t0⟩) hHeld ?_
  change wpAnyH _ _ _ _ _ _ _ (a11.put (some 82) (lv)) _
  obtain ⟨a12, e12⟩ : ∃ act, act = a11.put (some 82) (lv) := ⟨_, rfl⟩
  rw [← e12] at h ⊢
  have z12 : a12.tmps.size = 152 := by rw [e12, put_size]; exact z11
  clear t0
  replace t9 : a12.tmps.getD 9 undef = iv := by rw [e12, put_ne _ _ _ _ (by decide)]; exact t9
  replace t71 : a12.tmps.getD 71 undef = rv := by rw [e12, put_ne _ _ _ _ (by decide)]; exact t71
  replace t76 : a12.tmps.getD 76 undef = kv := by rw [e12, put_ne _ _ _ _ (by decide)]; exact t76
  replace t81 : a12.tmps.getD 81 undef = uv := by rw [e12, put_ne _ _ _ _ (by decide)]; exact t81
  have t82 : a12.tmps.getD 82 undef = lv := by rw [e12]; exact put_same _ _ _ (by omega)
  clear e12 z11
  refine wpAnyH_take (i := 12) (oi := { dst := some 83, op := Op.move (Operand.tmp 9), type := 3, pos := "law.go:198", after := #[], guard := none }) (v := iv) rfl (by kernel_rfl) (by kernel_rfl) (by kernel_rfl) (fun _ _ _ h => h) (Or.inl ⟨by rfl, fun w1 hw => exec_move rfl t9⟩) hHeld ?_
  change wpAnyH _ _ _ _ _ _ _ (a12.put (some 83) (iv)) _
  obtain ⟨a13, e13⟩ : ∃ act, act = a12.put (some 83) (iv) := ⟨_, rfl⟩
  rw [← e13] at h ⊢
  have z13 : a13.tmps.size = 152 := by rw [e13, put_size]; exact z12
  clear t9
  replace t71 : a13.tmps.getD 71 undef = rv := by rw [e13, put_ne _ _ _ _ (by decide)]; exact t71
  replace t76 : a13.tmps.getD 76 undef = kv := by rw [e13, put_ne _ _ _ _ (by decide)]; exact t76
  replace t81 : a13.tmps.getD 81 undef = uv := by rw [e13, put_ne _ _ _ _ (by decide)]; exact t81
  replace t82 : a13.tmps.getD 82 undef = lv := by rw [e13, put_ne _ _ _ _ (by decide)]; exact t82
  have t83 : a13.tmps.getD 83 undef = iv := by rw [e13]; exact put_same _ _ _ (by omega)
  clear e13 z12
  refine wpAnyH_take (i := 13) (oi := { dst := some 84, op := Op.indexAddr 23 (Operand.tmp 82) (Operand.tmp 83), type := 0, pos := "law.go:198", after := #[{ on := 11, ground := Ground.data }, { on := 12, ground := Ground.data }], guard := none }) (v := .pointer (some ⟨b, p, none⟩)) rfl (by kernel_rfl) (by kernel_rfl) (by kernel_rfl) (fun _ _ _ h => h) (Or.inl ⟨by rfl, fun w1 hw => exec_indexAt rfl t82 t83 (G1 _)⟩) hHeld ?_
  change wpAnyH _ _ _ _ _ _ _ (a13.put (some 84) (.pointer (some ⟨b, p, none⟩))) _
  obtain ⟨a14, e14⟩ : ∃ act, act = a13.put (some 84) (.pointer (some ⟨b, p, none⟩)) := ⟨_, rfl⟩
  rw [← e14] at h ⊢
  have z14 : a14.tmps.size = 152 := by rw [e14, put_size]; exact z13
  replace t71 : a14.tmps.getD 71 undef = rv := by rw [e14, put_ne _ _ _ _ (by decide)]; exact t71
  replace t76 : a14.tmps.getD 76 undef = kv := by rw [e14, put_ne _ _ _ _ (by decide)]; exact t76
  replace t81 : a14.tmps.getD 81 undef = uv := by rw [e14, put_ne _ _ _ _ (by decide)]; exact t81
  clear t82
  clear t83
  have t84 : a14.tmps.getD 84 undef = .pointer (some ⟨b, p, none⟩) := by rw [e14]; exact put_same _ _ _ (by omega)
  clear e14 z13
  refine wpAnyH_take (i := 14) (oi := { dst := some 85, op := Op.fieldAddr 39 (Operand.tmp 84) 3, type := 0, pos := "law.go:198", after := #[{ on := 13, ground := Ground.data }], guard := none }) (v := .pointer (some ⟨b, p + 67, none⟩)) rfl (by kernel_rfl) (by kernel_rfl) (by kernel_rfl) (fun _ _ _ h => h) (Or.inl ⟨by rfl, fun w1 hw => exec_fieldAt rfl t84 (fg_39_3 _ _ _)⟩) hHeld ?_
  change wpAnyH _ _ _ _ _ _ _ (a14.put (some 85) (.pointer (some ⟨b, p + 67, none⟩))) _
  obtain ⟨a15, e15⟩ : ∃ act, act = a14.put (some 85) (.pointer (some ⟨b, p + 67, none⟩)) := ⟨_, rfl⟩
  rw [← e15] at h ⊢
  have z15 : a15.tmps.size = 152 := by rw [e15, put_size]; exact z14
  replace t71 : a15.tmps.getD 71 undef = rv := by rw [e15, put_ne _ _ _ _ (by decide)]; exact t71
  replace t76 : a15.tmps.getD 76 undef = kv := by rw [e15, put_ne _ _ _ _ (by decide)]; exact t76
  replace t81 : a15.tmps.getD 81 undef = uv := by rw [e15, put_ne _ _ _ _ (by decide)]; exact t81
  clear t84
  have t85 : a15.tmps.getD 85 undef = .pointer (some ⟨b, p + 67, none⟩) := by rw [e15]; exact put_same _ _ _ (by omega)
  clear e15 z14
  refine wpAnyH_take (i := 15) (oi := { dst := some 86, op := Op.load 9 (Operand.tmp 85), type := 9, pos := "law.go:198", after := #[{ on := 14, ground := Ground.data }], guard := none }) (v := sv) rfl (by kernel_rfl) (by kernel_rfl) (by kernel_rfl) (fun _ _ _ h => h) (Or.inl ⟨by rfl, fun w1 hw => exec_load rfl t85 (G4 _ hw)⟩) hHeld ?_
  change wpAnyH _ _ _ _ _ _ _ (a15.put (some 86) (sv)) _
  obtain ⟨a16, e16⟩ : ∃ act, act = a15.put (some 86) (sv) := ⟨_, rfl⟩
  rw [← e16] at h ⊢
  have z16 : a16.tmps.size = 152 := by rw [e16, put_size]; exact z15
  replace t71 : a16.tmps.getD 71 undef = rv := by rw [e16, put_ne _ _ _ _ (by decide)]; exact t71
  replace t76 : a16.tmps.getD 76 undef = kv := by rw [e16, put_ne _ _ _ _ (by decide)]; exact t76
  replace t81 : a16.tmps.getD 81 undef = uv := by rw [e16, put_ne _ _ _ _ (by decide)]; exact t81
  clear t85
  have t86 : a16.tmps.getD 86 undef = sv := by rw [e16]; exact put_same _ _ _ (by omega)
  clear e16 z15
  refine wpAnyH_ready (rs := [16]) (by kernel_rfl) (by simp) ?_
  refine AllReadyH.cons (o := { dst := some 87, op := Op.call { callee := Callee.value (Operand.func 19), args := #[Operand.tmp 71, Operand.tmp 76, Operand.tmp 81, Operand.tmp 86], argTypes := #[25, 37, 37, 9] }, type := 47, pos := "law.go:198", after := #[{ on := 0, ground := Ground.data }, { on := 5, ground := Ground.data }, { on := 10, ground := Ground.data }, { on := 15, ground := Ground.data }], guard := none }) rfl (fun K hK => ?_) AllReadyH.nil
  rw [if_pos (by rfl)]
  go_simp
  refine (C _ hHeld).mono ?_
  rintro e x17 ⟨t, v, rfl, hs, hq⟩
  try go_wp2_with fail
  replace h := h t v
  refine hK.out _ _ (hs) (fun hHeld => ?_)
  clear hK K
  change wpAnyH _ _ _ _ _ _ _ (a16.put (some 87) (.tuple #[t, v])) _
  obtain ⟨a17, e17⟩ : ∃ act, act = a16.put (some 87) (.tuple #[t, v]) := ⟨_, rfl⟩
  rw [← e17] at h ⊢
  have z17 : a17.tmps.size = 152 := by rw [e17, put_size]; exact z16
  clear t71
  clear t76
  clear t81
  clear t86
  have t87 : a17.tmps.getD 87 undef = .tuple #[t, v] := by rw [e17]; exact put_same _ _ _ (by omega)
  clear e17 z16
  refine wpAnyH_take (i := 17) (oi := { dst := some 70, op := Op.move (Operand.tmp 87), type := 47, pos := "law.go:198", after := #[{ on := 16, ground := Ground.data }], guard := none }) (v := .tuple #[t, v]) rfl (by kernel_rfl) (by kernel_rfl) (by kernel_rfl) (fun _ _ _ h => h) (Or.inl ⟨by rfl, fun w1 hw => exec_move rfl t87⟩) hHeld ?_
  change wpAnyH _ _ _ _ _ _ _ (a17.put (some 70) (.tuple #[t, v])) _
  obtain ⟨a18, e18⟩ : ∃ act, act = a17.put (some 70) (.tuple #[t, v]) := ⟨_, rfl⟩
  rw [← e18] at h ⊢
  have z18 : a18.tmps.size = 152 := by rw [e18, put_size]; exact z17
  clear t87
  have t70 : a18.tmps.getD 70 undef = .tuple #[t, v] := by rw [e18]; exact put_same _ _ _ (by omega)
  clear e18 z17
  refine wpAnyH_take (i := 18) (oi := { dst := some 88, op := Op.extract (Operand.tmp 70) 0, type := 45, pos := "law.go:198", after := #[{ on := 17, ground := Ground.data }], guard := none }) (v := t) rfl (by kernel_rfl) (by kernel_rfl) (by kernel_rfl) (fun _ _ _ h => h) (Or.inl ⟨by rfl, fun w1 hw => exec_extract rfl t70 rfl⟩) hHeld ?_
  change wpAnyH _ _ _ _ _ _ _ (a18.put (some 88) (t)) _
  obtain ⟨a19, e19⟩ : ∃ act, act = a18.put (some 88) (t) := ⟨_, rfl⟩
  rw [← e19] at h ⊢
  have z19 : a19.tmps.size = 152 := by rw [e19, put_size]; exact z18
  replace t70 : a19.tmps.getD 70 undef = .tuple #[t, v] := by rw [e19, put_ne _ _ _ _ (by decide)]; exact t70
  have t88 : a19.tmps.getD 88 undef = t := by rw [e19]; exact put_same _ _ _ (by omega)
  clear e19 z18
  refine wpAnyH_take (i := 19) (oi := { dst := some 89, op := Op.extract (Operand.tmp 70) 1, type := 46, pos := "law.go:198", after := #[{ on := 17, ground := Ground.data }, { on := 20, ground := Ground.gcOnly Departure.lateStores }], guard := none }) (v := v) rfl (by kernel_rfl) (by kernel_rfl) (by kernel_rfl) (fun _ _ _ h => h) (Or.inl ⟨by rfl, fun w1 hw => exec_extract rfl t70 rfl⟩) hHeld ?_
  change wpAnyH _ _ _ _ _ _ _ (a19.put (some 89) (v)) _
  obtain ⟨a20, e20⟩ : ∃ act, act = a19.put (some 89) (v) := ⟨_, rfl⟩
  rw [← e20] at h ⊢
  have z20 : a20.tmps.size = 152 := by rw [e20, put_size]; exact z19
  clear t70
  replace t88 : a20.tmps.getD 88 undef = t := by rw [e20, put_ne _ _ _ _ (by decide)]; exact t88
  have t89 : a20.tmps.getD 89 undef = v := by rw [e20]; exact put_same _ _ _ (by omega)
  clear e20 z19
  refine wpAnyH_take (i := 20) (oi := { dst := some 10, op := Op.assign (Operand.tmp 88), type := 45, pos := "law.go:198", after := #[{ on := 18, ground := Ground.data }, { on := 16, ground := Ground.chain }, { on := 0, ground := Ground.phase }, { on := 1, ground := Ground.phase }, { on := 2, ground := Ground.phase }, { on := 3, ground := Ground.phase }, { on := 4, ground := Ground.phase }, { on := 5, ground := Ground.phase }, { on := 6, ground := Ground.phase }, { on := 7, ground := Ground.phase }, { on := 8, ground := Ground.phase }, { on := 9, ground := Ground.phase }, { on := 10, ground := Ground.phase }, { on := 11, ground := Ground.phase }, { on := 12, ground := Ground.phase }, { on := 13, ground := Ground.phase }, { on := 14, ground := Ground.phase }, { on := 15, ground := Ground.phase }, { on := 16, ground := Ground.phase }, { on := 17, ground := Ground.phase }, { on := 18, ground := Ground.phase }, { on := 19, ground := Ground.textOnly Departure.lateStores }], guard := none }) (v := t) rfl (by kernel_rfl) (by kernel_rfl) (by kernel_rfl) (fun _ _ _ h => h) (Or.inl ⟨by rfl, fun w1 hw => exec_assign rfl t88⟩) hHeld ?_
  change wpAnyH _ _ _ _ _ _ _ (a20.put (some 10) (t)) _
  obtain ⟨a21, e21⟩ : ∃ act, act = a20.put (some 10) (t) := ⟨_, rfl⟩
  rw [← e21] at h ⊢
  have z21 : a21.tmps.size = 152 := by rw [e21, put_size]; exact z20
  clear t88
  replace t89 : a21.tmps.getD 89 undef = v := by rw [e21, put_ne _ _ _ _ (by decide)]; exact t89
  clear e21 z20
  refine wpAnyH_take (i := 21) (oi := { dst := some 11, op := Op.assign (Operand.tmp 89), type := 46, pos := "law.go:198", after := #[{ on := 19, ground := Ground.data }, { on := 20, ground := Ground.chain }, { on := 0, ground := Ground.phase }, { on := 1, ground := Ground.phase }, { on := 2, ground := Ground.phase }, { on := 3, ground := Ground.phase }, { on := 4, ground := Ground.phase }, { on := 5, ground := Ground.phase }, { on := 6, ground := Ground.phase }, { on := 7, ground := Ground.phase }, { on := 8, ground := Ground.phase }, { on := 9, ground := Ground.phase }, { on := 10, ground := Ground.phase }, { on := 11, ground := Ground.phase }, { on := 12, ground := Ground.phase }, { on := 13, ground := Ground.phase }, { on := 14, ground := Ground.phase }, { on := 15, ground := Ground.phase }, { on := 16, ground := Ground.phase }, { on := 17, ground := Ground.phase }, { on := 18, ground := Ground.phase }, { on := 19, ground := Ground.phase }, { on := 20, ground := Ground.phase }], guard := none }) (v := v) rfl (by kernel_rfl) (by kernel_rfl) (by kernel_rfl) (fun _ _ _ h => h) (Or.inl ⟨by rfl, fun w1 hw => exec_assign rfl t89⟩) hHeld ?_
  change wpAnyH _ _ _ _ _ _ _ (a21.put (some 11) (v)) _
  obtain ⟨a22, e22⟩ : ∃ act, act = a21.put (some 11) (v) := ⟨_, rfl⟩
  rw [← e22] at h ⊢
  have z22 : a22.tmps.size = 152 := by rw [e22, put_size]; exact z21
  clear t89
  clear e22 z21
  exact wpAnyH_done (by kernel_rfl) (NoPanic.normal (h _ _ (hq) rfl)) _
def none22_ops : Array Oper := #[{ dst := some 113, op := Op.move (Operand.tmp 5), type := 25, pos := "law.go:206", after := #[], guard := none }, { dst := some 114, op := Op.move (Operand.tmp 0), type := 23, pos := "law.go:206", after := #[], guard := none }, { dst := some 115, op := Op.move (Operand.tmp 9), type := 3, pos := "law.go:206", after := #[], guard := none }, { dst := some 116, op := Op.indexAddr 23 (Operand.tmp 114) (Operand.tmp 115), type := 0, pos := "law.go:206", after := #[{ on := 1, ground := Ground.data }, { on := 2, ground := Ground.data }], guard := none }, { dst := some 117, op := Op.fieldAddr 39 (Operand.tmp 116) 1, type := 0, pos := "law.go:206", after := #[{ on := 3, ground := Ground.data }], guard := none }, { dst := some 118, op := Op.load 37 (Operand.tmp 117), type := 37, pos := "law.go:206", after := #[{ on := 4, ground := Ground.data }], guard := none }, { dst := some 119, op := Op.move (Operand.tmp 0), type := 23, pos := "law.go:206", after := #[], guard := none }, { dst := some 120, op := Op.move (Operand.tmp 9), type := 3, pos := "law.go:206", after := #[], guard := none }, { dst := some 121, op := Op.indexAddr 23 (Operand.tmp 119) (Operand.tmp 120), type := 0, pos := "law.go:206", after := #[{ on := 6, ground := Ground.data }, { on := 7, ground := Ground.data }], guard := none }, { dst := some 122, op := Op.fieldAddr 39 (Operand.tmp 121) 2, type := 0, pos := "law.go:206", after := #[{ on := 8, ground := Ground.data }], guard := none }, { dst := some 123, op := Op.load 37 (Operand.tmp 122), type := 37, pos := "law.go:206", after := #[{ on := 9, ground := Ground.data }], guard := none }, { dst := some 124, op := Op.move (Operand.tmp 0), type := 23, pos := "law.go:206", after := #[], guard := none }, { dst := some 125, op := Op.move (Operand.tmp 9), type := 3, pos := "law.go:206", after := #[], guard := none }, { dst := some 126, op := Op.indexAddr 23 (Operand.tmp 124) (Operand.tmp 125), type := 0, pos := "law.go:206", after := #[{ on := 11, ground := Ground.data }, { on := 12, ground := Ground.data }], guard := none }, { dst := some 127, op := Op.fieldAddr 39 (Operand.tmp 126) 3, type := 0, pos := "law.go:206", after := #[{ on := 13, ground := Ground.data }], guard := none }, { dst := some 128, op := Op.load 9 (Operand.tmp 127), type := 9, pos := "law.go:206", after := #[{ on := 14, ground := Ground.data }], guard := none }, { dst := some 129, op := Op.call { callee := Callee.value (Operand.func 17), args := #[Operand.tmp 113, Operand.tmp 118, Operand.tmp 123, Operand.tmp 128], argTypes := #[25, 37, 37, 9] }, type := 47, pos := "law.go:206", after := #[{ on := 0, ground := Ground.data }, { on := 5, ground := Ground.data }, { on := 10, ground := Ground.data }, { on := 15, ground := Ground.data }], guard := none }, { dst := some 112, op := Op.move (Operand.tmp 129), type := 47, pos := "law.go:206", after := #[{ on := 16, ground := Ground.data }], guard := none }, { dst := some 130, op := Op.extract (Operand.tmp 112) 0, type := 45, pos := "law.go:206", after := #[{ on := 17, ground := Ground.data }], guard := none }, { dst := some 131, op := Op.extract (Operand.tmp 112) 1, type := 46, pos := "law.go:206", after := #[{ on := 17, ground := Ground.data }, { on := 20, ground := Ground.gcOnly Departure.lateStores }], guard := none }, { dst := some 12, op := Op.assign (Operand.tmp 130), type := 45, pos := "law.go:206", after := #[{ on := 18, ground := Ground.data }, { on := 16, ground := Ground.chain }, { on := 0, ground := Ground.phase }, { on := 1, ground := Ground.phase }, { on := 2, ground := Ground.phase }, { on := 3, ground := Ground.phase }, { on := 4, ground := Ground.phase }, { on := 5, ground := Ground.phase }, { on := 6, ground := Ground.phase }, { on := 7, ground := Ground.phase }, { on := 8, ground := Ground.phase }, { on := 9, ground := Ground.phase }, { on := 10, ground := Ground.phase }, { on := 11, ground := Ground.phase }, { on := 12, ground := Ground.phase }, { on := 13, ground := Ground.phase }, { on := 14, ground := Ground.phase }, { on := 15, ground := Ground.phase }, { on := 16, ground := Ground.phase }, { on := 17, ground := Ground.phase }, { on := 18, ground := Ground.phase }, { on := 19, ground := Ground.textOnly Departure.lateStores }], guard := none }, { dst := some 13, op := Op.assign (Operand.tmp 131), type := 46, pos := "law.go:206", after := #[{ on := 19, ground := Ground.data }, { on := 20, ground := Ground.chain }, { on := 0, ground := Ground.phase }, { on := 1, ground := Ground.phase }, { on := 2, ground := Ground.phase }, { on := 3, ground := Ground.phase }, { on := 4, ground := Ground.phase }, { on := 5, ground := Ground.phase }, { on := 6, ground := Ground.phase }, { on := 7, ground := Ground.phase }, { on := 8, ground := Ground.phase }, { on := 9, ground := Ground.phase }, { on := 10, ground := Ground.phase }, { on := 11, ground := Ground.phase }, { on := 12, ground := Ground.phase }, { on := 13, ground := Ground.phase }, { on := 14, ground := Ground.phase }, { on := 15, ground := Ground.phase }, { on := 16, ground := Ground.phase }, { on := 17, ground := Ground.phase }, { on := 18, ground := Ground.phase }, { on := 19, ground := Ground.phase }, { on := 20, ground := Ground.phase }], guard := none }]
set_option maxRecDepth 100000 in
set_option maxHeartbeats 4000000 in
theorem none22 (S : World → Prop) (Po : Value → Value → World → Prop) (b p : Nat) (rv lv iv kv uv sv : Value) (a : Act) (w : World) (Q : Exit → Act → World → Prop) (hsz : a.tmps.size = 152)
    (t5 : a.tmps.getD 5 undef = rv)
    (t0 : a.tmps.getD 0 undef = lv)
    (t9 : a.tmps.getD 9 undef = iv)
    (h0 : S w.drew)
    (C : ∀ W, S W → Calls Try.prog 17 #[rv, kv, uv, sv] W fun e w' => ∃ t v, e = .returned (.tuple #[t, v]) ∧ S w' ∧ Po t v w')
    (G1 : ∀ W, (Instr.indexAt 23 (lv) (iv)).run Try.prog W = .ok (.pointer (some ⟨b, p, none⟩)) W)
    (G2 : ∀ W, S W → (Instr.loadAt 37 (.pointer (some ⟨b, p + 1, none⟩))).run Try.prog W = .ok (kv) W)
    (G3 : ∀ W, S W → (Instr.loadAt 37 (.pointer (some ⟨b, p + 34, none⟩))).run Try.prog W = .ok (uv) W)
    (G4 : ∀ W, S W → (Instr.loadAt 9 (.pointer (some ⟨b, p + 67, none⟩))).run Try.prog W = .ok (sv) W)
    (h : ∀ (t v : Value) (a' : Act) (w' : World), Po t v w' → a' = ((((((((((((((((((((((a).put (some 113) (rv)).put (some 114) (lv)).put (some 115) (iv)).put (some 116) (.pointer (some ⟨b, p, none⟩))).put (some 117) (.pointer (some ⟨b, p + 1, none⟩))).put (some 118) (kv)).put (some 119) (lv)).put (some 120) (iv)).put (some 121) (.pointer (some ⟨b, p, none⟩))).put (some 122) (.pointer (some ⟨b, p + 34, none⟩))).put (some 123) (uv)).put (some 124) (lv)).put (some 125) (iv)).put (some 126) (.pointer (some ⟨b, p, none⟩))).put (some 127) (.pointer (some ⟨b, p + 67, none⟩))).put (some 128) (sv)).put (some 129) (.tuple #[t, v])).put (some 112) (.tuple #[t, v])).put (some 130) (t)).put (some 131) (v)).put (some 12) (t)).put (some 13) (v) → Q .normal a' w') :
    (Code.region 22 none22_ops true).wp Try.prog Q a w := by
  refine wp_region_noPanic ?_
  refine wp_region_held_drew (S := fun w' => S w') (by kernel_rfl) (h0) (fun hHeld => ?_)
  refine wpAnyH_take (i := 0) (oi := { dst := some 113, op := Op.move (Operand.tmp 5), type := 25, pos := "law.go:206", after := #[], guard := none }) (v := rv) rfl (by kernel_rfl) (by kernel_rfl) (by kernel_rfl) (fun _ _ _ h => h) (Or.inl ⟨by rfl, fun w1 hw => exec_move rfl t5⟩) hHeld ?_
  change wpAnyH _ _ _ _ _ _ _ (a.put (some 113) (rv)) _
  obtain ⟨a1, e1⟩ : ∃ act, act = a.put (some 113) (rv) := ⟨_, rfl⟩
  rw [← e1] at h ⊢
  have z1 : a1.tmps.size = 152 := by rw [e1, put_size]; exact hsz
  clear t5
  replace t0 : a1.tmps.getD 0 undef = lv := by rw [e1, put_ne _ _ _ _ (by decide)]; exact t0
  replace t9 : a1.tmps.getD 9 undef = iv := by rw [e1, put_ne _ _ _ _ (by decide)]; exact t9
  have t113 : a1.tmps.getD 113 undef = rv := by rw [e1]; exact put_same _ _ _ (by omega)
  clear e1 hsz
  refine wpAnyH_take (i := 1) (oi := { dst := some 114, op := Op.move (Operand.tmp 0), type := 23, pos := "law.go:206", after := #[], guard := none }) (v := lv) rfl (by kernel_rfl) (by kernel_rfl) (by kernel_rfl) (fun _ _ _ h => h) (Or.inl ⟨by rfl, fun w1 hw => exec_move rfl t0⟩) hHeld ?_
  change wpAnyH _ _ _ _ _ _ _ (a1.put (some 114) (lv)) _
  obtain ⟨a2, e2⟩ : ∃ act, act = a1.put (some 114) (lv) := ⟨_, rfl⟩
  rw [← e2] at h ⊢
  have z2 : a2.tmps.size = 152 := by rw [e2, put_size]; exact z1
  replace t0 : a2.tmps.getD 0 undef = lv := by rw [e2, put_ne _ _ _ _ (by decide)]; exact t0
  replace t9 : a2.tmps.getD 9 undef = iv := by rw [e2, put_ne _ _ _ _ (by decide)]; exact t9
  replace t113 : a2.tmps.getD 113 undef = rv := by rw [e2, put_ne _ _ _ _ (by decide)]; exact t113
  have t114 : a2.tmps.getD 114 undef = lv := by rw [e2]; exact put_same _ _ _ (by omega)
  clear e2 z1
  refine wpAnyH_take (i := 2) (oi := { dst := some 115, op := Op.move (Operand.tmp 9), type := 3, pos := "law.go:206", after := #[], guard := none }) (v := iv) rfl (by kernel_rfl) (by kernel_rfl) (by kernel_rfl) (fun _ _ _ h => h) (Or.inl ⟨by rfl, fun w1 hw => exec_move rfl t9⟩) hHeld ?_
  change wpAnyH _ _ _ _ _ _ _ (a2.put (some 115) (iv)) _
  obtain ⟨a3, e3⟩ : ∃ act, act = a2.put (some 115) (iv) := ⟨_, rfl⟩
  rw [← e3] at h ⊢
  have z3 : a3.tmps.size = 152 := by rw [e3, put_size]; exact z2
  replace t0 : a3.tmps.getD 0 undef = lv := by rw [e3, put_ne _ _ _ _ (by decide)]; exact t0
  replace t9 : a3.tmps.getD 9 undef = iv := by rw [e3, put_ne _ _ _ _ (by decide)]; exact t9
  replace t113 : a3.tmps.getD 113 undef = rv := by rw [e3, put_ne _ _ _ _ (by decide)]; exact t113
  replace t114 : a3.tmps.getD 114 undef = lv := by rw [e3, put_ne _ _ _ _ (by decide)]; exact t114
  have t115 : a3.tmps.getD 115 undef = iv := by rw [e3]; exact put_same _ _ _ (by omega)
  clear e3 z2
  refine wpAnyH_take (i := 3) (oi := { dst := some 116, op := Op.indexAddr 23 (Operand.tmp 114) (Operand.tmp 115), type := 0, pos := "law.go:206", after := #[{ on := 1, ground := Ground.data }, { on := 2, ground := Ground.data }], guard := none }) (v := .pointer (some ⟨b, p, none⟩)) rfl (by kernel_rfl) (by kernel_rfl) (by kernel_rfl) (fun _ _ _ h => h) (Or.inl ⟨by rfl, fun w1 hw => exec_indexAt rfl t114 t115 (G1 _)⟩) hHeld ?_
  change wpAnyH _ _ _ _ _ _ _ (a3.put (some 116) (.pointer (some ⟨b, p, none⟩))) _
  obtain ⟨a4, e4⟩ : ∃ act, act = a3.put (some 116) (.pointer (some ⟨b, p, none⟩)) := ⟨_, rfl⟩
  rw [← e4] at h ⊢
  have z4 : a4.tmps.size = 152 := by rw [e4, put_size]; exact z3
  replace t0 : a4.tmps.getD 0 undef = lv := by rw [e4, put_ne _ _ _ _ (by decide)]; exact t0
  replace t9 : a4.tmps.getD 9 undef = iv := by rw [e4, put_ne _ _ _ _ (by decide)]; exact t9
  replace t113 : a4.tmps.getD 113 undef = rv := by rw [e4, put_ne _ _ _ _ (by decide)]; exact t113
  clear t114
  clear t115
  have t116 : a4.tmps.getD 116 undef = .pointer (some ⟨b, p, none⟩) := by rw [e4]; exact put_same _ _ _ (by omega)
  clear e4 z3
  refine wpAnyH_take (i := 4) (oi := { dst := some 117, op := Op.fieldAddr 39 (Operand.tmp 116) 1, type := 0, pos := "law.go:206", after := #[{ on := 3, ground := Ground.data }], guard := none }) (v := .pointer (some ⟨b, p + 1, none⟩)) rfl (by kernel_rfl) (by kernel_rfl) (by kernel_rfl) (fun _ _ _ h => h) (Or.inl ⟨by rfl, fun w1 hw => exec_fieldAt rfl t116 (fg_39_1 _ _ _)⟩) hHeld ?_
  change wpAnyH _ _ _ _ _ _ _ (a4.put (some 117) (.pointer (some ⟨b, p + 1, none⟩))) _
  obtain ⟨a5, e5⟩ : ∃ act, act = a4.put (some 117) (.pointer (some ⟨b, p + 1, none⟩)) := ⟨_, rfl⟩
  rw [← e5] at h ⊢
  have z5 : a5.tmps.size = 152 := by rw [e5, put_size]; exact z4
  replace t0 : a5.tmps.getD 0 undef = lv := by rw [e5, put_ne _ _ _ _ (by decide)]; exact t0
  replace t9 : a5.tmps.getD 9 undef = iv := by rw [e5, put_ne _ _ _ _ (by decide)]; exact t9
  replace t113 : a5.tmps.getD 113 undef = rv := by rw [e5, put_ne _ _ _ _ (by decide)]; exact t113
  clear t116
  have t117 : a5.tmps.getD 117 undef = .pointer (some ⟨b, p + 1, none⟩) := by rw [e5]; exact put_same _ _ _ (by omega)
  clear e5 z4
  refine wpAnyH_take (i := 5) (oi := { dst := some 118, op := Op.load 37 (Operand.tmp 117), type := 37, pos := "law.go:206", after := #[{ on := 4, ground := Ground.data }], guard := none }) (v := kv) rfl (by kernel_rfl) (by kernel_rfl) (by kernel_rfl) (fun _ _ _ h => h) (Or.inl ⟨by rfl, fun w1 hw => exec_load rfl t117 (G2 _ hw)⟩) hHeld ?_
  change wpAnyH _ _ _ _ _ _ _ (a5.put (some 118) (kv)) _
  obtain ⟨a6, e6⟩ : ∃ act, act = a5.put (some 118) (kv) := ⟨_, rfl⟩
  rw [← e6] at h ⊢
  have z6 : a6.tmps.size = 152 := by rw [e6, put_size]; exact z5
  replace t0 : a6.tmps.getD 0 undef = lv := by rw [e6, put_ne _ _ _ _ (by decide)]; exact t0
  replace t9 : a6.tmps.getD 9 undef = iv := by rw [e6, put_ne _ _ _ _ (by decide)]; exact t9
  replace t113 : a6.tmps.getD 113 undef = rv := by rw [e6, put_ne _ _ _ _ (by decide)]; exact t113
  clear t117
  have t118 : a6.tmps.getD 118 undef = kv := by rw [e6]; exact put_same _ _ _ (by omega)
  clear e6 z5
  refine wpAnyH_take (i := 6) (oi := { dst := some 119, op := Op.move (Operand.tmp 0), type := 23, pos := "law.go:206", after := #[], guard := none }) (v := lv) rfl (by kernel_rfl) (by kernel_rfl) (by kernel_rfl) (fun _ _ _ h => h) (Or.inl ⟨by rfl, fun w1 hw => exec_move rfl t0⟩) hHeld ?_
  change wpAnyH _ _ _ _ _ _ _ (a6.put (some 119) (lv)) _
  obtain ⟨a7, e7⟩ : ∃ act, act = a6.put (some 119) (lv) := ⟨_, rfl⟩
  rw [← e7] at h ⊢
  have z7 : a7.tmps.size = 152 := by rw [e7, put_size]; exact z6
  replace t0 : a7.tmps.getD 0 undef = lv := by rw [e7, put_ne _ _ _ _ (by decide)]; exact t0
  replace t9 : a7.tmps.getD 9 undef = iv := by rw [e7, put_ne _ _ _ _ (by decide)]; exact t9
  replace t113 : a7.tmps.getD 113 undef = rv := by rw [e7, put_ne _ _ _ _ (by decide)]; exact t113
  replace t118 : a7.tmps.getD 118 undef = kv := by rw [e7, put_ne _ _ _ _ (by decide)]; exact t118
  have t119 : a7.tmps.getD 119 undef = lv := by rw [e7]; exact put_same _ _ _ (by omega)
  clear e7 z6
  refine wpAnyH_take (i := 7) (oi := { dst := some 120, op := Op.move (Operand.tmp 9), type := 3, pos := "law.go:206", after := #[], guard := none }) (v := iv) rfl (by kernel_rfl) (by kernel_rfl) (by kernel_rfl) (fun _ _ _ h => h) (Or.inl ⟨by rfl, fun w1 hw => exec_move rfl t9⟩) hHeld ?_
  change wpAnyH _ _ _ _ _ _ _ (a7.put (some 120) (iv)) _
  obtain ⟨a8, e8⟩ : ∃ act, act = a7.put (some 120) (iv) := ⟨_, rfl⟩
  rw [← e8] at h ⊢
  have z8 : a8.tmps.size = 152 := by rw [e8, put_size]; exact z7
  replace t0 : a8.tmps.getD 0 undef = lv := by rw [e8, put_ne _ _ _ _ (by decide)]; exact t0
  replace t9 : a8.tmps.getD 9 undef = iv := by rw [e8, put_ne _ _ _ _ (by decide)]; exact t9
  replace t113 : a8.tmps.getD 113 undef = rv := by rw [e8, put_ne _ _ _ _ (by decide)]; exact t113
  replace t118 : a8.tmps.getD 118 undef = kv := by rw [e8, put_ne _ _ _ _ (by decide)]; exact t118
  replace t119 : a8.tmps.getD 119 undef = lv := by rw [e8, put_ne _ _ _ _ (by decide)]; exact t119
  have t120 : a8.tmps.getD 120 undef = iv := by rw [e8]; exact put_same _ _ _ (by omega)
  clear e8 z7
  refine wpAnyH_take (i := 8) (oi := { dst := some 121, op := Op.indexAddr 23 (Operand.tmp 119) (Operand.tmp 120), type := 0, pos := "law.go:206", after := #[{ on := 6, ground := Ground.data }, { on := 7, ground := Ground.data }], guard := none }) (v := .pointer (some ⟨b, p, none⟩)) rfl (by kernel_rfl) (by kernel_rfl) (by kernel_rfl) (fun _ _ _ h => h) (Or.inl ⟨by rfl, fun w1 hw => exec_indexAt rfl t119 t120 (G1 _)⟩) hHeld ?_
  change wpAnyH _ _ _ _ _ _ _ (a8.put (some 121) (.pointer (some ⟨b, p, none⟩))) _
  obtain ⟨a9, e9⟩ : ∃ act, act = a8.put (some 121) (.pointer (some ⟨b, p, none⟩)) := ⟨_, rfl⟩
  rw [← e9] at h ⊢
  have z9 : a9.tmps.size = 152 := by rw [e9, put_size]; exact z8
  replace t0 : a9.tmps.getD 0 undef = lv := by rw [e9, put_ne _ _ _ _ (by decide)]; exact t0
  replace t9 : a9.tmps.getD 9 undef = iv := by rw [e9, put_ne _ _ _ _ (by decide)]; exact t9
  replace t113 : a9.tmps.getD 113 undef = rv := by rw [e9, put_ne _ _ _ _ (by decide)]; exact t113
  replace t118 : a9.tmps.getD 118 undef = kv := by rw [e9, put_ne _ _ _ _ (by decide)]; exact t118
  clear t119
  clear t120
  have t121 : a9.tmps.getD 121 undef = .pointer (some ⟨b, p, none⟩) := by rw [e9]; exact put_same _ _ _ (by omega)
  clear e9 z8
  refine wpAnyH_take (i := 9) (oi := { dst := some 122, op := Op.fieldAddr 39 (Operand.tmp 121) 2, type := 0, pos := "law.go:206", after := #[{ on := 8, ground := Ground.data }], guard := none }) (v := .pointer (some ⟨b, p + 34, none⟩)) rfl (by kernel_rfl) (by kernel_rfl) (by kernel_rfl) (fun _ _ _ h => h) (Or.inl ⟨by rfl, fun w1 hw => exec_fieldAt rfl t121 (fg_39_2 _ _ _)⟩) hHeld ?_
  change wpAnyH _ _ _ _ _ _ _ (a9.put (some 122) (.pointer (some ⟨b, p + 34, none⟩))) _
  obtain ⟨a10, e10⟩ : ∃ act, act = a9.put (some 122) (.pointer (some ⟨b, p + 34, none⟩)) := ⟨_, rfl⟩
  rw [← e10] at h ⊢
  have z10 : a10.tmps.size = 152 := by rw [e10, put_size]; exact z9
  replace t0 : a10.tmps.getD 0 undef = lv := by rw [e10, put_ne _ _ _ _ (by decide)]; exact t0
  replace t9 : a10.tmps.getD 9 undef = iv := by rw [e10, put_ne _ _ _ _ (by decide)]; exact t9
  replace t113 : a10.tmps.getD 113 undef = rv := by rw [e10, put_ne _ _ _ _ (by decide)]; exact t113
  replace t118 : a10.tmps.getD 118 undef = kv := by rw [e10, put_ne _ _ _ _ (by decide)]; exact t118
  clear t121
  have t122 : a10.tmps.getD 122 undef = .pointer (some ⟨b, p + 34, none⟩) := by rw [e10]; exact put_same _ _ _ (by omega)
  clear e10 z9
  refine wpAnyH_take (i := 10) (oi := { dst := some 123, op := Op.load 37 (Operand.tmp 122), type := 37, pos := "law.go:206", after := #[{ on := 9, ground := Ground.data }], guard := none }) (v := uv) rfl (by kernel_rfl) (by kernel_rfl) (by kernel_rfl) (fun _ _ _ h => h) (Or.inl ⟨by rfl, fun w1 hw => exec_load rfl t122 (G3 _ hw)⟩) hHeld ?_
  change wpAnyH _ _ _ _ _ _ _ (a10.put (some 123) (uv)) _
  obtain ⟨a11, e11⟩ : ∃ act, act = a10.put (some 123) (uv) := ⟨_, rfl⟩
  rw [← e11] at h ⊢
  have z11 : a11.tmps.size = 152 := by rw [e11, put_size]; exact z10
  replace t0 : a11.tmps.getD 0 undef = lv := by rw [e11, put_ne _ _ _ _ (by decide)]; exact t0
  replace t9 : a11.tmps.getD 9 undef = iv := by rw [e11, put_ne _ _ _ _ (by decide)]; exact t9
  replace t113 : a11.tmps.getD 113 undef = rv := by rw [e11, put_ne _ _ _ _ (by decide)]; exact t113
  replace t118 : a11.tmps.getD 118 undef = kv := by rw [e11, put_ne _ _ _ _ (by decide)]; exact t118
  clear t122
  have t123 : a11.tmps.getD 123 undef = uv := by rw [e11]; exact put_same _ _ _ (by omega)
  clear e11 z10
  refine wpAnyH_take (i := 11) (oi := { dst := some 124, op := Op.move (Operand.tmp 0), type := 23, pos := "law.go:206", after := #[], guard := none }) (v := lv) rfl (by kernel_rfl) (by kernel_rfl) (by kernel_rfl) (fun _ _ _ h => h) (Or.inl ⟨by rfl, fun w1 hw => exec_move rfl t0⟩) hHeld ?_
  change wpAnyH _ _ _ _ _ _ _ (a11.put (some 124) (lv)) _
  obtain ⟨a12, e12⟩ : ∃ act, act = a11.put (some 124) (lv) := ⟨_, rfl⟩
  rw [← e12] at h ⊢
  have z12 : a12.tmps.size = 152 := by rw [e12, put_size]; exact z11
  clear t0
  replace t9 : a12.tmps.getD 9 undef = iv := by rw [e12, put_ne _ _ _ _ (by decide)]; exact t9
  replace t113 : a12.tmps.getD 113 undef = rv := by rw [e12, put_ne _ _ _ _ (by decide)]; exact t113
  replace t118 : a12.tmps.getD 118 undef = kv := by rw [e12, put_ne _ _ _ _ (by decide)]; exact t118
  replace t123 : a12.tmps.getD 123 undef = uv := by rw [e12, put_ne _ _ _ _ (by decide)]; exact t123
  have t124 : a12.tmps.getD 124 undef = lv := by rw [e12]; exact put_same _ _ _ (by omega)
  clear e12 z11
  refine wpAnyH_take (i := 12) (oi := { dst := some 125, op := Op.move (Operand.tmp 9), type := 3, pos := "law.go:206", after := #[], guard := none }) (v := iv) rfl (by kernel_rfl) (by kernel_rfl) (by kernel_rfl) (fun _ _ _ h => h) (Or.inl ⟨by rfl, fun w1 hw => exec_move rfl t9⟩) hHeld ?_
  change wpAnyH _ _ _ _ _ _ _ (a12.put (some 125) (iv)) _
  obtain ⟨a13, e13⟩ : ∃ act, act = a12.put (some 125) (iv) := ⟨_, rfl⟩
  rw [← e13] at h ⊢
  have z13 : a13.tmps.size = 152 := by rw [e13, put_size]; exact z12
  clear t9
  replace t113 : a13.tmps.getD 113 undef = rv := by rw [e13, put_ne _ _ _ _ (by decide)]; exact t113
  replace t118 : a13.tmps.getD 118 undef = kv := by rw [e13, put_ne _ _ _ _ (by decide)]; exact t118
  replace t123 : a13.tmps.getD 123 undef = uv := by rw [e13, put_ne _ _ _ _ (by decide)]; exact t123
  replace t124 : a13.tmps.getD 124 undef = lv := by rw [e13, put_ne _ _ _ _ (by decide)]; exact t124
  have t125 : a13.tmps.getD 125 undef = iv := by rw [e13]; exact put_same _ _ _ (by omega)
  clear e13 z12
  refine wpAnyH_take (i := 13) (oi := { dst := some 126, op := Op.indexAddr 23 (Operand.tmp 124) (Operand.tmp 125), type := 0, pos := "law.go:206", after := #[{ on := 11, ground := Ground.data }, { on := 12, ground := Ground.data }], guard := none }) (v := .pointer (some ⟨b, p, none⟩)) rfl (by kernel_rfl) (by kernel_rfl) (by kernel_rfl) (fun _ _ _ h => h) (Or.inl ⟨by rfl, fun w1 hw => exec_indexAt rfl t124 t125 (G1 _)⟩) hHeld ?_
  change wpAnyH _ _ _ _ _ _ _ (a13.put (some 126) (.pointer (some ⟨b, p, none⟩))) _
  obtain ⟨a14, e14⟩ : ∃ act, act = a13.put (some 126) (.pointer (some ⟨b, p, none⟩)) := ⟨_, rfl⟩
  rw [← e14] at h ⊢
  have z14 : a14.tmps.size = 152 := by rw [e14, put_size]; exact z13
  replace t113 : a14.tmps.getD 113 undef = rv := by rw [e14, put_ne _ _ _ _ (by decide)]; exact t113
  replace t118 : a14.tmps.getD 118 undef = kv := by rw [e14, put_ne _ _ _ _ (by decide)]; exact t118
  replace t123 : a14.tmps.getD 123 undef = uv := by rw [e14, put_ne _ _ _ _ (by decide)]; exact t123
  clear t124
  clear t125
  have t126 : a14.tmps.getD 126 undef = .pointer (some ⟨b, p, none⟩) := by rw [e14]; exact put_same _ _ _ (by omega)
  clear e14 z13
  refine wpAnyH_take (i := 14) (oi := { dst := some 127, op := Op.fieldAddr 39 (Operand.tmp 126) 3, type := 0, pos := "law.go:206", after := #[{ on := 13, ground := Ground.data }], guard := none }) (v := .pointer (some ⟨b, p + 67, none⟩)) rfl (by kernel_rfl) (by kernel_rfl) (by kernel_rfl) (fun _ _ _ h => h) (Or.inl ⟨by rfl, fun w1 hw => exec_fieldAt rfl t126 (fg_39_3 _ _ _)⟩) hHeld ?_
  change wpAnyH _ _ _ _ _ _ _ (a14.put (some 127) (.pointer (some ⟨b, p + 67, none⟩))) _
  obtain ⟨a15, e15⟩ : ∃ act, act = a14.put (some 127) (.pointer (some ⟨b, p + 67, none⟩)) := ⟨_, rfl⟩
  rw [← e15] at h ⊢
  have z15 : a15.tmps.size = 152 := by rw [e15, put_size]; exact z14
  replace t113 : a15.tmps.getD 113 undef = rv := by rw [e15, put_ne _ _ _ _ (by decide)]; exact t113
  replace t118 : a15.tmps.getD 118 undef = kv := by rw [e15, put_ne _ _ _ _ (by decide)]; exact t118
  replace t123 : a15.tmps.getD 123 undef = uv := by rw [e15, put_ne _ _ _ _ (by decide)]; exact t123
  clear t126
  have t127 : a15.tmps.getD 127 undef = .pointer (some ⟨b, p + 67, none⟩) := by rw [e15]; exact put_same _ _ _ (by omega)
  clear e15 z14
  refine wpAnyH_take (i := 15) (oi := { dst := some 128, op := Op.load 9 (Operand.tmp 127), type := 9, pos := "law.go:206", after := #[{ on := 14, ground := Ground.data }], guard := none }) (v := sv) rfl (by kernel_rfl) (by kernel_rfl) (by kernel_rfl) (fun _ _ _ h => h) (Or.inl ⟨by rfl, fun w1 hw => exec_load rfl t127 (G4 _ hw)⟩) hHeld ?_
  change wpAnyH _ _ _ _ _ _ _ (a15.put (some 128) (sv)) _
  obtain ⟨a16, e16⟩ : ∃ act, act = a15.put (some 128) (sv) := ⟨_, rfl⟩
  rw [← e16] at h ⊢
  have z16 : a16.tmps.size = 152 := by rw [e16, put_size]; exact z15
  replace t113 : a16.tmps.getD 113 undef = rv := by rw [e16, put_ne _ _ _ _ (by decide)]; exact t113
  replace t118 : a16.tmps.getD 118 undef = kv := by rw [e16, put_ne _ _ _ _ (by decide)]; exact t118
  replace t123 : a16.tmps.getD 123 undef = uv := by rw [e16, put_ne _ _ _ _ (by decide)]; exact t123
  clear t127
  have t128 : a16.tmps.getD 128 undef = sv := by rw [e16]; exact put_same _ _ _ (by omega)
  clear e16 z15
  refine wpAnyH_ready (rs := [16]) (by kernel_rfl) (by simp) ?_
  refine AllReadyH.cons (o := { dst := some 129, op := Op.call { callee := Callee.value (Operand.func 17), args := #[Operand.tmp 113, Operand.tmp 118, Operand.tmp 123, Operand.tmp 128], argTypes := #[25, 37, 37, 9] }, type := 47, pos := "law.go:206", after := #[{ on := 0, ground := Ground.data }, { on := 5, ground := Ground.data }, { on := 10, ground := Ground.data }, { on := 15, ground := Ground.data }], guard := none }) rfl (fun K hK => ?_) AllReadyH.nil
  rw [if_pos (by rfl)]
  go_simp
  refine (C _ hHeld).mono ?_
  rintro e x17 ⟨t, v, rfl, hs, hq⟩
  try go_wp2_with fail
  replace h := h t v
  refine hK.out _ _ (hs) (fun hHeld => ?_)
  clear hK K
  change wpAnyH _ _ _ _ _ _ _ (a16.put (some 129) (.tuple #[t, v])) _
  obtain ⟨a17, e17⟩ : ∃ act, act = a16.put (some 129) (.tuple #[t, v]) := ⟨_, rfl⟩
  rw [← e17] at h ⊢
  have z17 : a17.tmps.size = 152 := by rw [e17, put_size]; exact z16
  clear t113
  clear t118
  clear t123
  clear t128
  have t129 : a17.tmps.getD 129 undef = .tuple #[t, v] := by rw [e17]; exact put_same _ _ _ (by omega)
  clear e17 z16
  refine wpAnyH_take (i := 17) (oi := { dst := some 112, op := Op.move (Operand.tmp 129), type := 47, pos := "law.go:206", after := #[{ on := 16, ground := Ground.data }], guard := none }) (v := .tuple #[t, v]) rfl (by kernel_rfl) (by kernel_rfl) (by kernel_rfl) (fun _ _ _ h => h) (Or.inl ⟨by rfl, fun w1 hw => exec_move rfl t129⟩) hHeld ?_
  change wpAnyH _ _ _ _ _ _ _ (a17.put (some 112) (.tuple #[t, v])) _
  obtain ⟨a18, e18⟩ : ∃ act, act = a17.put (some 112) (.tuple #[t, v]) := ⟨_, rfl⟩
  rw [← e18] at h ⊢
  have z18 : a18.tmps.size = 152 := by rw [e18, put_size]; exact z17
  clear t129
  have t112 : a18.tmps.getD 112 undef = .tuple #[t, v] := by rw [e18]; exact put_same _ _ _ (by omega)
  clear e18 z17
  refine wpAnyH_take (i := 18) (oi := { dst := some 130, op := Op.extract (Operand.tmp 112) 0, type := 45, pos := "law.go:206", after := #[{ on := 17, ground := Ground.data }], guard := none }) (v := t) rfl (by kernel_rfl) (by kernel_rfl) (by kernel_rfl) (fun _ _ _ h => h) (Or.inl ⟨by rfl, fun w1 hw => exec_extract rfl t112 rfl⟩) hHeld ?_
  change wpAnyH _ _ _ _ _ _ _ (a18.put (some 130) (t)) _
  obtain ⟨a19, e19⟩ : ∃ act, act = a18.put (some 130) (t) := ⟨_, rfl⟩
  rw [← e19] at h ⊢
  have z19 : a19.tmps.size = 152 := by rw [e19, put_size]; exact z18
  replace t112 : a19.tmps.getD 112 undef = .tuple #[t, v] := by rw [e19, put_ne _ _ _ _ (by decide)]; exact t112
  have t130 : a19.tmps.getD 130 undef = t := by rw [e19]; exact put_same _ _ _ (by omega)
  clear e19 z18
  refine wpAnyH_take (i := 19) (oi := { dst := some 131, op := Op.extract (Operand.tmp 112) 1, type := 46, pos := "law.go:206", after := #[{ on := 17, ground := Ground.data }, { on := 20, ground := Ground.gcOnly Departure.lateStores }], guard := none }) (v := v) rfl (by kernel_rfl) (by kernel_rfl) (by kernel_rfl) (fun _ _ _ h => h) (Or.inl ⟨by rfl, fun w1 hw => exec_extract rfl t112 rfl⟩) hHeld ?_
  change wpAnyH _ _ _ _ _ _ _ (a19.put (some 131) (v)) _
  obtain ⟨a20, e20⟩ : ∃ act, act = a19.put (some 131) (v) := ⟨_, rfl⟩
  rw [← e20] at h ⊢
  have z20 : a20.tmps.size = 152 := by rw [e20, put_size]; exact z19
  clear t112
  replace t130 : a20.tmps.getD 130 undef = t := by rw [e20, put_ne _ _ _ _ (by decide)]; exact t130
  have t131 : a20.tmps.getD 131 undef = v := by rw [e20]; exact put_same _ _ _ (by omega)
  clear e20 z19
  refine wpAnyH_take (i := 20) (oi := { dst := some 12, op := Op.assign (Operand.tmp 130), type := 45, pos := "law.go:206", after := #[{ on := 18, ground := Ground.data }, { on := 16, ground := Ground.chain }, { on := 0, ground := Ground.phase }, { on := 1, ground := Ground.phase }, { on := 2, ground := Ground.phase }, { on := 3, ground := Ground.phase }, { on := 4, ground := Ground.phase }, { on := 5, ground := Ground.phase }, { on := 6, ground := Ground.phase }, { on := 7, ground := Ground.phase }, { on := 8, ground := Ground.phase }, { on := 9, ground := Ground.phase }, { on := 10, ground := Ground.phase }, { on := 11, ground := Ground.phase }, { on := 12, ground := Ground.phase }, { on := 13, ground := Ground.phase }, { on := 14, ground := Ground.phase }, { on := 15, ground := Ground.phase }, { on := 16, ground := Ground.phase }, { on := 17, ground := Ground.phase }, { on := 18, ground := Ground.phase }, { on := 19, ground := Ground.textOnly Departure.lateStores }], guard := none }) (v := t) rfl (by kernel_rfl) (by kernel_rfl) (by kernel_rfl) (fun _ _ _ h => h) (Or.inl ⟨by rfl, fun w1 hw => exec_assign rfl t130⟩) hHeld ?_
  change wpAnyH _ _ _ _ _ _ _ (a20.put (some 12) (t)) _
  obtain ⟨a21, e21⟩ : ∃ act, act = a20.put (some 12) (t) := ⟨_, rfl⟩
  rw [← e21] at h ⊢
  have z21 : a21.tmps.size = 152 := by rw [e21, put_size]; exact z20
  clear t130
  replace t131 : a21.tmps.getD 131 undef = v := by rw [e21, put_ne _ _ _ _ (by decide)]; exact t131
  clear e21 z20
  refine wpAnyH_take (i := 21) (oi := { dst := some 13, op := Op.assign (Operand.tmp 131), type := 46, pos := "law.go:206", after := #[{ on := 19, ground := Ground.data }, { on := 20, ground := Ground.chain }, { on := 0, ground := Ground.phase }, { on := 1, ground := Ground.phase }, { on := 2, ground := Ground.phase }, { on := 3, ground := Ground.phase }, { on := 4, ground := Ground.phase }, { on := 5, ground := Ground.phase }, { on := 6, ground := Ground.phase }, { on := 7, ground := Ground.phase }, { on := 8, ground := Ground.phase }, { on := 9, ground := Ground.phase }, { on := 10, ground := Ground.phase }, { on := 11, ground := Ground.phase }, { on := 12, ground := Ground.phase }, { on := 13, ground := Ground.phase }, { on := 14, ground := Ground.phase }, { on := 15, ground := Ground.phase }, { on := 16, ground := Ground.phase }, { on := 17, ground := Ground.phase }, { on := 18, ground := Ground.phase }, { on := 19, ground := Ground.phase }, { on := 20, ground := Ground.phase }], guard := none }) (v := v) rfl (by kernel_rfl) (by kernel_rfl) (by kernel_rfl) (fun _ _ _ h => h) (Or.inl ⟨by rfl, fun w1 hw => exec_assign rfl t131⟩) hHeld ?_
  change wpAnyH _ _ _ _ _ _ _ (a21.put (some 13) (v)) _
  obtain ⟨a22, e22⟩ : ∃ act, act = a21.put (some 13) (v) := ⟨_, rfl⟩
  rw [← e22] at h ⊢
  have z22 : a22.tmps.size = 152 := by rw [e22, put_size]; exact z21
  clear t131
  clear e22 z21
  exact wpAnyH_done (by kernel_rfl) (NoPanic.normal (h _ _ (hq) rfl)) _
end Go.Proofs.Ytoofljkgdjjllaa

namespace Go.Proofs.Ytoofljkgdjjllaa
open Go.RowKit
set_option linter.unusedVariables false
set_option linter.unusedSimpArgs false

theorem look_nil : lookN [] = (fun _ => none) := by funext x; rfl
/-- alike of a nil tree and an empty one. -/
theorem alike_nil (W : World) (d : Nat) (pv : Value) (L : List OpV) (ok : ∀ x ∈ L, x.ok) (hn : L.length ≤ 1256584717422) (hd : RefAt W d [] pv) (v : Value) (hv : IdsIs (namedL L) W v) :
    Calls Try.prog 13 #[.pointer none, .pointer (some ⟨d, 0, none⟩), v] W fun e w' => e = .returned (.bool true) ∧ Below W.heap.size W w' := by
  obtain ⟨av, cv, rfl, hv⟩ := hv
  have hT := tells_ref d [] pv hd (by rw [look_nil]; exact forest_none) (by simp)
  rw [look_nil] at hT
  exact alike_any W (.pointer none) (.pointer (some ⟨d, 0, none⟩)) (fun _ => none) [] forest_none dom_none (by simp) (fun k => zId_ok) av cv (namedL L) hv (namedL_ok ok) (by rw [namedL, List.length_cons, pairs_len]; omega) (tells_nil W) hT
set_option maxRecDepth 100000 in
set_option maxHeartbeats 4000000 in
theorem none_all (a : Option Addr) (c : Nat) (L : List OpV) (w : World) (hL : RowAt 69 OpV.c w a L) (ok : ∀ x ∈ L, x.ok) (hn : L.length ≤ 1256584717422) :
    Calls Try.prog 7 #[.slice a L.length c] w fun e w' => e = .returned (.bool true) ∧ Below w.heap.size w w' := by
  obtain ⟨n, hnn⟩ : ∃ n, L.length = n := ⟨_, rfl⟩
  have HNn := hidMk hnn
  have HLn := hidMk hn
  have HNM := hidMk (fun (W : World) (b : Below w.heap.size w W) => named_any a c L W (hL.below b) ok hn)
  have HAK := hidMk (fun (W : World) (d : Nat) (pv : Value) => alike_nil W d pv L ok hn)
  rw [hnn] at HNM
  rw [hnn]
  clear hnn hn
  have HA := hidMk (alive_any w)
  have HR := hidMk rnew_any
  have HN1 := hidMk new_own
  have HN2 := hidMk new_own
  have HF := hidMk fork_nil
  go_enter Try.func7, Try.ntmps7
  go_wp2_with (first
    | (go_at_call 9; refine HA.out.mono ?_; rintro e w1 ⟨rfl, b1⟩; clear HA)
    | (go_at_call 11; refine (HR.out _).mono ?_; rintro e w2 ⟨d, pv, rfl, hd, b2, ld⟩; clear HR)
    | (go_at_call 10; refine (HN1.out _).mono ?_; rintro e w3 ⟨so, rfl, ho, b3⟩; clear HN1)
    | (go_at_call 10; refine (HN2.out _).mono ?_; rintro e w4 ⟨s0, rfl, h0, b4⟩; clear HN2)
    | (refine wpList_val rfl (exec_bid 1 rfl rfl) ?_)
    | (refine wpList_val rfl (exec_build0 rfl (build_id _)) ?_)
    | (go_at_call 17; refine (fresh_grow h0 b4.size).mono ?_; rintro e w5 ⟨sf, r, rfl, hf, hft, tch⟩)
    | (go_at_call 15; refine (HF.out _).mono ?_; rintro e w6 ⟨rfl, b6⟩; clear HF)
    | (go_at_call 18; refine (undo_nil none _).mono ?_; rintro e w7 ⟨rfl, b7⟩)
    | fail)
  obtain ⟨hnc, hni5⟩ := ni_start b1 b2 hd ho b3 h0 b4 hf tch
  have hni := (hni5.below b6).below b7
  rw [← hft]
  clear hni5 hd ho h0 hf tch b1 b2 b3 b4 b6 b7 ld hft
  generalize so.t = to at *
  generalize w2.heap.size = B1 at *
  generalize w3.heap.size = B2 at *
  generalize w5.heap.size = B3 at *
  obtain ⟨I, hI⟩ : ∃ I, I = NI w d pv B1 B2 B3 sf [r] to := ⟨_, rfl⟩
  have K1 : Hid (∀ W W', I W → Below W.heap.size W W' → I W') := by rw [hI]; exact fun W W' h b => h.below b
  have K2 : Hid (∀ W, I W → Below w.heap.size w W) := by rw [hI]; exact fun W h => h.bel
  have K3 : Hid (∀ (k u : IdK) (key : ByteArray), k.ok → u.ok → ∀ W, I W → Calls Try.prog 17 #[.pointer (some ⟨to, 0, none⟩), k.v, u.v, .string key] W fun e w' => ∃ t v, e = .returned (.tuple #[t, v]) ∧ I w' ∧ (I w' ∧ BackOk B3 w' t)) := by
    rw [hI]; exact fun k u key hk hu W h => ni_grow hnc h k u key hk hu
  have K4 : Hid (∀ W t, I W → BackOk B3 W t → Calls Try.prog 18 #[.pointer (some ⟨sf.t, 0, none⟩), t] W fun e w' => e = .returned (.int .i64 2) ∧ Below W.heap.size W w') := by
    rw [hI]; exact fun W t h hb => ni_undo hnc h t hb
  have K5 : Hid (∀ W, I W → Calls Try.prog 21 #[.pointer (some ⟨sf.t, 0, none⟩)] W fun e w' => e = .returned (.int .i64 1) ∧ Below W.heap.size W w') := by
    rw [hI]; exact fun W h => ni_len h
  have K6 : Hid (∀ W, I W → RefAt W d [] pv) := by rw [hI]; exact fun W h => h.ref
  have hI7 : I w7 := by rw [hI]; exact hni
  clear hnc hni hI
  generalize sf.t = tf at *
  go_loopw [9] (fun v9 wr => ∃ i : Nat, v9 = .int .i64 (i : Int) ∧ i ≤ n ∧ I wr) (fun v9 wr => n - (match v9 with | .int _ i => i.toNat | _ => 0))
  case atStart => exact ⟨0, rfl, Nat.zero_le _, hI7⟩
  case round =>
    clear hI7
    obtain ⟨i, rfl, hin, iw⟩ := hrel
    have hLn := HNn.out
    by_cases hi : i < n
    · have hxi : L[i]? = some L[i] := List.getElem?_eq_getElem (by omega)
      generalize L[i] = x at hxi
      have hxo : x.ok := ok x (List.mem_of_getElem? hxi)
      obtain ⟨b, o, rfl, lb, hr⟩ : ∃ b o, a = some ⟨b, o, none⟩ ∧ b < w.heap.size ∧ w.rangeAt b (o + i * 69) x.c := by
        rcases hL with rfl | ⟨b, o, e, h1, h2⟩
        · simp at hxi
        · exact ⟨b, o, e, h1, h2 i x hxi⟩
      have hbig := HLn.out
      have HX := hidMk (fun (W : World) (hw : I W) => rangeAt_keep hr ((K2.out W hw).block _ lb))
      clear hxi hr lb
      have iwd : I wr.drew := K1.out _ _ iw (Below.refl _ _).drew
      go_upto_region 13 with fail
      refine none13 I (fun t v W => t = .pointer none ∧ v = .int .i64 1 ∧ I W) b (o + i * 69) (.pointer none) (.slice (some ⟨b, o, none⟩) n c) (.int .i64 (i : Int)) x.id.v x.under.v (.string x.key) _ wr _ rfl rfl rfl rfl iwd ?_ ?_ ?_ ?_ ?_ ?_
      · exact fun W hw => (grow_nil _ _ _ x.id x.under rfl rfl W).mono fun e w' ⟨h1, h2⟩ => ⟨_, _, h1, K1.out _ _ hw h2, rfl, rfl, K1.out _ _ hw h2⟩
      · exact fun W => ix_op hi (by omega) W
      · exact fun W hw => op_id hxo (HX.out W hw)
      · exact fun W hw => op_under hxo (HX.out W hw)
      · exact fun W hw => op_key hxo (HX.out W hw)
      rintro t v a' wA ⟨rfl, rfl, iA⟩ ha
      subst ha
      simp only [Act.put, List.setIfInBounds_toArray, List.set_cons_zero, List.set_cons_succ]
      clear iwd iw
      have iAd : I wA.drew := K1.out _ _ iA (Below.refl _ _).drew
      go_upto_region 16 with fail
      refine none16 I (fun t v W => t = .pointer none ∧ v = .int .i64 1 ∧ I W) b (o + i * 69) (.pointer none) (.slice (some ⟨b, o, none⟩) n c) (.int .i64 (i : Int)) x.id.v x.under.v (.string x.key) _ wA _ rfl rfl rfl rfl iAd ?_ ?_ ?_ ?_ ?_ ?_
      · exact fun W hw => (move_nil _ _ _ x.id x.under rfl rfl W).mono fun e w' ⟨h1, h2⟩ => ⟨_, _, h1, K1.out _ _ hw h2, rfl, rfl, K1.out _ _ hw h2⟩
      · exact fun W => ix_op hi (by omega) W
      · exact fun W hw => op_id hxo (HX.out W hw)
      · exact fun W hw => op_under hxo (HX.out W hw)
      · exact fun W hw => op_key hxo (HX.out W hw)
      rintro t v a' wB ⟨rfl, rfl, iB⟩ ha
      subst ha
      simp only [Act.put, List.setIfInBounds_toArray, List.set_cons_zero, List.set_cons_succ]
      clear iAd iA
      have HL := hidMk (op_id hxo (HX.out wB iB))
      go_upto_region 22 with (first
        | (refine wpList_val rfl (exec_load (t := 37) (u := .pointer (some ⟨b, o + i * 69 + 1, none⟩)) rfl rfl HL.out) ?_)
        | (go_at_call 20; refine (prune_nil _ x.id rfl _).mono ?_; rintro e wC ⟨rfl, cC⟩)
        | fail)
      have iC : I wC := K1.out _ _ iB cC
      have iCd : I wC.drew := K1.out _ _ iC (Below.refl _ _).drew
      refine none22 I (fun t v W => I W ∧ BackOk B3 W t) b (o + i * 69) (.pointer (some ⟨to, 0, none⟩)) (.slice (some ⟨b, o, none⟩) n c) (.int .i64 (i : Int)) x.id.v x.under.v (.string x.key) _ wC _ rfl rfl rfl rfl iCd ?_ ?_ ?_ ?_ ?_ ?_
      · exact fun W hw => K3.out x.id x.under x.key hxo.id hxo.under W hw
      · exact fun W => ix_op hi (by omega) W
      · exact fun W hw => op_id hxo (HX.out W hw)
      · exact fun W hw => op_under hxo (HX.out W hw)
      · exact fun W hw => op_key hxo (HX.out W hw)
      rintro t v a' wD ⟨iD, hbD⟩ ha
      subst ha
      simp only [Act.put, List.setIfInBounds_toArray, List.set_cons_zero, List.set_cons_succ]
      clear iC iCd cC iB HL HX K3
      have HU := hidMk (nil_undo t hbD)
      go_wp2_with (first
        | (go_at_call 18; refine HU.out.mono ?_; rintro e wE ⟨rfl, cE⟩; have iE := K1.out _ _ iD cE; have hbE := hbD.below cE; clear HU)
        | (go_at_call 18; refine (K4.out wE t iE hbE).mono ?_; rintro e wF ⟨rfl, cF⟩; have iF := K1.out _ _ iE cF)
        | (go_at_call 21; refine (K5.out wF iF).mono ?_; rintro e wG ⟨rfl, cG⟩; have iG := K1.out _ _ iF cG)
        | fail)
      rw [show ((i : Int) + 1) = ((i + 1 : Nat) : Int) by omega]
      refine ⟨⟨i + 1, rfl, hi, iG⟩, ?_⟩
      show n - ((i + 1 : Nat) : Int).toNat < n - (i : Int).toNat
      omega
    · obtain rfl : i = n := by omega
      have HM := hidMk (HNM.out wr (K2.out _ iw))
      clear hLn hin hi
      go_wp2_with (first
        | (go_at_call 14; refine HM.out.mono ?_; rintro e wn ⟨v, rfl, ov, bn⟩; have iN := K1.out _ _ iw bn; have hv := own_is ov (namedL_ok ok); have rN := K6.out _ iN; have HQ := hidMk (HAK.out wn d pv rN v hv); clear HM ov hv rN)
        | (go_at_call 13; refine HQ.out.mono ?_; rintro e wq ⟨rfl, bq⟩; have iQ := K1.out _ _ iN bq; clear HQ)
        | fail)
      go_ret
      exact ⟨rfl, K2.out _ iQ⟩
end Go.Proofs.Ytoofljkgdjjllaa

