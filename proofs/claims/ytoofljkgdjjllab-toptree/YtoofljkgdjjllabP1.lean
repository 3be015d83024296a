import Derived.Test.YtoofljkgdjjllabP0
namespace Go.Proofs.Ytoofljkgdjjllab
open Go.RowKit
set_option linter.unusedVariables false
set_option linter.unusedSimpArgs false

theorem exec_sliceTo {P : Program} {w : World} {a : Act} {o : Oper} {t : TypeId} {x y : Operand} {xv yv v : Value} (ho : o.op = .slice t x none (some y) none) (hx : a.eval x = xv) (hy : a.eval y = yv) (hl : (Instr.sliceAt t xv none (some yv) none).run P w = .ok v w) : (execOp a.eval o).run P w = .ok (.value v) w := by
  unfold execOp; simp only [ho, Option.map_none, Option.map_some, hx, hy, Sem.run_bind, hl, Result.andThen_ok, Sem.run_pure]
theorem fg_65_0 (b o : Nat) (w : World) : (Instr.fieldAt 65 (.pointer (some ⟨b, o, none⟩)) 0).run Try.prog w = .ok (.pointer (some ⟨b, o + 0, none⟩)) w := by go_simp
theorem fg_65_1 (b o : Nat) (w : World) : (Instr.fieldAt 65 (.pointer (some ⟨b, o, none⟩)) 1).run Try.prog w = .ok (.pointer (some ⟨b, o + 1, none⟩)) w := by go_simp
theorem fg_65_2 (b o : Nat) (w : World) : (Instr.fieldAt 65 (.pointer (some ⟨b, o, none⟩)) 2).run Try.prog w = .ok (.pointer (some ⟨b, o + 34, none⟩)) w := by go_simp
theorem fg_65_3 (b o : Nat) (w : World) : (Instr.fieldAt 65 (.pointer (some ⟨b, o, none⟩)) 3).run Try.prog w = .ok (.pointer (some ⟨b, o + 67, none⟩)) w := by go_simp
def among4_o0 : Oper := { dst := some 12, op := Op.move (Operand.tmp 0), type := 30, pos := "top05.go:111", after := #[], guard := none }
def among4_o1 : Oper := { dst := some 13, op := Op.move (Operand.tmp 5), type := 3, pos := "top05.go:111", after := #[], guard := none }
def among4_o2 : Oper := { dst := some 14, op := Op.indexAddr 30 (Operand.tmp 12) (Operand.tmp 13), type := 0, pos := "top05.go:111", after := #[{ on := 0, ground := Ground.data }, { on := 1, ground := Ground.data }], guard := none }
def among4_o3 : Oper := { dst := some 15, op := Op.load 35 (Operand.tmp 14), type := 35, pos := "top05.go:111", after := #[{ on := 2, ground := Ground.data }], guard := none }
def among4_o4 : Oper := { dst := some 16, op := Op.load 35 (Operand.tmp 3), type := 35, pos := "top05.go:111", after := #[], guard := none }
def among4_o5 : Oper := { dst := some 17, op := Op.binOp BinOp.eql 35 (Operand.tmp 15) (Operand.tmp 16) 35, type := 4, pos := "top05.go:111", after := #[{ on := 3, ground := Ground.data }, { on := 4, ground := Ground.data }], guard := none }
def among4_ops : Array Oper := #[among4_o0, among4_o1, among4_o2, among4_o3, among4_o4, among4_o5]
set_option maxRecDepth 100000 in
set_option maxHeartbeats 4000000 in
theorem among4 (S : World → Prop) (bx : Nat) (lv iv pi xv yv cv : Value) (a : Act) (w : World) (Q : Exit → Act → World → Prop) (hsz : a.tmps.size = 18)
    (t0 : a.tmps.getD 0 undef = lv)
    (t5 : a.tmps.getD 5 undef = iv)
    (t3 : a.tmps.getD 3 undef = .pointer (some ⟨bx, 0, none⟩))
    (h0 : S w.drew)
    (G1 : ∀ W, (Instr.indexAt 30 (lv) (iv)).run Try.prog W = .ok (pi) W)
    (G2 : ∀ W, S W → (Instr.loadAt 35 (pi)).run Try.prog W = .ok (yv) W)
    (G3 : ∀ W, S W → (Instr.loadAt 35 (.pointer (some ⟨bx, 0, none⟩))).run Try.prog W = .ok (xv) W)
    (G4 : ∀ W, (eqGuard BinOp.eql 35 (Operand.tmp 15) (Operand.tmp 16) (yv) (xv)).run Try.prog W = .ok () W)
    (G5 : ∀ W, S W → (binOp BinOp.eql 35 (yv) (xv)).run Try.prog W = .ok (cv) W)
    (h : ∀ (a' : Act) (w' : World), S w' → a' = ((((((a).put (some 12) (lv)).put (some 13) (iv)).put (some 14) (pi)).put (some 15) (yv)).put (some 16) (xv)).put (some 17) (cv) → Q .normal a' w') :
    (Code.region 4 among4_ops true).wp Try.prog Q a w := by
  refine wp_region_noPanic ?_
  refine wp_region_held_drew (S := fun w' => S w') (by kernel_rfl) (h0) (fun hHeld => ?_)
  refine wpAnyH_take (i := 0) (oi := among4_o0) (v := lv) rfl (by kernel_rfl) (by kernel_rfl) (by kernel_rfl) (fun _ _ _ h => h) (Or.inl ⟨by rfl, fun w1 hw => exec_move rfl t0⟩) hHeld ?_
  change wpAnyH _ _ _ _ _ _ _ (a.put (some 12) (lv)) _
  obtain ⟨a1, e1⟩ : ∃ act, act = a.put (some 12) (lv) := ⟨_, rfl⟩
  rw [← e1] at h ⊢
  have z1 := pz e1 hsz
  replace t5 := pk e1 t5 (by decide)
  replace t3 := pk e1 t3 (by decide)
  clear t0
  have t12 := pq e1 hsz (by decide)
  clear e1 hsz
  refine wpAnyH_take (i := 1) (oi := among4_o1) (v := iv) rfl (by kernel_rfl) (by kernel_rfl) (by kernel_rfl) (fun _ _ _ h => h) (Or.inl ⟨by rfl, fun w1 hw => exec_move rfl t5⟩) hHeld ?_
  change wpAnyH _ _ _ _ _ _ _ (a1.put (some 13) (iv)) _
  obtain ⟨a2, e2⟩ : ∃ act, act = a1.put (some 13) (iv) := ⟨_, rfl⟩
  rw [← e2] at h ⊢
  have z2 := pz e2 z1
  replace t3 := pk e2 t3 (by decide)
  replace t12 := pk e2 t12 (by decide)
  clear t5
  have t13 := pq e2 z1 (by decide)
  clear e2 z1
  refine wpAnyH_take (i := 2) (oi := among4_o2) (v := pi) rfl (by kernel_rfl) (by kernel_rfl) (by kernel_rfl) (fun _ _ _ h => h) (Or.inl ⟨by rfl, fun w1 hw => exec_indexAt rfl t12 t13 (G1 _)⟩) hHeld ?_
  change wpAnyH _ _ _ _ _ _ _ (a2.put (some 14) (pi)) _
  obtain ⟨a3, e3⟩ : ∃ act, act = a2.put (some 14) (pi) := ⟨_, rfl⟩
  rw [← e3] at h ⊢
  have z3 := pz e3 z2
  replace t3 := pk e3 t3 (by decide)
  clear t12 t13
  have t14 := pq e3 z2 (by decide)
  clear e3 z2
  refine wpAnyH_take (i := 3) (oi := among4_o3) (v := yv) rfl (by kernel_rfl) (by kernel_rfl) (by kernel_rfl) (fun _ _ _ h => h) (Or.inl ⟨by rfl, fun w1 hw => exec_load rfl t14 (G2 _ hw)⟩) hHeld ?_
  change wpAnyH _ _ _ _ _ _ _ (a3.put (some 15) (yv)) _
  obtain ⟨a4, e4⟩ : ∃ act, act = a3.put (some 15) (yv) := ⟨_, rfl⟩
  rw [← e4] at h ⊢
  have z4 := pz e4 z3
  replace t3 := pk e4 t3 (by decide)
  clear t14
  have t15 := pq e4 z3 (by decide)
  clear e4 z3
  refine wpAnyH_take (i := 4) (oi := among4_o4) (v := xv) rfl (by kernel_rfl) (by kernel_rfl) (by kernel_rfl) (fun _ _ _ h => h) (Or.inl ⟨by rfl, fun w1 hw => exec_load rfl t3 (G3 _ hw)⟩) hHeld ?_
  change wpAnyH _ _ _ _ _ _ _ (a4.put (some 16) (xv)) _
  obtain ⟨a5, e5⟩ : ∃ act, act = a4.put (some 16) (xv) := ⟨_, rfl⟩
  rw [← e5] at h ⊢
  have z5 := pz e5 z4
  replace t15 := pk e5 t15 (by decide)
  clear t3
  have t16 := pq e5 z4 (by decide)
  clear e5 z4
  refine wpAnyH_take (i := 5) (oi := among4_o5) (v := cv) rfl (by kernel_rfl) (by kernel_rfl) (by kernel_rfl) (fun _ _ _ h => h) (Or.inl ⟨by rfl, fun w1 hw => exec_binOp rfl t15 t16 (G4 _) (G5 _ hw)⟩) hHeld ?_
  change wpAnyH _ _ _ _ _ _ _ (a5.put (some 17) (cv)) _
  obtain ⟨a6, e6⟩ : ∃ act, act = a5.put (some 17) (cv) := ⟨_, rfl⟩
  rw [← e6] at h ⊢
  have z6 := pz e6 z5
  clear t15 t16
  clear e6 z5
  exact wpAnyH_done (by kernel_rfl) (NoPanic.normal (h _ _ (hHeld) rfl)) _
def top14z_o0 : Oper := { dst := some 56, op := Op.move (Operand.tmp 12), type := 4, pos := "top05.go:91", after := #[], guard := none }
def top14z_o1 : Oper := { dst := some 57, op := Op.unOp UnOp.not 4 (Operand.tmp 56), type := 4, pos := "top05.go:91", after := #[{ on := 0, ground := Ground.data }], guard := none }
def top14z_o2 : Oper := { dst := some 58, op := Op.move (Operand.tmp 57), type := 4, pos := "top05.go:91", after := #[{ on := 1, ground := Ground.data }], guard := none }
def top14z_o3 : Oper := { dst := some 59, op := Op.move (Operand.tmp 3), type := 24, pos := "top05.go:91", after := #[{ on := 2, ground := Ground.guard }], guard := some (2, false) }
def top14z_o4 : Oper := { dst := some 60, op := Op.move (Operand.tmp 8), type := 30, pos := "top05.go:91", after := #[{ on := 2, ground := Ground.guard }], guard := some (2, false) }
def top14z_o5 : Oper := { dst := some 61, op := Op.move (Operand.tmp 9), type := 3, pos := "top05.go:91", after := #[{ on := 2, ground := Ground.guard }], guard := some (2, false) }
def top14z_o6 : Oper := { dst := some 62, op := Op.indexAddr 30 (Operand.tmp 60) (Operand.tmp 61), type := 0, pos := "top05.go:91", after := #[{ on := 4, ground := Ground.data }, { on := 5, ground := Ground.data }, { on := 2, ground := Ground.guard }], guard := some (2, false) }
def top14z_o7 : Oper := { dst := some 63, op := Op.load 35 (Operand.tmp 62), type := 35, pos := "top05.go:91", after := #[{ on := 6, ground := Ground.data }, { on := 2, ground := Ground.guard }], guard := some (2, false) }
def top14z_o8 : Oper := { dst := some 64, op := Op.call { callee := Callee.value (Operand.func 15), args := #[Operand.tmp 59, Operand.tmp 63], argTypes := #[24, 35] }, type := 4, pos := "top05.go:91", after := #[{ on := 3, ground := Ground.data }, { on := 7, ground := Ground.data }, { on := 2, ground := Ground.chain }, { on := 2, ground := Ground.guard }], guard := some (2, false) }
def top14z_o9 : Oper := { dst := some 65, op := Op.unOp UnOp.not 4 (Operand.tmp 64), type := 4, pos := "top05.go:91", after := #[{ on := 8, ground := Ground.data }, { on := 2, ground := Ground.guard }], guard := some (2, false) }
def top14z_o10 : Oper := { dst := some 66, op := Op.pick (Operand.tmp 58) (Operand.const (Value.bool true)) (Operand.tmp 65), type := 4, pos := "top05.go:91", after := #[{ on := 2, ground := Ground.data }, { on := 9, ground := Ground.data }], guard := none }
def top14z_o11 : Oper := { dst := some 67, op := Op.move (Operand.tmp 66), type := 4, pos := "top05.go:91", after := #[{ on := 10, ground := Ground.data }, { on := 8, ground := Ground.chain }], guard := none }
def top14z_o12 : Oper := { dst := some 68, op := Op.move (Operand.tmp 3), type := 24, pos := "top05.go:91", after := #[{ on := 11, ground := Ground.guard }], guard := some (11, false) }
def top14z_o13 : Oper := { dst := some 69, op := Op.move (Operand.tmp 8), type := 30, pos := "top05.go:91", after := #[{ on := 11, ground := Ground.guard }], guard := some (11, false) }
def top14z_o14 : Oper := { dst := some 70, op := Op.move (Operand.tmp 9), type := 3, pos := "top05.go:91", after := #[{ on := 11, ground := Ground.guard }], guard := some (11, false) }
def top14z_o15 : Oper := { dst := some 71, op := Op.indexAddr 30 (Operand.tmp 69) (Operand.tmp 70), type := 0, pos := "top05.go:91", after := #[{ on := 13, ground := Ground.data }, { on := 14, ground := Ground.data }, { on := 11, ground := Ground.guard }], guard := some (11, false) }
def top14z_o16 : Oper := { dst := some 72, op := Op.load 35 (Operand.tmp 71), type := 35, pos := "top05.go:91", after := #[{ on := 15, ground := Ground.data }, { on := 11, ground := Ground.guard }], guard := some (11, false) }
def top14z_o17 : Oper := { dst := some 73, op := Op.call { callee := Callee.value (Operand.func 28), args := #[Operand.tmp 68, Operand.tmp 72], argTypes := #[24, 35] }, type := 4, pos := "top05.go:91", after := #[{ on := 12, ground := Ground.data }, { on := 16, ground := Ground.data }, { on := 11, ground := Ground.chain }, { on := 11, ground := Ground.guard }], guard := some (11, false) }
def top14z_o18 : Oper := { dst := some 74, op := Op.pick (Operand.tmp 67) (Operand.const (Value.bool true)) (Operand.tmp 73), type := 4, pos := "top05.go:91", after := #[{ on := 11, ground := Ground.data }, { on := 17, ground := Ground.data }], guard := none }
def top14z_o19 : Oper := { dst := some 75, op := Op.move (Operand.tmp 74), type := 4, pos := "top05.go:91", after := #[{ on := 18, ground := Ground.data }, { on := 17, ground := Ground.chain }], guard := none }
def top14z_o20 : Oper := { dst := some 76, op := Op.load 35 (Operand.tmp 10), type := 35, pos := "top05.go:91", after := #[{ on := 19, ground := Ground.guard }], guard := some (19, false) }
def top14z_o21 : Oper := { dst := some 77, op := Op.build 35 #[], type := 35, pos := "top05.go:91", after := #[{ on := 19, ground := Ground.guard }], guard := some (19, false) }
def top14z_o22 : Oper := { dst := some 78, op := Op.binOp BinOp.neq 35 (Operand.tmp 76) (Operand.tmp 77) 35, type := 4, pos := "top05.go:91", after := #[{ on := 20, ground := Ground.data }, { on := 21, ground := Ground.data }, { on := 19, ground := Ground.guard }], guard := some (19, false) }
def top14z_o23 : Oper := { dst := some 79, op := Op.move (Operand.tmp 78), type := 4, pos := "top05.go:91", after := #[{ on := 22, ground := Ground.data }, { on := 19, ground := Ground.chain }, { on := 19, ground := Ground.guard }], guard := some (19, false) }
def top14z_o24 : Oper := { dst := some 80, op := Op.move (Operand.tmp 8), type := 30, pos := "top05.go:91", after := #[{ on := 23, ground := Ground.guard }], guard := some (23, true) }
def top14z_o25 : Oper := { dst := some 81, op := Op.move (Operand.tmp 9), type := 3, pos := "top05.go:91", after := #[{ on := 23, ground := Ground.guard }], guard := some (23, true) }
def top14z_o26 : Oper := { dst := some 82, op := Op.slice 30 (Operand.tmp 80) none (some (Operand.tmp 81)) none, type := 30, pos := "top05.go:91", after := #[{ on := 24, ground := Ground.data }, { on := 25, ground := Ground.data }, { on := 23, ground := Ground.guard }], guard := some (23, true) }
def top14z_o27 : Oper := { dst := some 83, op := Op.load 35 (Operand.tmp 10), type := 35, pos := "top05.go:91", after := #[{ on := 23, ground := Ground.guard }], guard := some (23, true) }
def top14z_o28 : Oper := { dst := some 84, op := Op.call { callee := Callee.value (Operand.func 29), args := #[Operand.tmp 82, Operand.tmp 83], argTypes := #[30, 35] }, type := 4, pos := "top05.go:91", after := #[{ on := 26, ground := Ground.data }, { on := 27, ground := Ground.data }, { on := 23, ground := Ground.chain }, { on := 23, ground := Ground.guard }], guard := some (23, true) }
def top14z_o29 : Oper := { dst := some 85, op := Op.unOp UnOp.not 4 (Operand.tmp 84), type := 4, pos := "top05.go:91", after := #[{ on := 28, ground := Ground.data }, { on := 23, ground := Ground.guard }], guard := some (23, true) }
def top14z_o30 : Oper := { dst := some 86, op := Op.pick (Operand.tmp 79) (Operand.tmp 85) (Operand.const (Value.bool false)), type := 4, pos := "top05.go:91", after := #[{ on := 23, ground := Ground.data }, { on := 29, ground := Ground.data }, { on := 19, ground := Ground.guard }], guard := some (19, false) }
def top14z_o31 : Oper := { dst := some 87, op := Op.pick (Operand.tmp 75) (Operand.const (Value.bool true)) (Operand.tmp 86), type := 4, pos := "top05.go:91", after := #[{ on := 19, ground := Ground.data }, { on := 30, ground := Ground.data }], guard := none }
def top14z_o32 : Oper := { dst := some 88, op := Op.move (Operand.tmp 87), type := 4, pos := "top05.go:91", after := #[{ on := 31, ground := Ground.data }, { on := 28, ground := Ground.chain }], guard := none }
def top14z_o33 : Oper := { dst := some 89, op := Op.move (Operand.tmp 8), type := 30, pos := "top05.go:91", after := #[{ on := 32, ground := Ground.guard }], guard := some (32, false) }
def top14z_o34 : Oper := { dst := some 90, op := Op.move (Operand.tmp 9), type := 3, pos := "top05.go:91", after := #[{ on := 32, ground := Ground.guard }], guard := some (32, false) }
def top14z_o35 : Oper := { dst := some 91, op := Op.slice 30 (Operand.tmp 89) none (some (Operand.tmp 90)) none, type := 30, pos := "top05.go:91", after := #[{ on := 33, ground := Ground.data }, { on := 34, ground := Ground.data }, { on := 32, ground := Ground.guard }], guard := some (32, false) }
def top14z_o36 : Oper := { dst := some 92, op := Op.move (Operand.tmp 8), type := 30, pos := "top05.go:91", after := #[{ on := 32, ground := Ground.guard }], guard := some (32, false) }
def top14z_o37 : Oper := { dst := some 93, op := Op.move (Operand.tmp 9), type := 3, pos := "top05.go:91", after := #[{ on := 32, ground := Ground.guard }], guard := some (32, false) }
def top14z_o38 : Oper := { dst := some 94, op := Op.indexAddr 30 (Operand.tmp 92) (Operand.tmp 93), type := 0, pos := "top05.go:91", after := #[{ on := 36, ground := Ground.data }, { on := 37, ground := Ground.data }, { on := 32, ground := Ground.guard }], guard := some (32, false) }
def top14z_o39 : Oper := { dst := some 95, op := Op.load 35 (Operand.tmp 94), type := 35, pos := "top05.go:91", after := #[{ on := 38, ground := Ground.data }, { on := 32, ground := Ground.guard }], guard := some (32, false) }
def top14z_o40 : Oper := { dst := some 96, op := Op.call { callee := Callee.value (Operand.func 29), args := #[Operand.tmp 91, Operand.tmp 95], argTypes := #[30, 35] }, type := 4, pos := "top05.go:91", after := #[{ on := 35, ground := Ground.data }, { on := 39, ground := Ground.data }, { on := 32, ground := Ground.chain }, { on := 32, ground := Ground.guard }], guard := some (32, false) }
def top14z_o41 : Oper := { dst := some 97, op := Op.pick (Operand.tmp 88) (Operand.const (Value.bool true)) (Operand.tmp 96), type := 4, pos := "top05.go:91", after := #[{ on := 32, ground := Ground.data }, { on := 40, ground := Ground.data }], guard := none }
def top14z_ops : Array Oper := #[top14z_o0, top14z_o1, top14z_o2, top14z_o3, top14z_o4, top14z_o5, top14z_o6, top14z_o7, top14z_o8, top14z_o9, top14z_o10, top14z_o11, top14z_o12, top14z_o13, top14z_o14, top14z_o15, top14z_o16, top14z_o17, top14z_o18, top14z_o19, top14z_o20, top14z_o21, top14z_o22, top14z_o23, top14z_o24, top14z_o25, top14z_o26, top14z_o27, top14z_o28, top14z_o29, top14z_o30, top14z_o31, top14z_o32, top14z_o33, top14z_o34, top14z_o35, top14z_o36, top14z_o37, top14z_o38, top14z_o39, top14z_o40, top14z_o41]
set_option maxRecDepth 100000 in
set_option maxHeartbeats 4000000 in
theorem top14z (S : World → Prop) (bu : Nat) (tv wv iv pi xv uv zv sv : Value) (a : Act) (w : World) (Q : Exit → Act → World → Prop) (hsz : a.tmps.size = 157)
    (t12 : a.tmps.getD 12 undef = .bool true)
    (t3 : a.tmps.getD 3 undef = tv)
    (t8 : a.tmps.getD 8 undef = wv)
    (t9 : a.tmps.getD 9 undef = iv)
    (t10 : a.tmps.getD 10 undef = .pointer (some ⟨bu, 0, none⟩))
    (h0 : S w.drew) (CL : ∀ W, S W → Calls Try.prog 15 #[tv, xv] W fun e w' => e = .returned (.bool true) ∧ S w') (CR : ∀ W, S W → Calls Try.prog 28 #[tv, xv] W fun e w' => e = .returned (.bool false) ∧ S w') (CA : ∀ W, S W → Calls Try.prog 29 #[sv, xv] W fun e w' => e = .returned (.bool false) ∧ S w')
    (G1 : ∀ W, (Instr.indexAt 30 (wv) (iv)).run Try.prog W = .ok (pi) W)
    (G2 : ∀ W, S W → (Instr.loadAt 35 (pi)).run Try.prog W = .ok (xv) W)
    (G3 : ∀ W, S W → (Instr.loadAt 35 (.pointer (some ⟨bu, 0, none⟩))).run Try.prog W = .ok (uv) W)
    (G4 : ∀ W, (Instr.build 35 #[]).run Try.prog W = .ok (zv) W)
    (G5 : ∀ W, (eqGuard BinOp.neq 35 (Operand.tmp 76) (Operand.tmp 77) (uv) (zv)).run Try.prog W = .ok () W)
    (G6 : ∀ W, S W → (binOp BinOp.neq 35 (uv) (zv)).run Try.prog W = .ok (.bool false) W)
    (G7 : ∀ W, (Instr.sliceAt 30 (wv) none (some (iv)) none).run Try.prog W = .ok (sv) W)
    (h : ∀ (a' : Act) (w' : World), S w' → a' = ((((((((((((((((((((((((((((((((((((((((((a).put (some 56) (.bool true)).put (some 57) (.bool false)).put (some 58) (.bool false)).put (some 59) (tv)).put (some 60) (wv)).put (some 61) (iv)).put (some 62) (pi)).put (some 63) (xv)).put (some 64) (.bool true)).put (some 65) (.bool false)).put (some 66) (.bool false)).put (some 67) (.bool false)).put (some 68) (tv)).put (some 69) (wv)).put (some 70) (iv)).put (some 71) (pi)).put (some 72) (xv)).put (some 73) (.bool false)).put (some 74) (.bool false)).put (some 75) (.bool false)).put (some 76) (uv)).put (some 77) (zv)).put (some 78) (.bool false)).put (some 79) (.bool false)).put (some 80) (undef)).put (some 81) (undef)).put (some 82) (undef)).put (some 83) (undef)).put (some 84) (undef)).put (some 85) (undef)).put (some 86) (.bool false)).put (some 87) (.bool false)).put (some 88) (.bool false)).put (some 89) (wv)).put (some 90) (iv)).put (some 91) (sv)).put (some 92) (wv)).put (some 93) (iv)).put (some 94) (pi)).put (some 95) (xv)).put (some 96) (.bool false)).put (some 97) (.bool false) → Q .normal a' w') :
    (Code.region 14 top14z_ops true).wp Try.prog Q a w := by
  refine wp_region_noPanic ?_
  refine wp_region_held_drew (S := fun w' => S w') (by kernel_rfl) (h0) (fun hHeld => ?_)
  refine wpAnyH_take (i := 0) (oi := top14z_o0) (v := .bool true) rfl (by kernel_rfl) (by kernel_rfl) (by kernel_rfl) (fun _ _ _ h => h) (Or.inl ⟨by rfl, fun w1 hw => exec_move rfl t12⟩) hHeld ?_
  change wpAnyH _ _ _ _ _ _ _ (a.put (some 56) (.bool true)) _
  obtain ⟨a1, e1⟩ : ∃ act, act = a.put (some 56) (.bool true) := ⟨_, rfl⟩
  rw [← e1] at h ⊢
  have z1 := pz e1 hsz
  replace t3 := pk e1 t3 (by decide)
  replace t8 := pk e1 t8 (by decide)
  replace t9 := pk e1 t9 (by decide)
  replace t10 := pk e1 t10 (by decide)
  clear t12
  have t56 := pq e1 hsz (by decide)
  clear e1 hsz
  refine wpAnyH_take (i := 1) (oi := top14z_o1) (v := .bool false) rfl (by kernel_rfl) (by kernel_rfl) (by kernel_rfl) (fun _ _ _ h => h) (Or.inl ⟨by rfl, fun w1 hw => by unfold top14z_o1; go_simp⟩) hHeld ?_
  change wpAnyH _ _ _ _ _ _ _ (a1.put (some 57) (.bool false)) _
  obtain ⟨a2, e2⟩ : ∃ act, act = a1.put (some 57) (.bool false) := ⟨_, rfl⟩
  rw [← e2] at h ⊢
  have z2 := pz e2 z1
  replace t3 := pk e2 t3 (by decide)
  replace t8 := pk e2 t8 (by decide)
  replace t9 := pk e2 t9 (by decide)
  replace t10 := pk e2 t10 (by decide)
  clear t56
  have t57 := pq e2 z1 (by decide)
  clear e2 z1
  refine wpAnyH_take (i := 2) (oi := top14z_o2) (v := .bool false) rfl (by kernel_rfl) (by kernel_rfl) (by kernel_rfl) (fun _ _ _ h => h) (Or.inl ⟨by rfl, fun w1 hw => exec_move rfl t57⟩) hHeld ?_
  change wpAnyH _ _ _ _ _ _ _ (a2.put (some 58) (.bool false)) _
  obtain ⟨a3, e3⟩ : ∃ act, act = a2.put (some 58) (.bool false) := ⟨_, rfl⟩
  rw [← e3] at h ⊢
  have z3 := pz e3 z2
  replace t3 := pk e3 t3 (by decide)
  replace t8 := pk e3 t8 (by decide)
  replace t9 := pk e3 t9 (by decide)
  replace t10 := pk e3 t10 (by decide)
  clear t57
  have t58 := pq e3 z2 (by decide)
  clear e3 z2
  refine wpAnyH_take (i := 3) (oi := top14z_o3) (v := tv) rfl (by kernel_rfl) (by kernel_rfl) (by kernel_rfl) (fun _ _ _ h => h) (Or.inl ⟨by simp [Region.wanted, yielded, top14z_ops, top14z_o3, top14z_o2, tget z3 (by decide) t58], fun w1 hw => exec_move rfl t3⟩) hHeld ?_
  change wpAnyH _ _ _ _ _ _ _ (a3.put (some 59) (tv)) _
  obtain ⟨a4, e4⟩ : ∃ act, act = a3.put (some 59) (tv) := ⟨_, rfl⟩
  rw [← e4] at h ⊢
  have z4 := pz e4 z3
  replace t3 := pk e4 t3 (by decide)
  replace t8 := pk e4 t8 (by decide)
  replace t9 := pk e4 t9 (by decide)
  replace t10 := pk e4 t10 (by decide)
  replace t58 := pk e4 t58 (by decide)
  have t59 := pq e4 z3 (by decide)
  clear e4 z3
  refine wpAnyH_take (i := 4) (oi := top14z_o4) (v := wv) rfl (by kernel_rfl) (by kernel_rfl) (by kernel_rfl) (fun _ _ _ h => h) (Or.inl ⟨by simp [Region.wanted, yielded, top14z_ops, top14z_o4, top14z_o2, tget z4 (by decide) t58], fun w1 hw => exec_move rfl t8⟩) hHeld ?_
  change wpAnyH _ _ _ _ _ _ _ (a4.put (some 60) (wv)) _
  obtain ⟨a5, e5⟩ : ∃ act, act = a4.put (some 60) (wv) := ⟨_, rfl⟩
  rw [← e5] at h ⊢
  have z5 := pz e5 z4
  replace t3 := pk e5 t3 (by decide)
  replace t8 := pk e5 t8 (by decide)
  replace t9 := pk e5 t9 (by decide)
  replace t10 := pk e5 t10 (by decide)
  replace t58 := pk e5 t58 (by decide)
  replace t59 := pk e5 t59 (by decide)
  have t60 := pq e5 z4 (by decide)
  clear e5 z4
  refine wpAnyH_take (i := 5) (oi := top14z_o5) (v := iv) rfl (by kernel_rfl) (by kernel_rfl) (by kernel_rfl) (fun _ _ _ h => h) (Or.inl ⟨by simp [Region.wanted, yielded, top14z_ops, top14z_o5, top14z_o2, tget z5 (by decide) t58], fun w1 hw => exec_move rfl t9⟩) hHeld ?_
  change wpAnyH _ _ _ _ _ _ _ (a5.put (some 61) (iv)) _
  obtain ⟨a6, e6⟩ : ∃ act, act = a5.put (some 61) (iv) := ⟨_, rfl⟩
  rw [← e6] at h ⊢
  have z6 := pz e6 z5
  replace t3 := pk e6 t3 (by decide)
  replace t8 := pk e6 t8 (by decide)
  replace t9 := pk e6 t9 (by decide)
  replace t10 := pk e6 t10 (by decide)
  replace t58 := pk e6 t58 (by decide)
  replace t59 := pk e6 t59 (by decide)
  replace t60 := pk e6 t60 (by decide)
  have t61 := pq e6 z5 (by decide)
  clear e6 z5
  refine wpAnyH_take (i := 6) (oi := top14z_o6) (v := pi) rfl (by kernel_rfl) (by kernel_rfl) (by kernel_rfl) (fun _ _ _ h => h) (Or.inl ⟨by simp [Region.wanted, yielded, top14z_ops, top14z_o6, top14z_o2, tget z6 (by decide) t58], fun w1 hw => exec_indexAt rfl t60 t61 (G1 _)⟩) hHeld ?_
  change wpAnyH _ _ _ _ _ _ _ (a6.put (some 62) (pi)) _
  obtain ⟨a7, e7⟩ : ∃ act, act = a6.put (some 62) (pi) := ⟨_, rfl⟩
  rw [← e7] at h ⊢
  have z7 := pz e7 z6
  replace t3 := pk e7 t3 (by decide)
  replace t8 := pk e7 t8 (by decide)
  replace t9 := pk e7 t9 (by decide)
  replace t10 := pk e7 t10 (by decide)
  replace t58 := pk e7 t58 (by decide)
  replace t59 := pk e7 t59 (by decide)
  clear t60 t61
  have t62 := pq e7 z6 (by decide)
  clear e7 z6
  refine wpAnyH_take (i := 7) (oi := top14z_o7) (v := xv) rfl (by kernel_rfl) (by kernel_rfl) (by kernel_rfl) (fun _ _ _ h => h) (Or.inl ⟨by simp [Region.wanted, yielded, top14z_ops, top14z_o7, top14z_o2, tget z7 (by decide) t58], fun w1 hw => exec_load rfl t62 (G2 _ hw)⟩) hHeld ?_
  change wpAnyH _ _ _ _ _ _ _ (a7.put (some 63) (xv)) _
  obtain ⟨a8, e8⟩ : ∃ act, act = a7.put (some 63) (xv) := ⟨_, rfl⟩
  rw [← e8] at h ⊢
  have z8 := pz e8 z7
  replace t3 := pk e8 t3 (by decide)
  replace t8 := pk e8 t8 (by decide)
  replace t9 := pk e8 t9 (by decide)
  replace t10 := pk e8 t10 (by decide)
  replace t58 := pk e8 t58 (by decide)
  replace t59 := pk e8 t59 (by decide)
  clear t62
  have t63 := pq e8 z7 (by decide)
  clear e8 z7
  refine wpAnyH_ready (rs := [8]) (by kernel_rfl) (by simp) ?_
  refine AllReadyH.cons (o := top14z_o8) rfl (fun K hK => ?_) AllReadyH.nil
  rw [if_pos (by simp [Region.wanted, yielded, top14z_ops, top14z_o8, top14z_o2, tget z8 (by decide) t58])]
  unfold top14z_o8 at hK ⊢
  go_simp
  refine (CL _ hHeld).mono ?_
  rintro e x9 ⟨rfl, hs⟩
  try go_wp2_with fail
  skip
  refine hK.out _ _ (hs) (fun hHeld => ?_)
  clear hK K
  change wpAnyH _ _ _ _ _ _ _ (a8.put (some 64) (.bool true)) _
  obtain ⟨a9, e9⟩ : ∃ act, act = a8.put (some 64) (.bool true) := ⟨_, rfl⟩
  rw [← e9] at h ⊢
  have z9 := pz e9 z8
  replace t3 := pk e9 t3 (by decide)
  replace t8 := pk e9 t8 (by decide)
  replace t9 := pk e9 t9 (by decide)
  replace t10 := pk e9 t10 (by decide)
  replace t58 := pk e9 t58 (by decide)
  clear t59 t63
  have t64 := pq e9 z8 (by decide)
  clear e9 z8
  refine wpAnyH_take (i := 9) (oi := top14z_o9) (v := .bool false) rfl (by kernel_rfl) (by kernel_rfl) (by kernel_rfl) (fun _ _ _ h => h) (Or.inl ⟨by simp [Region.wanted, yielded, top14z_ops, top14z_o9, top14z_o2, tget z9 (by decide) t58], fun w1 hw => by unfold top14z_o9; go_simp⟩) hHeld ?_
  change wpAnyH _ _ _ _ _ _ _ (a9.put (some 65) (.bool false)) _
  obtain ⟨a10, e10⟩ : ∃ act, act = a9.put (some 65) (.bool false) := ⟨_, rfl⟩
  rw [← e10] at h ⊢
  have z10 := pz e10 z9
  replace t3 := pk e10 t3 (by decide)
  replace t8 := pk e10 t8 (by decide)
  replace t9 := pk e10 t9 (by decide)
  replace t10 := pk e10 t10 (by decide)
  replace t58 := pk e10 t58 (by decide)
  clear t64
  have t65 := pq e10 z9 (by decide)
  clear e10 z9
  refine wpAnyH_take (i := 10) (oi := top14z_o10) (v := .bool false) rfl (by kernel_rfl) (by kernel_rfl) (by kernel_rfl) (fun _ _ _ h => h) (Or.inl ⟨by rfl, fun w1 hw => by unfold top14z_o10; go_simp⟩) hHeld ?_
  change wpAnyH _ _ _ _ _ _ _ (a10.put (some 66) (.bool false)) _
  obtain ⟨a11, e11⟩ : ∃ act, act = a10.put (some 66) (.bool false) := ⟨_, rfl⟩
  rw [← e11] at h ⊢
  have z11 := pz e11 z10
  replace t3 := pk e11 t3 (by decide)
  replace t8 := pk e11 t8 (by decide)
  replace t9 := pk e11 t9 (by decide)
  replace t10 := pk e11 t10 (by decide)
  clear t58 t65
  have t66 := pq e11 z10 (by decide)
  clear e11 z10
  refine wpAnyH_take (i := 11) (oi := top14z_o11) (v := .bool false) rfl (by kernel_rfl) (by kernel_rfl) (by kernel_rfl) (fun _ _ _ h => h) (Or.inl ⟨by rfl, fun w1 hw => exec_move rfl t66⟩) hHeld ?_
  change wpAnyH _ _ _ _ _ _ _ (a11.put (some 67) (.bool false)) _
  obtain ⟨a12, e12⟩ : ∃ act, act = a11.put (some 67) (.bool false) := ⟨_, rfl⟩
  rw [← e12] at h ⊢
  have z12 := pz e12 z11
  replace t3 := pk e12 t3 (by decide)
  replace t8 := pk e12 t8 (by decide)
  replace t9 := pk e12 t9 (by decide)
  replace t10 := pk e12 t10 (by decide)
  clear t66
  have t67 := pq e12 z11 (by decide)
  clear e12 z11
  refine wpAnyH_take (i := 12) (oi := top14z_o12) (v := tv) rfl (by kernel_rfl) (by kernel_rfl) (by kernel_rfl) (fun _ _ _ h => h) (Or.inl ⟨by simp [Region.wanted, yielded, top14z_ops, top14z_o12, top14z_o11, tget z12 (by decide) t67], fun w1 hw => exec_move rfl t3⟩) hHeld ?_
  change wpAnyH _ _ _ _ _ _ _ (a12.put (some 68) (tv)) _
  obtain ⟨a13, e13⟩ : ∃ act, act = a12.put (some 68) (tv) := ⟨_, rfl⟩
  rw [← e13] at h ⊢
  have z13 := pz e13 z12
  replace t8 := pk e13 t8 (by decide)
  replace t9 := pk e13 t9 (by decide)
  replace t10 := pk e13 t10 (by decide)
  replace t67 := pk e13 t67 (by decide)
  clear t3
  have t68 := pq e13 z12 (by decide)
  clear e13 z12
  refine wpAnyH_take (i := 13) (oi := top14z_o13) (v := wv) rfl (by kernel_rfl) (by kernel_rfl) (by kernel_rfl) (fun _ _ _ h => h) (Or.inl ⟨by simp [Region.wanted, yielded, top14z_ops, top14z_o13, top14z_o11, tget z13 (by decide) t67], fun w1 hw => exec_move rfl t8⟩) hHeld ?_
  change wpAnyH _ _ _ _ _ _ _ (a13.put (some 69) (wv)) _
  obtain ⟨a14, e14⟩ : ∃ act, act = a13.put (some 69) (wv) := ⟨_, rfl⟩
  rw [← e14] at h ⊢
  have z14 := pz e14 z13
  replace t8 := pk e14 t8 (by decide)
  replace t9 := pk e14 t9 (by decide)
  replace t10 := pk e14 t10 (by decide)
  replace t67 := pk e14 t67 (by decide)
  replace t68 := pk e14 t68 (by decide)
  have t69 := pq e14 z13 (by decide)
  clear e14 z13
  refine wpAnyH_take (i := 14) (oi := top14z_o14) (v := iv) rfl (by kernel_rfl) (by kernel_rfl) (by kernel_rfl) (fun _ _ _ h => h) (Or.inl ⟨by simp [Region.wanted, yielded, top14z_ops, top14z_o14, top14z_o11, tget z14 (by decide) t67], fun w1 hw => exec_move rfl t9⟩) hHeld ?_
  change wpAnyH _ _ _ _ _ _ _ (a14.put (some 70) (iv)) _
  obtain ⟨a15, e15⟩ : ∃ act, act = a14.put (some 70) (iv) := ⟨_, rfl⟩
  rw [← e15] at h ⊢
  have z15 := pz e15 z14
  replace t8 := pk e15 t8 (by decide)
  replace t9 := pk e15 t9 (by decide)
  replace t10 := pk e15 t10 (by decide)
  replace t67 := pk e15 t67 (by decide)
  replace t68 := pk e15 t68 (by decide)
  replace t69 := pk e15 t69 (by decide)
  have t70 := pq e15 z14 (by decide)
  clear e15 z14
  refine wpAnyH_take (i := 15) (oi := top14z_o15) (v := pi) rfl (by kernel_rfl) (by kernel_rfl) (by kernel_rfl) (fun _ _ _ h => h) (Or.inl ⟨by simp [Region.wanted, yielded, top14z_ops, top14z_o15, top14z_o11, tget z15 (by decide) t67], fun w1 hw => exec_indexAt rfl t69 t70 (G1 _)⟩) hHeld ?_
  change wpAnyH _ _ _ _ _ _ _ (a15.put (some 71) (pi)) _
  obtain ⟨a16, e16⟩ : ∃ act, act = a15.put (some 71) (pi) := ⟨_, rfl⟩
  rw [← e16] at h ⊢
  have z16 := pz e16 z15
  replace t8 := pk e16 t8 (by decide)
  replace t9 := pk e16 t9 (by decide)
  replace t10 := pk e16 t10 (by decide)
  replace t67 := pk e16 t67 (by decide)
  replace t68 := pk e16 t68 (by decide)
  clear t69 t70
  have t71 := pq e16 z15 (by decide)
  clear e16 z15
  refine wpAnyH_take (i := 16) (oi := top14z_o16) (v := xv) rfl (by kernel_rfl) (by kernel_rfl) (by kernel_rfl) (fun _ _ _ h => h) (Or.inl ⟨by simp [Region.wanted, yielded, top14z_ops, top14z_o16, top14z_o11, tget z16 (by decide) t67], fun w1 hw => exec_load rfl t71 (G2 _ hw)⟩) hHeld ?_
  change wpAnyH _ _ _ _ _ _ _ (a16.put (some 72) (xv)) _
  obtain ⟨a17, e17⟩ : ∃ act, act = a16.put (some 72) (xv) := ⟨_, rfl⟩
  rw [← e17] at h ⊢
  have z17 := pz e17 z16
  replace t8 := pk e17 t8 (by decide)
  replace t9 := pk e17 t9 (by decide)
  replace t10 := pk e17 t10 (by decide)
  replace t67 := pk e17 t67 (by decide)
  replace t68 := pk e17 t68 (by decide)
  clear t71
  have t72 := pq e17 z16 (by decide)
  clear e17 z16
  refine wpAnyH_ready (rs := [17]) (by kernel_rfl) (by simp) ?_
  refine AllReadyH.cons (o := top14z_o17) rfl (fun K hK => ?_) AllReadyH.nil
  rw [if_pos (by simp [Region.wanted, yielded, top14z_ops, top14z_o17, top14z_o11, tget z17 (by decide) t67])]
  unfold top14z_o17 at hK ⊢
  go_simp
  refine (CR _ hHeld).mono ?_
  rintro e x18 ⟨rfl, hs⟩
  try go_wp2_with fail
  skip
  refine hK.out _ _ (hs) (fun hHeld => ?_)
  clear hK K
  change wpAnyH _ _ _ _ _ _ _ (a17.put (some 73) (.bool false)) _
  obtain ⟨a18, e18⟩ : ∃ act, act = a17.put (some 73) (.bool false) := ⟨_, rfl⟩
  rw [← e18] at h ⊢
  have z18 := pz e18 z17
  replace t8 := pk e18 t8 (by decide)
  replace t9 := pk e18 t9 (by decide)
  replace t10 := pk e18 t10 (by decide)
  replace t67 := pk e18 t67 (by decide)
  clear t68 t72
  have t73 := pq e18 z17 (by decide)
  clear e18 z17
  refine wpAnyH_take (i := 18) (oi := top14z_o18) (v := .bool false) rfl (by kernel_rfl) (by kernel_rfl) (by kernel_rfl) (fun _ _ _ h => h) (Or.inl ⟨by rfl, fun w1 hw => by unfold top14z_o18; go_simp⟩) hHeld ?_
  change wpAnyH _ _ _ _ _ _ _ (a18.put (some 74) (.bool false)) _
  obtain ⟨a19, e19⟩ : ∃ act, act = a18.put (some 74) (.bool false) := ⟨_, rfl⟩
  rw [← e19] at h ⊢
  have z19 := pz e19 z18
  replace t8 := pk e19 t8 (by decide)
  replace t9 := pk e19 t9 (by decide)
  replace t10 := pk e19 t10 (by decide)
  clear t67 t73
  have t74 := pq e19 z18 (by decide)
  clear e19 z18
  refine wpAnyH_take (i := 19) (oi := top14z_o19) (v := .bool false) rfl (by kernel_rfl) (by kernel_rfl) (by kernel_rfl) (fun _ _ _ h => h) (Or.inl ⟨by rfl, fun w1 hw => exec_move rfl t74⟩) hHeld ?_
  change wpAnyH _ _ _ _ _ _ _ (a19.put (some 75) (.bool false)) _
  obtain ⟨a20, e20⟩ : ∃ act, act = a19.put (some 75) (.bool false) := ⟨_, rfl⟩
  rw [← e20] at h ⊢
  have z20 := pz e20 z19
  replace t8 := pk e20 t8 (by decide)
  replace t9 := pk e20 t9 (by decide)
  replace t10 := pk e20 t10 (by decide)
  clear t74
  have t75 := pq e20 z19 (by decide)
  clear e20 z19
  refine wpAnyH_take (i := 20) (oi := top14z_o20) (v := uv) rfl (by kernel_rfl) (by kernel_rfl) (by kernel_rfl) (fun _ _ _ h => h) (Or.inl ⟨by simp [Region.wanted, yielded, top14z_ops, top14z_o20, top14z_o19, tget z20 (by decide) t75], fun w1 hw => exec_load rfl t10 (G3 _ hw)⟩) hHeld ?_
  change wpAnyH _ _ _ _ _ _ _ (a20.put (some 76) (uv)) _
  obtain ⟨a21, e21⟩ : ∃ act, act = a20.put (some 76) (uv) := ⟨_, rfl⟩
  rw [← e21] at h ⊢
  have z21 := pz e21 z20
  replace t8 := pk e21 t8 (by decide)
  replace t9 := pk e21 t9 (by decide)
  replace t10 := pk e21 t10 (by decide)
  replace t75 := pk e21 t75 (by decide)
  have t76 := pq e21 z20 (by decide)
  clear e21 z20
  refine wpAnyH_take (i := 21) (oi := top14z_o21) (v := zv) rfl (by kernel_rfl) (by kernel_rfl) (by kernel_rfl) (fun _ _ _ h => h) (Or.inl ⟨by simp [Region.wanted, yielded, top14z_ops, top14z_o21, top14z_o19, tget z21 (by decide) t75], fun w1 hw => exec_build0 rfl (G4 _)⟩) hHeld ?_
  change wpAnyH _ _ _ _ _ _ _ (a21.put (some 77) (zv)) _
  obtain ⟨a22, e22⟩ : ∃ act, act = a21.put (some 77) (zv) := ⟨_, rfl⟩
  rw [← e22] at h ⊢
  have z22 := pz e22 z21
  replace t8 := pk e22 t8 (by decide)
  replace t9 := pk e22 t9 (by decide)
  replace t10 := pk e22 t10 (by decide)
  replace t75 := pk e22 t75 (by decide)
  replace t76 := pk e22 t76 (by decide)
  have t77 := pq e22 z21 (by decide)
  clear e22 z21
  refine wpAnyH_take (i := 22) (oi := top14z_o22) (v := .bool false) rfl (by kernel_rfl) (by kernel_rfl) (by kernel_rfl) (fun _ _ _ h => h) (Or.inl ⟨by simp [Region.wanted, yielded, top14z_ops, top14z_o22, top14z_o19, tget z22 (by decide) t75], fun w1 hw => exec_binOp rfl t76 t77 (G5 _) (G6 _ hw)⟩) hHeld ?_
  change wpAnyH _ _ _ _ _ _ _ (a22.put (some 78) (.bool false)) _
  obtain ⟨a23, e23⟩ : ∃ act, act = a22.put (some 78) (.bool false) := ⟨_, rfl⟩
  rw [← e23] at h ⊢
  have z23 := pz e23 z22
  replace t8 := pk e23 t8 (by decide)
  replace t9 := pk e23 t9 (by decide)
  replace t10 := pk e23 t10 (by decide)
  replace t75 := pk e23 t75 (by decide)
  clear t76 t77
  have t78 := pq e23 z22 (by decide)
  clear e23 z22
  refine wpAnyH_take (i := 23) (oi := top14z_o23) (v := .bool false) rfl (by kernel_rfl) (by kernel_rfl) (by kernel_rfl) (fun _ _ _ h => h) (Or.inl ⟨by simp [Region.wanted, yielded, top14z_ops, top14z_o23, top14z_o19, tget z23 (by decide) t75], fun w1 hw => exec_move rfl t78⟩) hHeld ?_
  change wpAnyH _ _ _ _ _ _ _ (a23.put (some 79) (.bool false)) _
  obtain ⟨a24, e24⟩ : ∃ act, act = a23.put (some 79) (.bool false) := ⟨_, rfl⟩
  rw [← e24] at h ⊢
  have z24 := pz e24 z23
  replace t8 := pk e24 t8 (by decide)
  replace t9 := pk e24 t9 (by decide)
  replace t10 := pk e24 t10 (by decide)
  replace t75 := pk e24 t75 (by decide)
  clear t78
  have t79 := pq e24 z23 (by decide)
  clear e24 z23
  refine wpAnyH_take (i := 24) (oi := top14z_o24) (v := undef) rfl (by kernel_rfl) (by kernel_rfl) (by kernel_rfl) (fun _ _ _ h => h) (Or.inr ⟨by simp [Region.wanted, yielded, top14z_ops, top14z_o24, top14z_o23, tget z24 (by decide) t79], rfl⟩) hHeld ?_
  change wpAnyH _ _ _ _ _ _ _ (a24.put (some 80) (undef)) _
  obtain ⟨a25, e25⟩ : ∃ act, act = a24.put (some 80) (undef) := ⟨_, rfl⟩
  rw [← e25] at h ⊢
  have z25 := pz e25 z24
  replace t8 := pk e25 t8 (by decide)
  replace t9 := pk e25 t9 (by decide)
  replace t10 := pk e25 t10 (by decide)
  replace t75 := pk e25 t75 (by decide)
  replace t79 := pk e25 t79 (by decide)
  have t80 := pq e25 z24 (by decide)
  clear e25 z24
  refine wpAnyH_take (i := 25) (oi := top14z_o25) (v := undef) rfl (by kernel_rfl) (by kernel_rfl) (by kernel_rfl) (fun _ _ _ h => h) (Or.inr ⟨by simp [Region.wanted, yielded, top14z_ops, top14z_o25, top14z_o23, tget z25 (by decide) t79], rfl⟩) hHeld ?_
  change wpAnyH _ _ _ _ _ _ _ (a25.put (some 81) (undef)) _
  obtain ⟨a26, e26⟩ : ∃ act, act = a25.put (some 81) (undef) := ⟨_, rfl⟩
  rw [← e26] at h ⊢
  have z26 := pz e26 z25
  replace t8 := pk e26 t8 (by decide)
  replace t9 := pk e26 t9 (by decide)
  replace t10 := pk e26 t10 (by decide)
  replace t75 := pk e26 t75 (by decide)
  replace t79 := pk e26 t79 (by decide)
  replace t80 := pk e26 t80 (by decide)
  have t81 := pq e26 z25 (by decide)
  clear e26 z25
  refine wpAnyH_take (i := 26) (oi := top14z_o26) (v := undef) rfl (by kernel_rfl) (by kernel_rfl) (by kernel_rfl) (fun _ _ _ h => h) (Or.inr ⟨by simp [Region.wanted, yielded, top14z_ops, top14z_o26, top14z_o23, tget z26 (by decide) t79], rfl⟩) hHeld ?_
  change wpAnyH _ _ _ _ _ _ _ (a26.put (some 82) (undef)) _
  obtain ⟨a27, e27⟩ : ∃ act, act = a26.put (some 82) (undef) := ⟨_, rfl⟩
  rw [← e27] at h ⊢
  have z27 := pz e27 z26
  replace t8 := pk e27 t8 (by decide)
  replace t9 := pk e27 t9 (by decide)
  replace t10 := pk e27 t10 (by decide)
  replace t75 := pk e27 t75 (by decide)
  replace t79 := pk e27 t79 (by decide)
  clear t80 t81
  have t82 := pq e27 z26 (by decide)
  clear e27 z26
  refine wpAnyH_take (i := 27) (oi := top14z_o27) (v := undef) rfl (by kernel_rfl) (by kernel_rfl) (by kernel_rfl) (fun _ _ _ h => h) (Or.inr ⟨by simp [Region.wanted, yielded, top14z_ops, top14z_o27, top14z_o23, tget z27 (by decide) t79], rfl⟩) hHeld ?_
  change wpAnyH _ _ _ _ _ _ _ (a27.put (some 83) (undef)) _
  obtain ⟨a28, e28⟩ : ∃ act, act = a27.put (some 83) (undef) := ⟨_, rfl⟩
  rw [← e28] at h ⊢
  have z28 := pz e28 z27
  replace t8 := pk e28 t8 (by decide)
  replace t9 := pk e28 t9 (by decide)
  replace t75 := pk e28 t75 (by decide)
  replace t79 := pk e28 t79 (by decide)
  replace t82 := pk e28 t82 (by decide)
  clear t10
  have t83 := pq e28 z27 (by decide)
  clear e28 z27
  refine wpAnyH_take (i := 28) (oi := top14z_o28) (v := undef) rfl (by kernel_rfl) (by kernel_rfl) (by kernel_rfl) (fun _ _ _ h => h) (Or.inr ⟨by simp [Region.wanted, yielded, top14z_ops, top14z_o28, top14z_o23, tget z28 (by decide) t79], rfl⟩) hHeld ?_
  change wpAnyH _ _ _ _ _ _ _ (a28.put (some 84) (undef)) _
  obtain ⟨a29, e29⟩ : ∃ act, act = a28.put (some 84) (undef) := ⟨_, rfl⟩
  rw [← e29] at h ⊢
  have z29 := pz e29 z28
  replace t8 := pk e29 t8 (by decide)
  replace t9 := pk e29 t9 (by decide)
  replace t75 := pk e29 t75 (by decide)
  replace t79 := pk e29 t79 (by decide)
  clear t82 t83
  have t84 := pq e29 z28 (by decide)
  clear e29 z28
  refine wpAnyH_take (i := 29) (oi := top14z_o29) (v := undef) rfl (by kernel_rfl) (by kernel_rfl) (by kernel_rfl) (fun _ _ _ h => h) (Or.inr ⟨by simp [Region.wanted, yielded, top14z_ops, top14z_o29, top14z_o23, tget z29 (by decide) t79], rfl⟩) hHeld ?_
  change wpAnyH _ _ _ _ _ _ _ (a29.put (some 85) (undef)) _
  obtain ⟨a30, e30⟩ : ∃ act, act = a29.put (some 85) (undef) := ⟨_, rfl⟩
  rw [← e30] at h ⊢
  have z30 := pz e30 z29
  replace t8 := pk e30 t8 (by decide)
  replace t9 := pk e30 t9 (by decide)
  replace t75 := pk e30 t75 (by decide)
  replace t79 := pk e30 t79 (by decide)
  clear t84
  have t85 := pq e30 z29 (by decide)
  clear e30 z29
  refine wpAnyH_take (i := 30) (oi := top14z_o30) (v := .bool false) rfl (by kernel_rfl) (by kernel_rfl) (by kernel_rfl) (fun _ _ _ h => h) (Or.inl ⟨by simp [Region.wanted, yielded, top14z_ops, top14z_o30, top14z_o19, tget z30 (by decide) t75], fun w1 hw => by unfold top14z_o30; go_simp⟩) hHeld ?_
  change wpAnyH _ _ _ _ _ _ _ (a30.put (some 86) (.bool false)) _
  obtain ⟨a31, e31⟩ : ∃ act, act = a30.put (some 86) (.bool false) := ⟨_, rfl⟩
  rw [← e31] at h ⊢
  have z31 := pz e31 z30
  replace t8 := pk e31 t8 (by decide)
  replace t9 := pk e31 t9 (by decide)
  replace t75 := pk e31 t75 (by decide)
  clear t79 t85
  have t86 := pq e31 z30 (by decide)
  clear e31 z30
  refine wpAnyH_take (i := 31) (oi := top14z_o31) (v := .bool false) rfl (by kernel_rfl) (by kernel_rfl) (by kernel_rfl) (fun _ _ _ h => h) (Or.inl ⟨by rfl, fun w1 hw => by unfold top14z_o31; go_simp⟩) hHeld ?_
  change wpAnyH _ _ _ _ _ _ _ (a31.put (some 87) (.bool false)) _
  obtain ⟨a32, e32⟩ : ∃ act, act = a31.put (some 87) (.bool false) := ⟨_, rfl⟩
  rw [← e32] at h ⊢
  have z32 := pz e32 z31
  replace t8 := pk e32 t8 (by decide)
  replace t9 := pk e32 t9 (by decide)
  clear t75 t86
  have t87 := pq e32 z31 (by decide)
  clear e32 z31
  refine wpAnyH_take (i := 32) (oi := top14z_o32) (v := .bool false) rfl (by kernel_rfl) (by kernel_rfl) (by kernel_rfl) (fun _ _ _ h => h) (Or.inl ⟨by rfl, fun w1 hw => exec_move rfl t87⟩) hHeld ?_
  change wpAnyH _ _ _ _ _ _ _ (a32.put (some 88) (.bool false)) _
  obtain ⟨a33, e33⟩ : ∃ act, act = a32.put (some 88) (.bool false) := ⟨_, rfl⟩
  rw [← e33] at h ⊢
  have z33 := pz e33 z32
  replace t8 := pk e33 t8 (by decide)
  replace t9 := pk e33 t9 (by decide)
  clear t87
  have t88 := pq e33 z32 (by decide)
  clear e33 z32
  refine wpAnyH_take (i := 33) (oi := top14z_o33) (v := wv) rfl (by kernel_rfl) (by kernel_rfl) (by kernel_rfl) (fun _ _ _ h => h) (Or.inl ⟨by simp [Region.wanted, yielded, top14z_ops, top14z_o33, top14z_o32, tget z33 (by decide) t88], fun w1 hw => exec_move rfl t8⟩) hHeld ?_
  change wpAnyH _ _ _ _ _ _ _ (a33.put (some 89) (wv)) _
  obtain ⟨a34, e34⟩ : ∃ act, act = a33.put (some 89) (wv) := ⟨_, rfl⟩
  rw [← e34] at h ⊢
  have z34 := pz e34 z33
  replace t8 := pk e34 t8 (by decide)
  replace t9 := pk e34 t9 (by decide)
  replace t88 := pk e34 t88 (by decide)
  have t89 := pq e34 z33 (by decide)
  clear e34 z33
  refine wpAnyH_take (i := 34) (oi := top14z_o34) (v := iv) rfl (by kernel_rfl) (by kernel_rfl) (by kernel_rfl) (fun _ _ _ h => h) (Or.inl ⟨by simp [Region.wanted, yielded, top14z_ops, top14z_o34, top14z_o32, tget z34 (by decide) t88], fun w1 hw => exec_move rfl t9⟩) hHeld ?_
  change wpAnyH _ _ _ _ _ _ _ (a34.put (some 90) (iv)) _
  obtain ⟨a35, e35⟩ : ∃ act, act = a34.put (some 90) (iv) := ⟨_, rfl⟩
  rw [← e35] at h ⊢
  have z35 := pz e35 z34
  replace t8 := pk e35 t8 (by decide)
  replace t9 := pk e35 t9 (by decide)
  replace t88 := pk e35 t88 (by decide)
  replace t89 := pk e35 t89 (by decide)
  have t90 := pq e35 z34 (by decide)
  clear e35 z34
  refine wpAnyH_take (i := 35) (oi := top14z_o35) (v := sv) rfl (by kernel_rfl) (by kernel_rfl) (by kernel_rfl) (fun _ _ _ h => h) (Or.inl ⟨by simp [Region.wanted, yielded, top14z_ops, top14z_o35, top14z_o32, tget z35 (by decide) t88], fun w1 hw => exec_sliceTo rfl t89 t90 (G7 _)⟩) hHeld ?_
  change wpAnyH _ _ _ _ _ _ _ (a35.put (some 91) (sv)) _
  obtain ⟨a36, e36⟩ : ∃ act, act = a35.put (some 91) (sv) := ⟨_, rfl⟩
  rw [← e36] at h ⊢
  have z36 := pz e36 z35
  replace t8 := pk e36 t8 (by decide)
  replace t9 := pk e36 t9 (by decide)
  replace t88 := pk e36 t88 (by decide)
  clear t89 t90
  have t91 := pq e36 z35 (by decide)
  clear e36 z35
  refine wpAnyH_take (i := 36) (oi := top14z_o36) (v := wv) rfl (by kernel_rfl) (by kernel_rfl) (by kernel_rfl) (fun _ _ _ h => h) (Or.inl ⟨by simp [Region.wanted, yielded, top14z_ops, top14z_o36, top14z_o32, tget z36 (by decide) t88], fun w1 hw => exec_move rfl t8⟩) hHeld ?_
  change wpAnyH _ _ _ _ _ _ _ (a36.put (some 92) (wv)) _
  obtain ⟨a37, e37⟩ : ∃ act, act = a36.put (some 92) (wv) := ⟨_, rfl⟩
  rw [← e37] at h ⊢
  have z37 := pz e37 z36
  replace t9 := pk e37 t9 (by decide)
  replace t88 := pk e37 t88 (by decide)
  replace t91 := pk e37 t91 (by decide)
  clear t8
  have t92 := pq e37 z36 (by decide)
  clear e37 z36
  refine wpAnyH_take (i := 37) (oi := top14z_o37) (v := iv) rfl (by kernel_rfl) (by kernel_rfl) (by kernel_rfl) (fun _ _ _ h => h) (Or.inl ⟨by simp [Region.wanted, yielded, top14z_ops, top14z_o37, top14z_o32, tget z37 (by decide) t88], fun w1 hw => exec_move rfl t9⟩) hHeld ?_
  change wpAnyH _ _ _ _ _ _ _ (a37.put (some 93) (iv)) _
  obtain ⟨a38, e38⟩ : ∃ act, act = a37.put (some 93) (iv) := ⟨_, rfl⟩
  rw [← e38] at h ⊢
  have z38 := pz e38 z37
  replace t88 := pk e38 t88 (by decide)
  replace t91 := pk e38 t91 (by decide)
  replace t92 := pk e38 t92 (by decide)
  clear t9
  have t93 := pq e38 z37 (by decide)
  clear e38 z37
  refine wpAnyH_take (i := 38) (oi := top14z_o38) (v := pi) rfl (by kernel_rfl) (by kernel_rfl) (by kernel_rfl) (fun _ _ _ h => h) (Or.inl ⟨by simp [Region.wanted, yielded, top14z_ops, top14z_o38, top14z_o32, tget z38 (by decide) t88], fun w1 hw => exec_indexAt rfl t92 t93 (G1 _)⟩) hHeld ?_
  change wpAnyH _ _ _ _ _ _ _ (a38.put (some 94) (pi)) _
  obtain ⟨a39, e39⟩ : ∃ act, act = a38.put (some 94) (pi) := ⟨_, rfl⟩
  rw [← e39] at h ⊢
  have z39 := pz e39 z38
  replace t88 := pk e39 t88 (by decide)
  replace t91 := pk e39 t91 (by decide)
  clear t92 t93
  have t94 := pq e39 z38 (by decide)
  clear e39 z38
  refine wpAnyH_take (i := 39) (oi := top14z_o39) (v := xv) rfl (by kernel_rfl) (by kernel_rfl) (by kernel_rfl) (fun _ _ _ h => h) (Or.inl ⟨by simp [Region.wanted, yielded, top14z_ops, top14z_o39, top14z_o32, tget z39 (by decide) t88], fun w1 hw => exec_load rfl t94 (G2 _ hw)⟩) hHeld ?_
  change wpAnyH _ _ _ _ _ _ _ (a39.put (some 95) (xv)) _
  obtain ⟨a40, e40⟩ : ∃ act, act = a39.put (some 95) (xv) := ⟨_, rfl⟩
  rw [← e40] at h ⊢
  have z40 := pz e40 z39
  replace t88 := pk e40 t88 (by decide)
  replace t91 := pk e40 t91 (by decide)
  clear t94
  have t95 := pq e40 z39 (by decide)
  clear e40 z39
  refine wpAnyH_ready (rs := [40]) (by kernel_rfl) (by simp) ?_
  refine AllReadyH.cons (o := top14z_o40) rfl (fun K hK => ?_) AllReadyH.nil
  rw [if_pos (by simp [Region.wanted, yielded, top14z_ops, top14z_o40, top14z_o32, tget z40 (by decide) t88])]
  unfold top14z_o40 at hK ⊢
  go_simp
  refine (CA _ hHeld).mono ?_
  rintro e x41 ⟨rfl, hs⟩
  try go_wp2_with fail
  skip
  refine hK.out _ _ (hs) (fun hHeld => ?_)
  clear hK K
  change wpAnyH _ _ _ _ _ _ _ (a40.put (some 96) (.bool false)) _
  obtain ⟨a41, e41⟩ : ∃ act, act = a40.put (some 96) (.bool false) := ⟨_, rfl⟩
  rw [← e41] at h ⊢
  have z41 := pz e41 z40
  replace t88 := pk e41 t88 (by decide)
  clear t91 t95
  have t96 := pq e41 z40 (by decide)
  clear e41 z40
  refine wpAnyH_take (i := 41) (oi := top14z_o41) (v := .bool false) rfl (by kernel_rfl) (by kernel_rfl) (by kernel_rfl) (fun _ _ _ h => h) (Or.inl ⟨by rfl, fun w1 hw => by unfold top14z_o41; go_simp⟩) hHeld ?_
  change wpAnyH _ _ _ _ _ _ _ (a41.put (some 97) (.bool false)) _
  obtain ⟨a42, e42⟩ : ∃ act, act = a41.put (some 97) (.bool false) := ⟨_, rfl⟩
  rw [← e42] at h ⊢
  have z42 := pz e42 z41
  clear t88 t96
  clear e42 z41
  exact wpAnyH_done (by kernel_rfl) (NoPanic.normal (h _ _ (hHeld) rfl)) _
def top14u_o0 : Oper := { dst := some 56, op := Op.move (Operand.tmp 12), type := 4, pos := "top05.go:91", after := #[], guard := none }
def top14u_o1 : Oper := { dst := some 57, op := Op.unOp UnOp.not 4 (Operand.tmp 56), type := 4, pos := "top05.go:91", after := #[{ on := 0, ground := Ground.data }], guard := none }
def top14u_o2 : Oper := { dst := some 58, op := Op.move (Operand.tmp 57), type := 4, pos := "top05.go:91", after := #[{ on := 1, ground := Ground.data }], guard := none }
def top14u_o3 : Oper := { dst := some 59, op := Op.move (Operand.tmp 3), type := 24, pos := "top05.go:91", after := #[{ on := 2, ground := Ground.guard }], guard := some (2, false) }
def top14u_o4 : Oper := { dst := some 60, op := Op.move (Operand.tmp 8), type := 30, pos := "top05.go:91", after := #[{ on := 2, ground := Ground.guard }], guard := some (2, false) }
def top14u_o5 : Oper := { dst := some 61, op := Op.move (Operand.tmp 9), type := 3, pos := "top05.go:91", after := #[{ on := 2, ground := Ground.guard }], guard := some (2, false) }
def top14u_o6 : Oper := { dst := some 62, op := Op.indexAddr 30 (Operand.tmp 60) (Operand.tmp 61), type := 0, pos := "top05.go:91", after := #[{ on := 4, ground := Ground.data }, { on := 5, ground := Ground.data }, { on := 2, ground := Ground.guard }], guard := some (2, false) }
def top14u_o7 : Oper := { dst := some 63, op := Op.load 35 (Operand.tmp 62), type := 35, pos := "top05.go:91", after := #[{ on := 6, ground := Ground.data }, { on := 2, ground := Ground.guard }], guard := some (2, false) }
def top14u_o8 : Oper := { dst := some 64, op := Op.call { callee := Callee.value (Operand.func 15), args := #[Operand.tmp 59, Operand.tmp 63], argTypes := #[24, 35] }, type := 4, pos := "top05.go:91", after := #[{ on := 3, ground := Ground.data }, { on := 7, ground := Ground.data }, { on := 2, ground := Ground.chain }, { on := 2, ground := Ground.guard }], guard := some (2, false) }
def top14u_o9 : Oper := { dst := some 65, op := Op.unOp UnOp.not 4 (Operand.tmp 64), type := 4, pos := "top05.go:91", after := #[{ on := 8, ground := Ground.data }, { on := 2, ground := Ground.guard }], guard := some (2, false) }
def top14u_o10 : Oper := { dst := some 66, op := Op.pick (Operand.tmp 58) (Operand.const (Value.bool true)) (Operand.tmp 65), type := 4, pos := "top05.go:91", after := #[{ on := 2, ground := Ground.data }, { on := 9, ground := Ground.data }], guard := none }
def top14u_o11 : Oper := { dst := some 67, op := Op.move (Operand.tmp 66), type := 4, pos := "top05.go:91", after := #[{ on := 10, ground := Ground.data }, { on := 8, ground := Ground.chain }], guard := none }
def top14u_o12 : Oper := { dst := some 68, op := Op.move (Operand.tmp 3), type := 24, pos := "top05.go:91", after := #[{ on := 11, ground := Ground.guard }], guard := some (11, false) }
def top14u_o13 : Oper := { dst := some 69, op := Op.move (Operand.tmp 8), type := 30, pos := "top05.go:91", after := #[{ on := 11, ground := Ground.guard }], guard := some (11, false) }
def top14u_o14 : Oper := { dst := some 70, op := Op.move (Operand.tmp 9), type := 3, pos := "top05.go:91", after := #[{ on := 11, ground := Ground.guard }], guard := some (11, false) }
def top14u_o15 : Oper := { dst := some 71, op := Op.indexAddr 30 (Operand.tmp 69) (Operand.tmp 70), type := 0, pos := "top05.go:91", after := #[{ on := 13, ground := Ground.data }, { on := 14, ground := Ground.data }, { on := 11, ground := Ground.guard }], guard := some (11, false) }
def top14u_o16 : Oper := { dst := some 72, op := Op.load 35 (Operand.tmp 71), type := 35, pos := "top05.go:91", after := #[{ on := 15, ground := Ground.data }, { on := 11, ground := Ground.guard }], guard := some (11, false) }
def top14u_o17 : Oper := { dst := some 73, op := Op.call { callee := Callee.value (Operand.func 28), args := #[Operand.tmp 68, Operand.tmp 72], argTypes := #[24, 35] }, type := 4, pos := "top05.go:91", after := #[{ on := 12, ground := Ground.data }, { on := 16, ground := Ground.data }, { on := 11, ground := Ground.chain }, { on := 11, ground := Ground.guard }], guard := some (11, false) }
def top14u_o18 : Oper := { dst := some 74, op := Op.pick (Operand.tmp 67) (Operand.const (Value.bool true)) (Operand.tmp 73), type := 4, pos := "top05.go:91", after := #[{ on := 11, ground := Ground.data }, { on := 17, ground := Ground.data }], guard := none }
def top14u_o19 : Oper := { dst := some 75, op := Op.move (Operand.tmp 74), type := 4, pos := "top05.go:91", after := #[{ on := 18, ground := Ground.data }, { on := 17, ground := Ground.chain }], guard := none }
def top14u_o20 : Oper := { dst := some 76, op := Op.load 35 (Operand.tmp 10), type := 35, pos := "top05.go:91", after := #[{ on := 19, ground := Ground.guard }], guard := some (19, false) }
def top14u_o21 : Oper := { dst := some 77, op := Op.build 35 #[], type := 35, pos := "top05.go:91", after := #[{ on := 19, ground := Ground.guard }], guard := some (19, false) }
def top14u_o22 : Oper := { dst := some 78, op := Op.binOp BinOp.neq 35 (Operand.tmp 76) (Operand.tmp 77) 35, type := 4, pos := "top05.go:91", after := #[{ on := 20, ground := Ground.data }, { on := 21, ground := Ground.data }, { on := 19, ground := Ground.guard }], guard := some (19, false) }
def top14u_o23 : Oper := { dst := some 79, op := Op.move (Operand.tmp 78), type := 4, pos := "top05.go:91", after := #[{ on := 22, ground := Ground.data }, { on := 19, ground := Ground.chain }, { on := 19, ground := Ground.guard }], guard := some (19, false) }
def top14u_o24 : Oper := { dst := some 80, op := Op.move (Operand.tmp 8), type := 30, pos := "top05.go:91", after := #[{ on := 23, ground := Ground.guard }], guard := some (23, true) }
def top14u_o25 : Oper := { dst := some 81, op := Op.move (Operand.tmp 9), type := 3, pos := "top05.go:91", after := #[{ on := 23, ground := Ground.guard }], guard := some (23, true) }
def top14u_o26 : Oper := { dst := some 82, op := Op.slice 30 (Operand.tmp 80) none (some (Operand.tmp 81)) none, type := 30, pos := "top05.go:91", after := #[{ on := 24, ground := Ground.data }, { on := 25, ground := Ground.data }, { on := 23, ground := Ground.guard }], guard := some (23, true) }
def top14u_o27 : Oper := { dst := some 83, op := Op.load 35 (Operand.tmp 10), type := 35, pos := "top05.go:91", after := #[{ on := 23, ground := Ground.guard }], guard := some (23, true) }
def top14u_o28 : Oper := { dst := some 84, op := Op.call { callee := Callee.value (Operand.func 29), args := #[Operand.tmp 82, Operand.tmp 83], argTypes := #[30, 35] }, type := 4, pos := "top05.go:91", after := #[{ on := 26, ground := Ground.data }, { on := 27, ground := Ground.data }, { on := 23, ground := Ground.chain }, { on := 23, ground := Ground.guard }], guard := some (23, true) }
def top14u_o29 : Oper := { dst := some 85, op := Op.unOp UnOp.not 4 (Operand.tmp 84), type := 4, pos := "top05.go:91", after := #[{ on := 28, ground := Ground.data }, { on := 23, ground := Ground.guard }], guard := some (23, true) }
def top14u_o30 : Oper := { dst := some 86, op := Op.pick (Operand.tmp 79) (Operand.tmp 85) (Operand.const (Value.bool false)), type := 4, pos := "top05.go:91", after := #[{ on := 23, ground := Ground.data }, { on := 29, ground := Ground.data }, { on := 19, ground := Ground.guard }], guard := some (19, false) }
def top14u_o31 : Oper := { dst := some 87, op := Op.pick (Operand.tmp 75) (Operand.const (Value.bool true)) (Operand.tmp 86), type := 4, pos := "top05.go:91", after := #[{ on := 19, ground := Ground.data }, { on := 30, ground := Ground.data }], guard := none }
def top14u_o32 : Oper := { dst := some 88, op := Op.move (Operand.tmp 87), type := 4, pos := "top05.go:91", after := #[{ on := 31, ground := Ground.data }, { on := 28, ground := Ground.chain }], guard := none }
def top14u_o33 : Oper := { dst := some 89, op := Op.move (Operand.tmp 8), type := 30, pos := "top05.go:91", after := #[{ on := 32, ground := Ground.guard }], guard := some (32, false) }
def top14u_o34 : Oper := { dst := some 90, op := Op.move (Operand.tmp 9), type := 3, pos := "top05.go:91", after := #[{ on := 32, ground := Ground.guard }], guard := some (32, false) }
def top14u_o35 : Oper := { dst := some 91, op := Op.slice 30 (Operand.tmp 89) none (some (Operand.tmp 90)) none, type := 30, pos := "top05.go:91", after := #[{ on := 33, ground := Ground.data }, { on := 34, ground := Ground.data }, { on := 32, ground := Ground.guard }], guard := some (32, false) }
def top14u_o36 : Oper := { dst := some 92, op := Op.move (Operand.tmp 8), type := 30, pos := "top05.go:91", after := #[{ on := 32, ground := Ground.guard }], guard := some (32, false) }
def top14u_o37 : Oper := { dst := some 93, op := Op.move (Operand.tmp 9), type := 3, pos := "top05.go:91", after := #[{ on := 32, ground := Ground.guard }], guard := some (32, false) }
def top14u_o38 : Oper := { dst := some 94, op := Op.indexAddr 30 (Operand.tmp 92) (Operand.tmp 93), type := 0, pos := "top05.go:91", after := #[{ on := 36, ground := Ground.data }, { on := 37, ground := Ground.data }, { on := 32, ground := Ground.guard }], guard := some (32, false) }
def top14u_o39 : Oper := { dst := some 95, op := Op.load 35 (Operand.tmp 94), type := 35, pos := "top05.go:91", after := #[{ on := 38, ground := Ground.data }, { on := 32, ground := Ground.guard }], guard := some (32, false) }
def top14u_o40 : Oper := { dst := some 96, op := Op.call { callee := Callee.value (Operand.func 29), args := #[Operand.tmp 91, Operand.tmp 95], argTypes := #[30, 35] }, type := 4, pos := "top05.go:91", after := #[{ on := 35, ground := Ground.data }, { on := 39, ground := Ground.data }, { on := 32, ground := Ground.chain }, { on := 32, ground := Ground.guard }], guard := some (32, false) }
def top14u_o41 : Oper := { dst := some 97, op := Op.pick (Operand.tmp 88) (Operand.const (Value.bool true)) (Operand.tmp 96), type := 4, pos := "top05.go:91", after := #[{ on := 32, ground := Ground.data }, { on := 40, ground := Ground.data }], guard := none }
def top14u_ops : Array Oper := #[top14u_o0, top14u_o1, top14u_o2, top14u_o3, top14u_o4, top14u_o5, top14u_o6, top14u_o7, top14u_o8, top14u_o9, top14u_o10, top14u_o11, top14u_o12, top14u_o13, top14u_o14, top14u_o15, top14u_o16, top14u_o17, top14u_o18, top14u_o19, top14u_o20, top14u_o21, top14u_o22, top14u_o23, top14u_o24, top14u_o25, top14u_o26, top14u_o27, top14u_o28, top14u_o29, top14u_o30, top14u_o31, top14u_o32, top14u_o33, top14u_o34, top14u_o35, top14u_o36, top14u_o37, top14u_o38, top14u_o39, top14u_o40, top14u_o41]
set_option maxRecDepth 100000 in
set_option maxHeartbeats 4000000 in
theorem top14u (S : World → Prop) (bu : Nat) (tv wv iv pi xv uv zv sv : Value) (a : Act) (w : World) (Q : Exit → Act → World → Prop) (hsz : a.tmps.size = 157)
    (t12 : a.tmps.getD 12 undef = .bool true)
    (t3 : a.tmps.getD 3 undef = tv)
    (t8 : a.tmps.getD 8 undef = wv)
    (t9 : a.tmps.getD 9 undef = iv)
    (t10 : a.tmps.getD 10 undef = .pointer (some ⟨bu, 0, none⟩))
    (h0 : S w.drew) (CL : ∀ W, S W → Calls Try.prog 15 #[tv, xv] W fun e w' => e = .returned (.bool true) ∧ S w') (CR : ∀ W, S W → Calls Try.prog 28 #[tv, xv] W fun e w' => e = .returned (.bool false) ∧ S w') (CA : ∀ W, S W → Calls Try.prog 29 #[sv, xv] W fun e w' => e = .returned (.bool false) ∧ S w') (CU : ∀ W, S W → Calls Try.prog 29 #[sv, uv] W fun e w' => e = .returned (.bool true) ∧ S w')
    (G1 : ∀ W, (Instr.indexAt 30 (wv) (iv)).run Try.prog W = .ok (pi) W)
    (G2 : ∀ W, S W → (Instr.loadAt 35 (pi)).run Try.prog W = .ok (xv) W)
    (G3 : ∀ W, S W → (Instr.loadAt 35 (.pointer (some ⟨bu, 0, none⟩))).run Try.prog W = .ok (uv) W)
    (G4 : ∀ W, (Instr.build 35 #[]).run Try.prog W = .ok (zv) W)
    (G5 : ∀ W, (eqGuard BinOp.neq 35 (Operand.tmp 76) (Operand.tmp 77) (uv) (zv)).run Try.prog W = .ok () W)
    (G6 : ∀ W, S W → (binOp BinOp.neq 35 (uv) (zv)).run Try.prog W = .ok (.bool true) W)
    (G7 : ∀ W, (Instr.sliceAt 30 (wv) none (some (iv)) none).run Try.prog W = .ok (sv) W)
    (h : ∀ (a' : Act) (w' : World), S w' → a' = ((((((((((((((((((((((((((((((((((((((((((a).put (some 56) (.bool true)).put (some 57) (.bool false)).put (some 58) (.bool false)).put (some 59) (tv)).put (some 60) (wv)).put (some 61) (iv)).put (some 62) (pi)).put (some 63) (xv)).put (some 64) (.bool true)).put (some 65) (.bool false)).put (some 66) (.bool false)).put (some 67) (.bool false)).put (some 68) (tv)).put (some 69) (wv)).put (some 70) (iv)).put (some 71) (pi)).put (some 72) (xv)).put (some 73) (.bool false)).put (some 74) (.bool false)).put (some 75) (.bool false)).put (some 76) (uv)).put (some 77) (zv)).put (some 78) (.bool true)).put (some 79) (.bool true)).put (some 80) (wv)).put (some 81) (iv)).put (some 82) (sv)).put (some 83) (uv)).put (some 84) (.bool true)).put (some 85) (.bool false)).put (some 86) (.bool false)).put (some 87) (.bool false)).put (some 88) (.bool false)).put (some 89) (wv)).put (some 90) (iv)).put (some 91) (sv)).put (some 92) (wv)).put (some 93) (iv)).put (some 94) (pi)).put (some 95) (xv)).put (some 96) (.bool false)).put (some 97) (.bool false) → Q .normal a' w') :
    (Code.region 14 top14u_ops true).wp Try.prog Q a w := by
  refine wp_region_noPanic ?_
  refine wp_region_held_drew (S := fun w' => S w') (by kernel_rfl) (h0) (fun hHeld => ?_)
  refine wpAnyH_take (i := 0) (oi := top14u_o0) (v := .bool true) rfl (by kernel_rfl) (by kernel_rfl) (by kernel_rfl) (fun _ _ _ h => h) (Or.inl ⟨by rfl, fun w1 hw => exec_move rfl t12⟩) hHeld ?_
  change wpAnyH _ _ _ _ _ _ _ (a.put (some 56) (.bool true)) _
  obtain ⟨a1, e1⟩ : ∃ act, act = a.put (some 56) (.bool true) := ⟨_, rfl⟩
  rw [← e1] at h ⊢
  have z1 := pz e1 hsz
  replace t3 := pk e1 t3 (by decide)
  replace t8 := pk e1 t8 (by decide)
  replace t9 := pk e1 t9 (by decide)
  replace t10 := pk e1 t10 (by decide)
  clear t12
  have t56 := pq e1 hsz (by decide)
  clear e1 hsz
  refine wpAnyH_take (i := 1) (oi := top14u_o1) (v := .bool false) rfl (by kernel_rfl) (by kernel_rfl) (by kernel_rfl) (fun _ _ _ h => h) (Or.inl ⟨by rfl, fun w1 hw => by unfold top14u_o1; go_simp⟩) hHeld ?_
  change wpAnyH _ _ _ _ _ _ _ (a1.put (some 57) (.bool false)) _
  obtain ⟨a2, e2⟩ : ∃ act, act = a1.put (some 57) (.bool false) := ⟨_, rfl⟩
  rw [← e2] at h ⊢
  have z2 := pz e2 z1
  replace t3 := pk e2 t3 (by decide)
  replace t8 := pk e2 t8 (by decide)
  replace t9 := pk e2 t9 (by decide)
  replace t10 := pk e2 t10 (by decide)
  clear t56
  have t57 := pq e2 z1 (by decide)
  clear e2 z1
  refine wpAnyH_take (i := 2) (oi := top14u_o2) (v := .bool false) rfl (by kernel_rfl) (by kernel_rfl) (by kernel_rfl) (fun _ _ _ h => h) (Or.inl ⟨by rfl, fun w1 hw => exec_move rfl t57⟩) hHeld ?_
  change wpAnyH _ _ _ _ _ _ _ (a2.put (some 58) (.bool false)) _
  obtain ⟨a3, e3⟩ : ∃ act, act = a2.put (some 58) (.bool false) := ⟨_, rfl⟩
  rw [← e3] at h ⊢
  have z3 := pz e3 z2
  replace t3 := pk e3 t3 (by decide)
  replace t8 := pk e3 t8 (by decide)
  replace t9 := pk e3 t9 (by decide)
  replace t10 := pk e3 t10 (by decide)
  clear t57
  have t58 := pq e3 z2 (by decide)
  clear e3 z2
  refine wpAnyH_take (i := 3) (oi := top14u_o3) (v := tv) rfl (by kernel_rfl) (by kernel_rfl) (by kernel_rfl) (fun _ _ _ h => h) (Or.inl ⟨by simp [Region.wanted, yielded, top14u_ops, top14u_o3, top14u_o2, tget z3 (by decide) t58], fun w1 hw => exec_move rfl t3⟩) hHeld ?_
  change wpAnyH _ _ _ _ _ _ _ (a3.put (some 59) (tv)) _
  obtain ⟨a4, e4⟩ : ∃ act, act = a3.put (some 59) (tv) := ⟨_, rfl⟩
  rw [← e4] at h ⊢
  have z4 := pz e4 z3
  replace t3 := pk e4 t3 (by decide)
  replace t8 := pk e4 t8 (by decide)
  replace t9 := pk e4 t9 (by decide)
  replace t10 := pk e4 t10 (by decide)
  replace t58 := pk e4 t58 (by decide)
  have t59 := pq e4 z3 (by decide)
  clear e4 z3
  refine wpAnyH_take (i := 4) (oi := top14u_o4) (v := wv) rfl (by kernel_rfl) (by kernel_rfl) (by kernel_rfl) (fun _ _ _ h => h) (Or.inl ⟨by simp [Region.wanted, yielded, top14u_ops, top14u_o4, top14u_o2, tget z4 (by decide) t58], fun w1 hw => exec_move rfl t8⟩) hHeld ?_
  change wpAnyH _ _ _ _ _ _ _ (a4.put (some 60) (wv)) _
  obtain ⟨a5, e5⟩ : ∃ act, act = a4.put (some 60) (wv) := ⟨_, rfl⟩
  rw [← e5] at h ⊢
  have z5 := pz e5 z4
  replace t3 := pk e5 t3 (by decide)
  replace t8 := pk e5 t8 (by decide)
  replace t9 := pk e5 t9 (by decide)
  replace t10 := pk e5 t10 (by decide)
  replace t58 := pk e5 t58 (by decide)
  replace t59 := pk e5 t59 (by decide)
  have t60 := pq e5 z4 (by decide)
  clear e5 z4
  refine wpAnyH_take (i := 5) (oi := top14u_o5) (v := iv) rfl (by kernel_rfl) (by kernel_rfl) (by kernel_rfl) (fun _ _ _ h => h) (Or.inl ⟨by simp [Region.wanted, yielded, top14u_ops, top14u_o5, top14u_o2, tget z5 (by decide) t58], fun w1 hw => exec_move rfl t9⟩) hHeld ?_
  change wpAnyH _ _ _ _ _ _ _ (a5.put (some 61) (iv)) _
  obtain ⟨a6, e6⟩ : ∃ act, act = a5.put (some 61) (iv) := ⟨_, rfl⟩
  rw [← e6] at h ⊢
  have z6 := pz e6 z5
  replace t3 := pk e6 t3 (by decide)
  replace t8 := pk e6 t8 (by decide)
  replace t9 := pk e6 t9 (by decide)
  replace t10 := pk e6 t10 (by decide)
  replace t58 := pk e6 t58 (by decide)
  replace t59 := pk e6 t59 (by decide)
  replace t60 := pk e6 t60 (by decide)
  have t61 := pq e6 z5 (by decide)
  clear e6 z5
  refine wpAnyH_take (i := 6) (oi := top14u_o6) (v := pi) rfl (by kernel_rfl) (by kernel_rfl) (by kernel_rfl) (fun _ _ _ h => h) (Or.inl ⟨by simp [Region.wanted, yielded, top14u_ops, top14u_o6, top14u_o2, tget z6 (by decide) t58], fun w1 hw => exec_indexAt rfl t60 t61 (G1 _)⟩) hHeld ?_
  change wpAnyH _ _ _ _ _ _ _ (a6.put (some 62) (pi)) _
  obtain ⟨a7, e7⟩ : ∃ act, act = a6.put (some 62) (pi) := ⟨_, rfl⟩
  rw [← e7] at h ⊢
  have z7 := pz e7 z6
  replace t3 := pk e7 t3 (by decide)
  replace t8 := pk e7 t8 (by decide)
  replace t9 := pk e7 t9 (by decide)
  replace t10 := pk e7 t10 (by decide)
  replace t58 := pk e7 t58 (by decide)
  replace t59 := pk e7 t59 (by decide)
  clear t60 t61
  have t62 := pq e7 z6 (by decide)
  clear e7 z6
  refine wpAnyH_take (i := 7) (oi := top14u_o7) (v := xv) rfl (by kernel_rfl) (by kernel_rfl) (by kernel_rfl) (fun _ _ _ h => h) (Or.inl ⟨by simp [Region.wanted, yielded, top14u_ops, top14u_o7, top14u_o2, tget z7 (by decide) t58], fun w1 hw => exec_load rfl t62 (G2 _ hw)⟩) hHeld ?_
  change wpAnyH _ _ _ _ _ _ _ (a7.put (some 63) (xv)) _
  obtain ⟨a8, e8⟩ : ∃ act, act = a7.put (some 63) (xv) := ⟨_, rfl⟩
  rw [← e8] at h ⊢
  have z8 := pz e8 z7
  replace t3 := pk e8 t3 (by decide)
  replace t8 := pk e8 t8 (by decide)
  replace t9 := pk e8 t9 (by decide)
  replace t10 := pk e8 t10 (by decide)
  replace t58 := pk e8 t58 (by decide)
  replace t59 := pk e8 t59 (by decide)
  clear t62
  have t63 := pq e8 z7 (by decide)
  clear e8 z7
  refine wpAnyH_ready (rs := [8]) (by kernel_rfl) (by simp) ?_
  refine AllReadyH.cons (o := top14u_o8) rfl (fun K hK => ?_) AllReadyH.nil
  rw [if_pos (by simp [Region.wanted, yielded, top14u_ops, top14u_o8, top14u_o2, tget z8 (by decide) t58])]
  unfold top14u_o8 at hK ⊢
  go_simp
  refine (CL _ hHeld).mono ?_
  rintro e x9 ⟨rfl, hs⟩
  try go_wp2_with fail
  skip
  refine hK.out _ _ (hs) (fun hHeld => ?_)
  clear hK K
  change wpAnyH _ _ _ _ _ _ _ (a8.put (some 64) (.bool true)) _
  obtain ⟨a9, e9⟩ : ∃ act, act = a8.put (some 64) (.bool true) := ⟨_, rfl⟩
  rw [← e9] at h ⊢
  have z9 := pz e9 z8
  replace t3 := pk e9 t3 (by decide)
  replace t8 := pk e9 t8 (by decide)
  replace t9 := pk e9 t9 (by decide)
  replace t10 := pk e9 t10 (by decide)
  replace t58 := pk e9 t58 (by decide)
  clear t59 t63
  have t64 := pq e9 z8 (by decide)
  clear e9 z8
  refine wpAnyH_take (i := 9) (oi := top14u_o9) (v := .bool false) rfl (by kernel_rfl) (by kernel_rfl) (by kernel_rfl) (fun _ _ _ h => h) (Or.inl ⟨by simp [Region.wanted, yielded, top14u_ops, top14u_o9, top14u_o2, tget z9 (by decide) t58], fun w1 hw => by unfold top14u_o9; go_simp⟩) hHeld ?_
  change wpAnyH _ _ _ _ _ _ _ (a9.put (some 65) (.bool false)) _
  obtain ⟨a10, e10⟩ : ∃ act, act = a9.put (some 65) (.bool false) := ⟨_, rfl⟩
  rw [← e10] at h ⊢
  have z10 := pz e10 z9
  replace t3 := pk e10 t3 (by decide)
  replace t8 := pk e10 t8 (by decide)
  replace t9 := pk e10 t9 (by decide)
  replace t10 := pk e10 t10 (by decide)
  replace t58 := pk e10 t58 (by decide)
  clear t64
  have t65 := pq e10 z9 (by decide)
  clear e10 z9
  refine wpAnyH_take (i := 10) (oi := top14u_o10) (v := .bool false) rfl (by kernel_rfl) (by kernel_rfl) (by kernel_rfl) (fun _ _ _ h => h) (Or.inl ⟨by rfl, fun w1 hw => by unfold top14u_o10; go_simp⟩) hHeld ?_
  change wpAnyH _ _ _ _ _ _ _ (a10.put (some 66) (.bool false)) _
  obtain ⟨a11, e11⟩ : ∃ act, act = a10.put (some 66) (.bool false) := ⟨_, rfl⟩
  rw [← e11] at h ⊢
  have z11 := pz e11 z10
  replace t3 := pk e11 t3 (by decide)
  replace t8 := pk e11 t8 (by decide)
  replace t9 := pk e11 t9 (by decide)
  replace t10 := pk e11 t10 (by decide)
  clear t58 t65
  have t66 := pq e11 z10 (by decide)
  clear e11 z10
  refine wpAnyH_take (i := 11) (oi := top14u_o11) (v := .bool false) rfl (by kernel_rfl) (by kernel_rfl) (by kernel_rfl) (fun _ _ _ h => h) (Or.inl ⟨by rfl, fun w1 hw => exec_move rfl t66⟩) hHeld ?_
  change wpAnyH _ _ _ _ _ _ _ (a11.put (some 67) (.bool false)) _
  obtain ⟨a12, e12⟩ : ∃ act, act = a11.put (some 67) (.bool false) := ⟨_, rfl⟩
  rw [← e12] at h ⊢
  have z12 := pz e12 z11
  replace t3 := pk e12 t3 (by decide)
  replace t8 := pk e12 t8 (by decide)
  replace t9 := pk e12 t9 (by decide)
  replace t10 := pk e12 t10 (by decide)
  clear t66
  have t67 := pq e12 z11 (by decide)
  clear e12 z11
  refine wpAnyH_take (i := 12) (oi := top14u_o12) (v := tv) rfl (by kernel_rfl) (by kernel_rfl) (by kernel_rfl) (fun _ _ _ h => h) (Or.inl ⟨by simp [Region.wanted, yielded, top14u_ops, top14u_o12, top14u_o11, tget z12 (by decide) t67], fun w1 hw => exec_move rfl t3⟩) hHeld ?_
  change wpAnyH _ _ _ _ _ _ _ (a12.put (some 68) (tv)) _
  obtain ⟨a13, e13⟩ : ∃ act, act = a12.put (some 68) (tv) := ⟨_, rfl⟩
  rw [← e13] at h ⊢
  have z13 := pz e13 z12
  replace t8 := pk e13 t8 (by decide)
  replace t9 := pk e13 t9 (by decide)
  replace t10 := pk e13 t10 (by decide)
  replace t67 := pk e13 t67 (by decide)
  clear t3
  have t68 := pq e13 z12 (by decide)
  clear e13 z12
  refine wpAnyH_take (i := 13) (oi := top14u_o13) (v := wv) rfl (by kernel_rfl) (by kernel_rfl) (by kernel_rfl) (fun _ _ _ h => h) (Or.inl ⟨by simp [Region.wanted, yielded, top14u_ops, top14u_o13, top14u_o11, tget z13 (by decide) t67], fun w1 hw => exec_move rfl t8⟩) hHeld ?_
  change wpAnyH _ _ _ _ _ _ _ (a13.put (some 69) (wv)) _
  obtain ⟨a14, e14⟩ : ∃ act, act = a13.put (some 69) (wv) := ⟨_, rfl⟩
  rw [← e14] at h ⊢
  have z14 := pz e14 z13
  replace t8 := pk e14 t8 (by decide)
  replace t9 := pk e14 t9 (by decide)
  replace t10 := pk e14 t10 (by decide)
  replace t67 := pk e14 t67 (by decide)
  replace t68 := pk e14 t68 (by decide)
  have t69 := pq e14 z13 (by decide)
  clear e14 z13
  refine wpAnyH_take (i := 14) (oi := top14u_o14) (v := iv) rfl (by kernel_rfl) (by kernel_rfl) (by kernel_rfl) (fun _ _ _ h => h) (Or.inl ⟨by simp [Region.wanted, yielded, top14u_ops, top14u_o14, top14u_o11, tget z14 (by decide) t67], fun w1 hw => exec_move rfl t9⟩) hHeld ?_
  change wpAnyH _ _ _ _ _ _ _ (a14.put (some 70) (iv)) _
  obtain ⟨a15, e15⟩ : ∃ act, act = a14.put (some 70) (iv) := ⟨_, rfl⟩
  rw [← e15] at h ⊢
  have z15 := pz e15 z14
  replace t8 := pk e15 t8 (by decide)
  replace t9 := pk e15 t9 (by decide)
  replace t10 := pk e15 t10 (by decide)
  replace t67 := pk e15 t67 (by decide)
  replace t68 := pk e15 t68 (by decide)
  replace t69 := pk e15 t69 (by decide)
  have t70 := pq e15 z14 (by decide)
  clear e15 z14
  refine wpAnyH_take (i := 15) (oi := top14u_o15) (v := pi) rfl (by kernel_rfl) (by kernel_rfl) (by kernel_rfl) (fun _ _ _ h => h) (Or.inl ⟨by simp [Region.wanted, yielded, top14u_ops, top14u_o15, top14u_o11, tget z15 (by decide) t67], fun w1 hw => exec_indexAt rfl t69 t70 (G1 _)⟩) hHeld ?_
  change wpAnyH _ _ _ _ _ _ _ (a15.put (some 71) (pi)) _
  obtain ⟨a16, e16⟩ : ∃ act, act = a15.put (some 71) (pi) := ⟨_, rfl⟩
  rw [← e16] at h ⊢
  have z16 := pz e16 z15
  replace t8 := pk e16 t8 (by decide)
  replace t9 := pk e16 t9 (by decide)
  replace t10 := pk e16 t10 (by decide)
  replace t67 := pk e16 t67 (by decide)
  replace t68 := pk e16 t68 (by decide)
  clear t69 t70
  have t71 := pq e16 z15 (by decide)
  clear e16 z15
  refine wpAnyH_take (i := 16) (oi := top14u_o16) (v := xv) rfl (by kernel_rfl) (by kernel_rfl) (by kernel_rfl) (fun _ _ _ h => h) (Or.inl ⟨by simp [Region.wanted, yielded, top14u_ops, top14u_o16, top14u_o11, tget z16 (by decide) t67], fun w1 hw => exec_load rfl t71 (G2 _ hw)⟩) hHeld ?_
  change wpAnyH _ _ _ _ _ _ _ (a16.put (some 72) (xv)) _
  obtain ⟨a17, e17⟩ : ∃ act, act = a16.put (some 72) (xv) := ⟨_, rfl⟩
  rw [← e17] at h ⊢
  have z17 := pz e17 z16
  replace t8 := pk e17 t8 (by decide)
  replace t9 := pk e17 t9 (by decide)
  replace t10 := pk e17 t10 (by decide)
  replace t67 := pk e17 t67 (by decide)
  replace t68 := pk e17 t68 (by decide)
  clear t71
  have t72 := pq e17 z16 (by decide)
  clear e17 z16
  refine wpAnyH_ready (rs := [17]) (by kernel_rfl) (by simp) ?_
  refine AllReadyH.cons (o := top14u_o17) rfl (fun K hK => ?_) AllReadyH.nil
  rw [if_pos (by simp [Region.wanted, yielded, top14u_ops, top14u_o17, top14u_o11, tget z17 (by decide) t67])]
  unfold top14u_o17 at hK ⊢
  go_simp
  refine (CR _ hHeld).mono ?_
  rintro e x18 ⟨rfl, hs⟩
  try go_wp2_with fail
  skip
  refine hK.out _ _ (hs) (fun hHeld => ?_)
  clear hK K
  change wpAnyH _ _ _ _ _ _ _ (a17.put (some 73) (.bool false)) _
  obtain ⟨a18, e18⟩ : ∃ act, act = a17.put (some 73) (.bool false) := ⟨_, rfl⟩
  rw [← e18] at h ⊢
  have z18 := pz e18 z17
  replace t8 := pk e18 t8 (by decide)
  replace t9 := pk e18 t9 (by decide)
  replace t10 := pk e18 t10 (by decide)
  replace t67 := pk e18 t67 (by decide)
  clear t68 t72
  have t73 := pq e18 z17 (by decide)
  clear e18 z17
  refine wpAnyH_take (i := 18) (oi := top14u_o18) (v := .bool false) rfl (by kernel_rfl) (by kernel_rfl) (by kernel_rfl) (fun _ _ _ h => h) (Or.inl ⟨by rfl, fun w1 hw => by unfold top14u_o18; go_simp⟩) hHeld ?_
  change wpAnyH _ _ _ _ _ _ _ (a18.put (some 74) (.bool false)) _
  obtain ⟨a19, e19⟩ : ∃ act, act = a18.put (some 74) (.bool false) := ⟨_, rfl⟩
  rw [← e19] at h ⊢
  have z19 := pz e19 z18
  replace t8 := pk e19 t8 (by decide)
  replace t9 := pk e19 t9 (by decide)
  replace t10 := pk e19 t10 (by decide)
  clear t67 t73
  have t74 := pq e19 z18 (by decide)
  clear e19 z18
  refine wpAnyH_take (i := 19) (oi := top14u_o19) (v := .bool false) rfl (by kernel_rfl) (by kernel_rfl) (by kernel_rfl) (fun _ _ _ h => h) (Or.inl ⟨by rfl, fun w1 hw => exec_move rfl t74⟩) hHeld ?_
  change wpAnyH _ _ _ _ _ _ _ (a19.put (some 75) (.bool false)) _
  obtain ⟨a20, e20⟩ : ∃ act, act = a19.put (some 75) (.bool false) := ⟨_, rfl⟩
  rw [← e20] at h ⊢
  have z20 := pz e20 z19
  replace t8 := pk e20 t8 (by decide)
  replace t9 := pk e20 t9 (by decide)
  replace t10 := pk e20 t10 (by decide)
  clear t74
  have t75 := pq e20 z19 (by decide)
  clear e20 z19
  refine wpAnyH_take (i := 20) (oi := top14u_o20) (v := uv) rfl (by kernel_rfl) (by kernel_rfl) (by kernel_rfl) (fun _ _ _ h => h) (Or.inl ⟨by simp [Region.wanted, yielded, top14u_ops, top14u_o20, top14u_o19, tget z20 (by decide) t75], fun w1 hw => exec_load rfl t10 (G3 _ hw)⟩) hHeld ?_
  change wpAnyH _ _ _ _ _ _ _ (a20.put (some 76) (uv)) _
  obtain ⟨a21, e21⟩ : ∃ act, act = a20.put (some 76) (uv) := ⟨_, rfl⟩
  rw [← e21] at h ⊢
  have z21 := pz e21 z20
  replace t8 := pk e21 t8 (by decide)
  replace t9 := pk e21 t9 (by decide)
  replace t10 := pk e21 t10 (by decide)
  replace t75 := pk e21 t75 (by decide)
  have t76 := pq e21 z20 (by decide)
  clear e21 z20
  refine wpAnyH_take (i := 21) (oi := top14u_o21) (v := zv) rfl (by kernel_rfl) (by kernel_rfl) (by kernel_rfl) (fun _ _ _ h => h) (Or.inl ⟨by simp [Region.wanted, yielded, top14u_ops, top14u_o21, top14u_o19, tget z21 (by decide) t75], fun w1 hw => exec_build0 rfl (G4 _)⟩) hHeld ?_
  change wpAnyH _ _ _ _ _ _ _ (a21.put (some 77) (zv)) _
  obtain ⟨a22, e22⟩ : ∃ act, act = a21.put (some 77) (zv) := ⟨_, rfl⟩
  rw [← e22] at h ⊢
  have z22 := pz e22 z21
  replace t8 := pk e22 t8 (by decide)
  replace t9 := pk e22 t9 (by decide)
  replace t10 := pk e22 t10 (by decide)
  replace t75 := pk e22 t75 (by decide)
  replace t76 := pk e22 t76 (by decide)
  have t77 := pq e22 z21 (by decide)
  clear e22 z21
  refine wpAnyH_take (i := 22) (oi := top14u_o22) (v := .bool true) rfl (by kernel_rfl) (by kernel_rfl) (by kernel_rfl) (fun _ _ _ h => h) (Or.inl ⟨by simp [Region.wanted, yielded, top14u_ops, top14u_o22, top14u_o19, tget z22 (by decide) t75], fun w1 hw => exec_binOp rfl t76 t77 (G5 _) (G6 _ hw)⟩) hHeld ?_
  change wpAnyH _ _ _ _ _ _ _ (a22.put (some 78) (.bool true)) _
  obtain ⟨a23, e23⟩ : ∃ act, act = a22.put (some 78) (.bool true) := ⟨_, rfl⟩
  rw [← e23] at h ⊢
  have z23 := pz e23 z22
  replace t8 := pk e23 t8 (by decide)
  replace t9 := pk e23 t9 (by decide)
  replace t10 := pk e23 t10 (by decide)
  replace t75 := pk e23 t75 (by decide)
  clear t76 t77
  have t78 := pq e23 z22 (by decide)
  clear e23 z22
  refine wpAnyH_take (i := 23) (oi := top14u_o23) (v := .bool true) rfl (by kernel_rfl) (by kernel_rfl) (by kernel_rfl) (fun _ _ _ h => h) (Or.inl ⟨by simp [Region.wanted, yielded, top14u_ops, top14u_o23, top14u_o19, tget z23 (by decide) t75], fun w1 hw => exec_move rfl t78⟩) hHeld ?_
  change wpAnyH _ _ _ _ _ _ _ (a23.put (some 79) (.bool true)) _
  obtain ⟨a24, e24⟩ : ∃ act, act = a23.put (some 79) (.bool true) := ⟨_, rfl⟩
  rw [← e24] at h ⊢
  have z24 := pz e24 z23
  replace t8 := pk e24 t8 (by decide)
  replace t9 := pk e24 t9 (by decide)
  replace t10 := pk e24 t10 (by decide)
  replace t75 := pk e24 t75 (by decide)
  clear t78
  have t79 := pq e24 z23 (by decide)
  clear e24 z23
  refine wpAnyH_take (i := 24) (oi := top14u_o24) (v := wv) rfl (by kernel_rfl) (by kernel_rfl) (by kernel_rfl) (fun _ _ _ h => h) (Or.inl ⟨by simp [Region.wanted, yielded, top14u_ops, top14u_o24, top14u_o23, tget z24 (by decide) t79], fun w1 hw => exec_move rfl t8⟩) hHeld ?_
  change wpAnyH _ _ _ _ _ _ _ (a24.put (some 80) (wv)) _
  obtain ⟨a25, e25⟩ : ∃ act, act = a24.put (some 80) (wv) := ⟨_, rfl⟩
  rw [← e25] at h ⊢
  have z25 := pz e25 z24
  replace t8 := pk e25 t8 (by decide)
  replace t9 := pk e25 t9 (by decide)
  replace t10 := pk e25 t10 (by decide)
  replace t75 := pk e25 t75 (by decide)
  replace t79 := pk e25 t79 (by decide)
  have t80 := pq e25 z24 (by decide)
  clear e25 z24
  refine wpAnyH_take (i := 25) (oi := top14u_o25) (v := iv) rfl (by kernel_rfl) (by kernel_rfl) (by kernel_rfl) (fun _ _ _ h => h) (Or.inl ⟨by simp [Region.wanted, yielded, top14u_ops, top14u_o25, top14u_o23, tget z25 (by decide) t79], fun w1 hw => exec_move rfl t9⟩) hHeld ?_
  change wpAnyH _ _ _ _ _ _ _ (a25.put (some 81) (iv)) _
  obtain ⟨a26, e26⟩ : ∃ act, act = a25.put (some 81) (iv) := ⟨_, rfl⟩
  rw [← e26] at h ⊢
  have z26 := pz e26 z25
  replace t8 := pk e26 t8 (by decide)
  replace t9 := pk e26 t9 (by decide)
  replace t10 := pk e26 t10 (by decide)
  replace t75 := pk e26 t75 (by decide)
  replace t79 := pk e26 t79 (by decide)
  replace t80 := pk e26 t80 (by decide)
  have t81 := pq e26 z25 (by decide)
  clear e26 z25
  refine wpAnyH_take (i := 26) (oi := top14u_o26) (v := sv) rfl (by kernel_rfl) (by kernel_rfl) (by kernel_rfl) (fun _ _ _ h => h) (Or.inl ⟨by simp [Region.wanted, yielded, top14u_ops, top14u_o26, top14u_o23, tget z26 (by decide) t79], fun w1 hw => exec_sliceTo rfl t80 t81 (G7 _)⟩) hHeld ?_
  change wpAnyH _ _ _ _ _ _ _ (a26.put (some 82) (sv)) _
  obtain ⟨a27, e27⟩ : ∃ act, act = a26.put (some 82) (sv) := ⟨_, rfl⟩
  rw [← e27] at h ⊢
  have z27 := pz e27 z26
  replace t8 := pk e27 t8 (by decide)
  replace t9 := pk e27 t9 (by decide)
  replace t10 := pk e27 t10 (by decide)
  replace t75 := pk e27 t75 (by decide)
  replace t79 := pk e27 t79 (by decide)
  clear t80 t81
  have t82 := pq e27 z26 (by decide)
  clear e27 z26
  refine wpAnyH_take (i := 27) (oi := top14u_o27) (v := uv) rfl (by kernel_rfl) (by kernel_rfl) (by kernel_rfl) (fun _ _ _ h => h) (Or.inl ⟨by simp [Region.wanted, yielded, top14u_ops, top14u_o27, top14u_o23, tget z27 (by decide) t79], fun w1 hw => exec_load rfl t10 (G3 _ hw)⟩) hHeld ?_
  change wpAnyH _ _ _ _ _ _ _ (a27.put (some 83) (uv)) _
  obtain ⟨a28, e28⟩ : ∃ act, act = a27.put (some 83) (uv) := ⟨_, rfl⟩
  rw [← e28] at h ⊢
  have z28 := pz e28 z27
  replace t8 := pk e28 t8 (by decide)
  replace t9 := pk e28 t9 (by decide)
  replace t75 := pk e28 t75 (by decide)
  replace t79 := pk e28 t79 (by decide)
  replace t82 := pk e28 t82 (by decide)
  clear t10
  have t83 := pq e28 z27 (by decide)
  clear e28 z27
  refine wpAnyH_ready (rs := [28]) (by kernel_rfl) (by simp) ?_
  refine AllReadyH.cons (o := top14u_o28) rfl (fun K hK => ?_) AllReadyH.nil
  rw [if_pos (by simp [Region.wanted, yielded, top14u_ops, top14u_o28, top14u_o23, tget z28 (by decide) t79])]
  unfold top14u_o28 at hK ⊢
  go_simp
  refine (CU _ hHeld).mono ?_
  rintro e x29 ⟨rfl, hs⟩
  try go_wp2_with fail
  skip
  refine hK.out _ _ (hs) (fun hHeld => ?_)
  clear hK K
  change wpAnyH _ _ _ _ _ _ _ (a28.put (some 84) (.bool true)) _
  obtain ⟨a29, e29⟩ : ∃ act, act = a28.put (some 84) (.bool true) := ⟨_, rfl⟩
  rw [← e29] at h ⊢
  have z29 := pz e29 z28
  replace t8 := pk e29 t8 (by decide)
  replace t9 := pk e29 t9 (by decide)
  replace t75 := pk e29 t75 (by decide)
  replace t79 := pk e29 t79 (by decide)
  clear t82 t83
  have t84 := pq e29 z28 (by decide)
  clear e29 z28
  refine wpAnyH_take (i := 29) (oi := top14u_o29) (v := .bool false) rfl (by kernel_rfl) (by kernel_rfl) (by kernel_rfl) (fun _ _ _ h => h) (Or.inl ⟨by simp [Region.wanted, yielded, top14u_ops, top14u_o29, top14u_o23, tget z29 (by decide) t79], fun w1 hw => by unfold top14u_o29; go_simp⟩) hHeld ?_
  change wpAnyH _ _ _ _ _ _ _ (a29.put (some 85) (.bool false)) _
  obtain ⟨a30, e30⟩ : ∃ act, act = a29.put (some 85) (.bool false) := ⟨_, rfl⟩
  rw [← e30] at h ⊢
  have z30 := pz e30 z29
  replace t8 := pk e30 t8 (by decide)
  replace t9 := pk e30 t9 (by decide)
  replace t75 := pk e30 t75 (by decide)
  replace t79 := pk e30 t79 (by decide)
  clear t84
  have t85 := pq e30 z29 (by decide)
  clear e30 z29
  refine wpAnyH_take (i := 30) (oi := top14u_o30) (v := .bool false) rfl (by kernel_rfl) (by kernel_rfl) (by kernel_rfl) (fun _ _ _ h => h) (Or.inl ⟨by simp [Region.wanted, yielded, top14u_ops, top14u_o30, top14u_o19, tget z30 (by decide) t75], fun w1 hw => by unfold top14u_o30; go_simp⟩) hHeld ?_
  change wpAnyH _ _ _ _ _ _ _ (a30.put (some 86) (.bool false)) _
  obtain ⟨a31, e31⟩ : ∃ act, act = a30.put (some 86) (.bool false) := ⟨_, rfl⟩
  rw [← e31] at h ⊢
  have z31 := pz e31 z30
  replace t8 := pk e31 t8 (by decide)
  replace t9 := pk e31 t9 (by decide)
  replace t75 := pk e31 t75 (by decide)
  clear t79 t85
  have t86 := pq e31 z30 (by decide)
  clear e31 z30
  refine wpAnyH_take (i := 31) (oi := top14u_o31) (v := .bool false) rfl (by kernel_rfl) (by kernel_rfl) (by kernel_rfl) (fun _ _ _ h => h) (Or.inl ⟨by rfl, fun w1 hw => by unfold top14u_o31; go_simp⟩) hHeld ?_
  change wpAnyH _ _ _ _ _ _ _ (a31.put (some 87) (.bool false)) _
  obtain ⟨a32, e32⟩ : ∃ act, act = a31.put (some 87) (.bool false) := ⟨_, rfl⟩
  rw [← e32] at h ⊢
  have z32 := pz e32 z31
  replace t8 := pk e32 t8 (by decide)
  replace t9 := pk e32 t9 (by decide)
  clear t75 t86
  have t87 := pq e32 z31 (by decide)
  clear e32 z31
  refine wpAnyH_take (i := 32) (oi := top14u_o32) (v := .bool false) rfl (by kernel_rfl) (by kernel_rfl) (by kernel_rfl) (fun _ _ _ h => h) (Or.inl ⟨by rfl, fun w1 hw => exec_move rfl t87⟩) hHeld ?_
  change wpAnyH _ _ _ _ _ _ _ (a32.put (some 88) (.bool false)) _
  obtain ⟨a33, e33⟩ : ∃ act, act = a32.put (some 88) (.bool false) := ⟨_, rfl⟩
  rw [← e33] at h ⊢
  have z33 := pz e33 z32
  replace t8 := pk e33 t8 (by decide)
  replace t9 := pk e33 t9 (by decide)
  clear t87
  have t88 := pq e33 z32 (by decide)
  clear e33 z32
  refine wpAnyH_take (i := 33) (oi := top14u_o33) (v := wv) rfl (by kernel_rfl) (by kernel_rfl) (by kernel_rfl) (fun _ _ _ h => h) (Or.inl ⟨by simp [Region.wanted, yielded, top14u_ops, top14u_o33, top14u_o32, tget z33 (by decide) t88], fun w1 hw => exec_move rfl t8⟩) hHeld ?_
  change wpAnyH _ _ _ _ _ _ _ (a33.put (some 89) (wv)) _
  obtain ⟨a34, e34⟩ : ∃ act, act = a33.put (some 89) (wv) := ⟨_, rfl⟩
  rw [← e34] at h ⊢
  have z34 := pz e34 z33
  replace t8 := pk e34 t8 (by decide)
  replace t9 := pk e34 t9 (by decide)
  replace t88 := pk e34 t88 (by decide)
  have t89 := pq e34 z33 (by decide)
  clear e34 z33
  refine wpAnyH_take (i := 34) (oi := top14u_o34) (v := iv) rfl (by kernel_rfl) (by kernel_rfl) (by kernel_rfl) (fun _ _ _ h => h) (Or.inl ⟨by simp [Region.wanted, yielded, top14u_ops, top14u_o34, top14u_o32, tget z34 (by decide) t88], fun w1 hw => exec_move rfl t9⟩) hHeld ?_
  change wpAnyH _ _ _ _ _ _ _ (a34.put (some 90) (iv)) _
  obtain ⟨a35, e35⟩ : ∃ act, act = a34.put (some 90) (iv) := ⟨_, rfl⟩
  rw [← e35] at h ⊢
  have z35 := pz e35 z34
  replace t8 := pk e35 t8 (by decide)
  replace t9 := pk e35 t9 (by decide)
  replace t88 := pk e35 t88 (by decide)
  replace t89 := pk e35 t89 (by decide)
  have t90 := pq e35 z34 (by decide)
  clear e35 z34
  refine wpAnyH_take (i := 35) (oi := top14u_o35) (v := sv) rfl (by kernel_rfl) (by kernel_rfl) (by kernel_rfl) (fun _ _ _ h => h) (Or.inl ⟨by simp [Region.wanted, yielded, top14u_ops, top14u_o35, top14u_o32, tget z35 (by decide) t88], fun w1 hw => exec_sliceTo rfl t89 t90 (G7 _)⟩) hHeld ?_
  change wpAnyH _ _ _ _ _ _ _ (a35.put (some 91) (sv)) _
  obtain ⟨a36, e36⟩ : ∃ act, act = a35.put (some 91) (sv) := ⟨_, rfl⟩
  rw [← e36] at h ⊢
  have z36 := pz e36 z35
  replace t8 := pk e36 t8 (by decide)
  replace t9 := pk e36 t9 (by decide)
  replace t88 := pk e36 t88 (by decide)
  clear t89 t90
  have t91 := pq e36 z35 (by decide)
  clear e36 z35
  refine wpAnyH_take (i := 36) (oi := top14u_o36) (v := wv) rfl (by kernel_rfl) (by kernel_rfl) (by kernel_rfl) (fun _ _ _ h => h) (Or.inl ⟨by simp [Region.wanted, yielded, top14u_ops, top14u_o36, top14u_o32, tget z36 (by decide) t88], fun w1 hw => exec_move rfl t8⟩) hHeld ?_
  change wpAnyH _ _ _ _ _ _ _ (a36.put (some 92) (wv)) _
  obtain ⟨a37, e37⟩ : ∃ act, act = a36.put (some 92) (wv) := ⟨_, rfl⟩
  rw [← e37] at h ⊢
  have z37 := pz e37 z36
  replace t9 := pk e37 t9 (by decide)
  replace t88 := pk e37 t88 (by decide)
  replace t91 := pk e37 t91 (by decide)
  clear t8
  have t92 := pq e37 z36 (by decide)
  clear e37 z36
  refine wpAnyH_take (i := 37) (oi := top14u_o37) (v := iv) rfl (by kernel_rfl) (by kernel_rfl) (by kernel_rfl) (fun _ _ _ h => h) (Or.inl ⟨by simp [Region.wanted, yielded, top14u_ops, top14u_o37, top14u_o32, tget z37 (by decide) t88], fun w1 hw => exec_move rfl t9⟩) hHeld ?_
  change wpAnyH _ _ _ _ _ _ _ (a37.put (some 93) (iv)) _
  obtain ⟨a38, e38⟩ : ∃ act, act = a37.put (some 93) (iv) := ⟨_, rfl⟩
  rw [← e38] at h ⊢
  have z38 := pz e38 z37
  replace t88 := pk e38 t88 (by decide)
  replace t91 := pk e38 t91 (by decide)
  replace t92 := pk e38 t92 (by decide)
  clear t9
  have t93 := pq e38 z37 (by decide)
  clear e38 z37
  refine wpAnyH_take (i := 38) (oi := top14u_o38) (v := pi) rfl (by kernel_rfl) (by kernel_rfl) (by kernel_rfl) (fun _ _ _ h => h) (Or.inl ⟨by simp [Region.wanted, yielded, top14u_ops, top14u_o38, top14u_o32, tget z38 (by decide) t88], fun w1 hw => exec_indexAt rfl t92 t93 (G1 _)⟩) hHeld ?_
  change wpAnyH _ _ _ _ _ _ _ (a38.put (some 94) (pi)) _
  obtain ⟨a39, e39⟩ : ∃ act, act = a38.put (some 94) (pi) := ⟨_, rfl⟩
  rw [← e39] at h ⊢
  have z39 := pz e39 z38
  replace t88 := pk e39 t88 (by decide)
  replace t91 := pk e39 t91 (by decide)
  clear t92 t93
  have t94 := pq e39 z38 (by decide)
  clear e39 z38
  refine wpAnyH_take (i := 39) (oi := top14u_o39) (v := xv) rfl (by kernel_rfl) (by kernel_rfl) (by kernel_rfl) (fun _ _ _ h => h) (Or.inl ⟨by simp [Region.wanted, yielded, top14u_ops, top14u_o39, top14u_o32, tget z39 (by decide) t88], fun w1 hw => exec_load rfl t94 (G2 _ hw)⟩) hHeld ?_
  change wpAnyH _ _ _ _ _ _ _ (a39.put (some 95) (xv)) _
  obtain ⟨a40, e40⟩ : ∃ act, act = a39.put (some 95) (xv) := ⟨_, rfl⟩
  rw [← e40] at h ⊢
  have z40 := pz e40 z39
  replace t88 := pk e40 t88 (by decide)
  replace t91 := pk e40 t91 (by decide)
  clear t94
  have t95 := pq e40 z39 (by decide)
  clear e40 z39
  refine wpAnyH_ready (rs := [40]) (by kernel_rfl) (by simp) ?_
  refine AllReadyH.cons (o := top14u_o40) rfl (fun K hK => ?_) AllReadyH.nil
  rw [if_pos (by simp [Region.wanted, yielded, top14u_ops, top14u_o40, top14u_o32, tget z40 (by decide) t88])]
  unfold top14u_o40 at hK ⊢
  go_simp
  refine (CA _ hHeld).mono ?_
  rintro e x41 ⟨rfl, hs⟩
  try go_wp2_with fail
  skip
  refine hK.out _ _ (hs) (fun hHeld => ?_)
  clear hK K
  change wpAnyH _ _ _ _ _ _ _ (a40.put (some 96) (.bool false)) _
  obtain ⟨a41, e41⟩ : ∃ act, act = a40.put (some 96) (.bool false) := ⟨_, rfl⟩
  rw [← e41] at h ⊢
  have z41 := pz e41 z40
  replace t88 := pk e41 t88 (by decide)
  clear t91 t95
  have t96 := pq e41 z40 (by decide)
  clear e41 z40
  refine wpAnyH_take (i := 41) (oi := top14u_o41) (v := .bool false) rfl (by kernel_rfl) (by kernel_rfl) (by kernel_rfl) (fun _ _ _ h => h) (Or.inl ⟨by rfl, fun w1 hw => by unfold top14u_o41; go_simp⟩) hHeld ?_
  change wpAnyH _ _ _ _ _ _ _ (a41.put (some 97) (.bool false)) _
  obtain ⟨a42, e42⟩ : ∃ act, act = a41.put (some 97) (.bool false) := ⟨_, rfl⟩
  rw [← e42] at h ⊢
  have z42 := pz e42 z41
  clear t88 t96
  clear e42 z41
  exact wpAnyH_done (by kernel_rfl) (NoPanic.normal (h _ _ (hHeld) rfl)) _
def top16_o0 : Oper := { dst := some 98, op := Op.move (Operand.tmp 3), type := 24, pos := "top05.go:95", after := #[], guard := none }
def top16_o1 : Oper := { dst := some 99, op := Op.move (Operand.tmp 0), type := 62, pos := "top05.go:95", after := #[], guard := none }
def top16_o2 : Oper := { dst := some 100, op := Op.move (Operand.tmp 5), type := 3, pos := "top05.go:95", after := #[], guard := none }
def top16_o3 : Oper := { dst := some 101, op := Op.indexAddr 62 (Operand.tmp 99) (Operand.tmp 100), type := 0, pos := "top05.go:95", after := #[{ on := 1, ground := Ground.data }, { on := 2, ground := Ground.data }], guard := none }
def top16_o4 : Oper := { dst := some 102, op := Op.fieldAddr 65 (Operand.tmp 101) 1, type := 0, pos := "top05.go:95", after := #[{ on := 3, ground := Ground.data }], guard := none }
def top16_o5 : Oper := { dst := some 103, op := Op.load 35 (Operand.tmp 102), type := 35, pos := "top05.go:95", after := #[{ on := 4, ground := Ground.data }], guard := none }
def top16_o6 : Oper := { dst := some 104, op := Op.call { callee := Callee.value (Operand.func 28), args := #[Operand.tmp 98, Operand.tmp 103], argTypes := #[24, 35] }, type := 4, pos := "top05.go:95", after := #[{ on := 0, ground := Ground.data }, { on := 5, ground := Ground.data }], guard := none }
def top16_o7 : Oper := { dst := some 105, op := Op.move (Operand.tmp 104), type := 4, pos := "top05.go:95", after := #[{ on := 6, ground := Ground.data }, { on := 6, ground := Ground.chain }], guard := none }
def top16_o8 : Oper := { dst := some 106, op := Op.move (Operand.tmp 8), type := 30, pos := "top05.go:95", after := #[{ on := 7, ground := Ground.guard }], guard := some (7, false) }
def top16_o9 : Oper := { dst := some 107, op := Op.call { callee := Callee.builtin Builtin.len, args := #[Operand.tmp 106], argTypes := #[30] }, type := 3, pos := "top05.go:95", after := #[{ on := 8, ground := Ground.data }, { on := 7, ground := Ground.guard }], guard := some (7, false) }
def top16_o10 : Oper := { dst := some 108, op := Op.move (Operand.tmp 3), type := 24, pos := "top05.go:95", after := #[{ on := 7, ground := Ground.guard }], guard := some (7, false) }
def top16_o11 : Oper := { dst := some 109, op := Op.call { callee := Callee.value (Operand.func 12), args := #[Operand.tmp 108], argTypes := #[24] }, type := 3, pos := "top05.go:95", after := #[{ on := 10, ground := Ground.data }, { on := 7, ground := Ground.chain }, { on := 7, ground := Ground.guard }], guard := some (7, false) }
def top16_o12 : Oper := { dst := some 110, op := Op.binOp BinOp.gtr 3 (Operand.tmp 107) (Operand.tmp 109) 3, type := 4, pos := "top05.go:95", after := #[{ on := 9, ground := Ground.data }, { on := 11, ground := Ground.data }, { on := 7, ground := Ground.guard }], guard := some (7, false) }
def top16_o13 : Oper := { dst := some 111, op := Op.pick (Operand.tmp 105) (Operand.const (Value.bool true)) (Operand.tmp 110), type := 4, pos := "top05.go:95", after := #[{ on := 7, ground := Ground.data }, { on := 12, ground := Ground.data }], guard := none }
def top16_o14 : Oper := { dst := some 112, op := Op.move (Operand.tmp 111), type := 4, pos := "top05.go:95", after := #[{ on := 13, ground := Ground.data }, { on := 11, ground := Ground.chain }], guard := none }
def top16_o15 : Oper := { dst := some 113, op := Op.move (Operand.tmp 3), type := 24, pos := "top05.go:95", after := #[{ on := 14, ground := Ground.guard }], guard := some (14, false) }
def top16_o16 : Oper := { dst := some 114, op := Op.move (Operand.tmp 0), type := 62, pos := "top05.go:95", after := #[{ on := 14, ground := Ground.guard }], guard := some (14, false) }
def top16_o17 : Oper := { dst := some 115, op := Op.move (Operand.tmp 5), type := 3, pos := "top05.go:95", after := #[{ on := 14, ground := Ground.guard }], guard := some (14, false) }
def top16_o18 : Oper := { dst := some 116, op := Op.indexAddr 62 (Operand.tmp 114) (Operand.tmp 115), type := 0, pos := "top05.go:95", after := #[{ on := 16, ground := Ground.data }, { on := 17, ground := Ground.data }, { on := 14, ground := Ground.guard }], guard := some (14, false) }
def top16_o19 : Oper := { dst := some 117, op := Op.fieldAddr 65 (Operand.tmp 116) 1, type := 0, pos := "top05.go:95", after := #[{ on := 18, ground := Ground.data }, { on := 14, ground := Ground.guard }], guard := some (14, false) }
def top16_o20 : Oper := { dst := some 118, op := Op.load 35 (Operand.tmp 117), type := 35, pos := "top05.go:95", after := #[{ on := 19, ground := Ground.data }, { on := 14, ground := Ground.guard }], guard := some (14, false) }
def top16_o21 : Oper := { dst := some 119, op := Op.call { callee := Callee.value (Operand.func 15), args := #[Operand.tmp 113, Operand.tmp 118], argTypes := #[24, 35] }, type := 4, pos := "top05.go:95", after := #[{ on := 15, ground := Ground.data }, { on := 20, ground := Ground.data }, { on := 14, ground := Ground.chain }, { on := 14, ground := Ground.guard }], guard := some (14, false) }
def top16_o22 : Oper := { dst := some 120, op := Op.move (Operand.tmp 8), type := 30, pos := "top05.go:95", after := #[{ on := 14, ground := Ground.guard }], guard := some (14, false) }
def top16_o23 : Oper := { dst := some 121, op := Op.move (Operand.tmp 0), type := 62, pos := "top05.go:95", after := #[{ on := 14, ground := Ground.guard }], guard := some (14, false) }
def top16_o24 : Oper := { dst := some 122, op := Op.move (Operand.tmp 5), type := 3, pos := "top05.go:95", after := #[{ on := 14, ground := Ground.guard }], guard := some (14, false) }
def top16_o25 : Oper := { dst := some 123, op := Op.indexAddr 62 (Operand.tmp 121) (Operand.tmp 122), type := 0, pos := "top05.go:95", after := #[{ on := 23, ground := Ground.data }, { on := 24, ground := Ground.data }, { on := 14, ground := Ground.guard }], guard := some (14, false) }
def top16_o26 : Oper := { dst := some 124, op := Op.fieldAddr 65 (Operand.tmp 123) 1, type := 0, pos := "top05.go:95", after := #[{ on := 25, ground := Ground.data }, { on := 14, ground := Ground.guard }], guard := some (14, false) }
def top16_o27 : Oper := { dst := some 125, op := Op.load 35 (Operand.tmp 124), type := 35, pos := "top05.go:95", after := #[{ on := 26, ground := Ground.data }, { on := 14, ground := Ground.guard }], guard := some (14, false) }
def top16_o28 : Oper := { dst := some 126, op := Op.call { callee := Callee.value (Operand.func 29), args := #[Operand.tmp 120, Operand.tmp 125], argTypes := #[30, 35] }, type := 4, pos := "top05.go:95", after := #[{ on := 22, ground := Ground.data }, { on := 27, ground := Ground.data }, { on := 21, ground := Ground.chain }, { on := 14, ground := Ground.guard }], guard := some (14, false) }
def top16_o29 : Oper := { dst := some 127, op := Op.binOp BinOp.neq 4 (Operand.tmp 119) (Operand.tmp 126) 4, type := 4, pos := "top05.go:95", after := #[{ on := 21, ground := Ground.data }, { on := 28, ground := Ground.data }, { on := 14, ground := Ground.guard }], guard := some (14, false) }
def top16_o30 : Oper := { dst := some 128, op := Op.pick (Operand.tmp 112) (Operand.const (Value.bool true)) (Operand.tmp 127), type := 4, pos := "top05.go:95", after := #[{ on := 14, ground := Ground.data }, { on := 29, ground := Ground.data }], guard := none }
def top16_ops : Array Oper := #[top16_o0, top16_o1, top16_o2, top16_o3, top16_o4, top16_o5, top16_o6, top16_o7, top16_o8, top16_o9, top16_o10, top16_o11, top16_o12, top16_o13, top16_o14, top16_o15, top16_o16, top16_o17, top16_o18, top16_o19, top16_o20, top16_o21, top16_o22, top16_o23, top16_o24, top16_o25, top16_o26, top16_o27, top16_o28, top16_o29, top16_o30]
set_option maxRecDepth 100000 in
set_option maxHeartbeats 4000000 in
theorem top16 (S : World → Prop) (bt ot : Nat) (wa : Option Addr) (m wc : Nat) (tv lv iv xv nv : Value) (lb : Bool) (a : Act) (w : World) (Q : Exit → Act → World → Prop) (hsz : a.tmps.size = 157)
    (t3 : a.tmps.getD 3 undef = tv)
    (t0 : a.tmps.getD 0 undef = lv)
    (t5 : a.tmps.getD 5 undef = iv)
    (t8 : a.tmps.getD 8 undef = .slice wa m wc)
    (h0 : S w.drew) (CR : ∀ W, S W → Calls Try.prog 28 #[tv, xv] W fun e w' => e = .returned (.bool false) ∧ S w') (CN : ∀ W, S W → Calls Try.prog 12 #[tv] W fun e w' => e = .returned nv ∧ S w') (CL : ∀ W, S W → Calls Try.prog 15 #[tv, xv] W fun e w' => e = .returned (.bool lb) ∧ S w') (CA : ∀ W, S W → Calls Try.prog 29 #[.slice wa m wc, xv] W fun e w' => e = .returned (.bool lb) ∧ S w')
    (G1 : ∀ W, (Instr.indexAt 62 (lv) (iv)).run Try.prog W = .ok (.pointer (some ⟨bt, ot, none⟩)) W)
    (G2 : ∀ W, S W → (Instr.loadAt 35 (.pointer (some ⟨bt, ot + 1, none⟩))).run Try.prog W = .ok (xv) W)
    (G3 : ∀ W, (eqGuard BinOp.gtr 3 (Operand.tmp 107) (Operand.tmp 109) (.int .i64 (m : Int)) (nv)).run Try.prog W = .ok () W)
    (G4 : ∀ W, S W → (binOp BinOp.gtr 3 (.int .i64 (m : Int)) (nv)).run Try.prog W = .ok (.bool false) W)
    (G5 : ∀ W, (eqGuard BinOp.neq 4 (Operand.tmp 119) (Operand.tmp 126) (.bool lb) (.bool lb)).run Try.prog W = .ok () W)
    (G6 : ∀ W, S W → (binOp BinOp.neq 4 (.bool lb) (.bool lb)).run Try.prog W = .ok (.bool false) W)
    (h : ∀ (a' : Act) (w' : World), S w' → a' = (((((((((((((((((((((((((((((((a).put (some 98) (tv)).put (some 99) (lv)).put (some 100) (iv)).put (some 101) (.pointer (some ⟨bt, ot, none⟩))).put (some 102) (.pointer (some ⟨bt, ot + 1, none⟩))).put (some 103) (xv)).put (some 104) (.bool false)).put (some 105) (.bool false)).put (some 106) (.slice wa m wc)).put (some 107) (.int .i64 (m : Int))).put (some 108) (tv)).put (some 109) (nv)).put (some 110) (.bool false)).put (some 111) (.bool false)).put (some 112) (.bool false)).put (some 113) (tv)).put (some 114) (lv)).put (some 115) (iv)).put (some 116) (.pointer (some ⟨bt, ot, none⟩))).put (some 117) (.pointer (some ⟨bt, ot + 1, none⟩))).put (some 118) (xv)).put (some 120) (.slice wa m wc)).put (some 121) (lv)).put (some 122) (iv)).put (some 123) (.pointer (some ⟨bt, ot, none⟩))).put (some 124) (.pointer (some ⟨bt, ot + 1, none⟩))).put (some 125) (xv)).put (some 119) (.bool lb)).put (some 126) (.bool lb)).put (some 127) (.bool false)).put (some 128) (.bool false) → Q .normal a' w') :
    (Code.region 16 top16_ops true).wp Try.prog Q a w := by
  refine wp_region_noPanic ?_
  refine wp_region_held_drew (S := fun w' => S w') (by kernel_rfl) (h0) (fun hHeld => ?_)
  refine wpAnyH_take (i := 0) (oi := top16_o0) (v := tv) rfl (by kernel_rfl) (by kernel_rfl) (by kernel_rfl) (fun _ _ _ h => h) (Or.inl ⟨by rfl, fun w1 hw => exec_move rfl t3⟩) hHeld ?_
  change wpAnyH _ _ _ _ _ _ _ (a.put (some 98) (tv)) _
  obtain ⟨a1, e1⟩ : ∃ act, act = a.put (some 98) (tv) := ⟨_, rfl⟩
  rw [← e1] at h ⊢
  have z1 := pz e1 hsz
  replace t3 := pk e1 t3 (by decide)
  replace t0 := pk e1 t0 (by decide)
  replace t5 := pk e1 t5 (by decide)
  replace t8 := pk e1 t8 (by decide)
  have t98 := pq e1 hsz (by decide)
  clear e1 hsz
  refine wpAnyH_take (i := 1) (oi := top16_o1) (v := lv) rfl (by kernel_rfl) (by kernel_rfl) (by kernel_rfl) (fun _ _ _ h => h) (Or.inl ⟨by rfl, fun w1 hw => exec_move rfl t0⟩) hHeld ?_
  change wpAnyH _ _ _ _ _ _ _ (a1.put (some 99) (lv)) _
  obtain ⟨a2, e2⟩ : ∃ act, act = a1.put (some 99) (lv) := ⟨_, rfl⟩
  rw [← e2] at h ⊢
  have z2 := pz e2 z1
  replace t3 := pk e2 t3 (by decide)
  replace t0 := pk e2 t0 (by decide)
  replace t5 := pk e2 t5 (by decide)
  replace t8 := pk e2 t8 (by decide)
  replace t98 := pk e2 t98 (by decide)
  have t99 := pq e2 z1 (by decide)
  clear e2 z1
  refine wpAnyH_take (i := 2) (oi := top16_o2) (v := iv) rfl (by kernel_rfl) (by kernel_rfl) (by kernel_rfl) (fun _ _ _ h => h) (Or.inl ⟨by rfl, fun w1 hw => exec_move rfl t5⟩) hHeld ?_
  change wpAnyH _ _ _ _ _ _ _ (a2.put (some 100) (iv)) _
  obtain ⟨a3, e3⟩ : ∃ act, act = a2.put (some 100) (iv) := ⟨_, rfl⟩
  rw [← e3] at h ⊢
  have z3 := pz e3 z2
  replace t3 := pk e3 t3 (by decide)
  replace t0 := pk e3 t0 (by decide)
  replace t5 := pk e3 t5 (by decide)
  replace t8 := pk e3 t8 (by decide)
  replace t98 := pk e3 t98 (by decide)
  replace t99 := pk e3 t99 (by decide)
  have t100 := pq e3 z2 (by decide)
  clear e3 z2
  refine wpAnyH_take (i := 3) (oi := top16_o3) (v := .pointer (some ⟨bt, ot, none⟩)) rfl (by kernel_rfl) (by kernel_rfl) (by kernel_rfl) (fun _ _ _ h => h) (Or.inl ⟨by rfl, fun w1 hw => exec_indexAt rfl t99 t100 (G1 _)⟩) hHeld ?_
  change wpAnyH _ _ _ _ _ _ _ (a3.put (some 101) (.pointer (some ⟨bt, ot, none⟩))) _
  obtain ⟨a4, e4⟩ : ∃ act, act = a3.put (some 101) (.pointer (some ⟨bt, ot, none⟩)) := ⟨_, rfl⟩
  rw [← e4] at h ⊢
  have z4 := pz e4 z3
  replace t3 := pk e4 t3 (by decide)
  replace t0 := pk e4 t0 (by decide)
  replace t5 := pk e4 t5 (by decide)
  replace t8 := pk e4 t8 (by decide)
  replace t98 := pk e4 t98 (by decide)
  clear t99 t100
  have t101 := pq e4 z3 (by decide)
  clear e4 z3
  refine wpAnyH_take (i := 4) (oi := top16_o4) (v := .pointer (some ⟨bt, ot + 1, none⟩)) rfl (by kernel_rfl) (by kernel_rfl) (by kernel_rfl) (fun _ _ _ h => h) (Or.inl ⟨by rfl, fun w1 hw => exec_fieldAt rfl t101 (fg_65_1 _ _ _)⟩) hHeld ?_
  change wpAnyH _ _ _ _ _ _ _ (a4.put (some 102) (.pointer (some ⟨bt, ot + 1, none⟩))) _
  obtain ⟨a5, e5⟩ : ∃ act, act = a4.put (some 102) (.pointer (some ⟨bt, ot + 1, none⟩)) := ⟨_, rfl⟩
  rw [← e5] at h ⊢
  have z5 := pz e5 z4
  replace t3 := pk e5 t3 (by decide)
  replace t0 := pk e5 t0 (by decide)
  replace t5 := pk e5 t5 (by decide)
  replace t8 := pk e5 t8 (by decide)
  replace t98 := pk e5 t98 (by decide)
  clear t101
  have t102 := pq e5 z4 (by decide)
  clear e5 z4
  refine wpAnyH_take (i := 5) (oi := top16_o5) (v := xv) rfl (by kernel_rfl) (by kernel_rfl) (by kernel_rfl) (fun _ _ _ h => h) (Or.inl ⟨by rfl, fun w1 hw => exec_load rfl t102 (G2 _ hw)⟩) hHeld ?_
  change wpAnyH _ _ _ _ _ _ _ (a5.put (some 103) (xv)) _
  obtain ⟨a6, e6⟩ : ∃ act, act = a5.put (some 103) (xv) := ⟨_, rfl⟩
  rw [← e6] at h ⊢
  have z6 := pz e6 z5
  replace t3 := pk e6 t3 (by decide)
  replace t0 := pk e6 t0 (by decide)
  replace t5 := pk e6 t5 (by decide)
  replace t8 := pk e6 t8 (by decide)
  replace t98 := pk e6 t98 (by decide)
  clear t102
  have t103 := pq e6 z5 (by decide)
  clear e6 z5
  refine wpAnyH_ready (rs := [6]) (by kernel_rfl) (by simp) ?_
  refine AllReadyH.cons (o := top16_o6) rfl (fun K hK => ?_) AllReadyH.nil
  rw [if_pos (by rfl)]
  unfold top16_o6 at hK ⊢
  go_simp
  refine (CR _ hHeld).mono ?_
  rintro e x7 ⟨rfl, hs⟩
  try go_wp2_with fail
  skip
  refine hK.out _ _ (hs) (fun hHeld => ?_)
  clear hK K
  change wpAnyH _ _ _ _ _ _ _ (a6.put (some 104) (.bool false)) _
  obtain ⟨a7, e7⟩ : ∃ act, act = a6.put (some 104) (.bool false) := ⟨_, rfl⟩
  rw [← e7] at h ⊢
  have z7 := pz e7 z6
  replace t3 := pk e7 t3 (by decide)
  replace t0 := pk e7 t0 (by decide)
  replace t5 := pk e7 t5 (by decide)
  replace t8 := pk e7 t8 (by decide)
  clear t98 t103
  have t104 := pq e7 z6 (by decide)
  clear e7 z6
  refine wpAnyH_take (i := 7) (oi := top16_o7) (v := .bool false) rfl (by kernel_rfl) (by kernel_rfl) (by kernel_rfl) (fun _ _ _ h => h) (Or.inl ⟨by rfl, fun w1 hw => exec_move rfl t104⟩) hHeld ?_
  change wpAnyH _ _ _ _ _ _ _ (a7.put (some 105) (.bool false)) _
  obtain ⟨a8, e8⟩ : ∃ act, act = a7.put (some 105) (.bool false) := ⟨_, rfl⟩
  rw [← e8] at h ⊢
  have z8 := pz e8 z7
  replace t3 := pk e8 t3 (by decide)
  replace t0 := pk e8 t0 (by decide)
  replace t5 := pk e8 t5 (by decide)
  replace t8 := pk e8 t8 (by decide)
  clear t104
  have t105 := pq e8 z7 (by decide)
  clear e8 z7
  refine wpAnyH_take (i := 8) (oi := top16_o8) (v := .slice wa m wc) rfl (by kernel_rfl) (by kernel_rfl) (by kernel_rfl) (fun _ _ _ h => h) (Or.inl ⟨by simp [Region.wanted, yielded, top16_ops, top16_o8, top16_o7, tget z8 (by decide) t105], fun w1 hw => exec_move rfl t8⟩) hHeld ?_
  change wpAnyH _ _ _ _ _ _ _ (a8.put (some 106) (.slice wa m wc)) _
  obtain ⟨a9, e9⟩ : ∃ act, act = a8.put (some 106) (.slice wa m wc) := ⟨_, rfl⟩
  rw [← e9] at h ⊢
  have z9 := pz e9 z8
  replace t3 := pk e9 t3 (by decide)
  replace t0 := pk e9 t0 (by decide)
  replace t5 := pk e9 t5 (by decide)
  replace t8 := pk e9 t8 (by decide)
  replace t105 := pk e9 t105 (by decide)
  have t106 := pq e9 z8 (by decide)
  clear e9 z8
  refine wpAnyH_take (i := 9) (oi := top16_o9) (v := .int .i64 (m : Int)) rfl (by kernel_rfl) (by kernel_rfl) (by kernel_rfl) (fun _ _ _ h => h) (Or.inl ⟨by simp [Region.wanted, yielded, top16_ops, top16_o9, top16_o7, tget z9 (by decide) t105], fun w1 hw => by unfold top16_o9; go_simp⟩) hHeld ?_
  change wpAnyH _ _ _ _ _ _ _ (a9.put (some 107) (.int .i64 (m : Int))) _
  obtain ⟨a10, e10⟩ : ∃ act, act = a9.put (some 107) (.int .i64 (m : Int)) := ⟨_, rfl⟩
  rw [← e10] at h ⊢
  have z10 := pz e10 z9
  replace t3 := pk e10 t3 (by decide)
  replace t0 := pk e10 t0 (by decide)
  replace t5 := pk e10 t5 (by decide)
  replace t8 := pk e10 t8 (by decide)
  replace t105 := pk e10 t105 (by decide)
  clear t106
  have t107 := pq e10 z9 (by decide)
  clear e10 z9
  refine wpAnyH_take (i := 10) (oi := top16_o10) (v := tv) rfl (by kernel_rfl) (by kernel_rfl) (by kernel_rfl) (fun _ _ _ h => h) (Or.inl ⟨by simp [Region.wanted, yielded, top16_ops, top16_o10, top16_o7, tget z10 (by decide) t105], fun w1 hw => exec_move rfl t3⟩) hHeld ?_
  change wpAnyH _ _ _ _ _ _ _ (a10.put (some 108) (tv)) _
  obtain ⟨a11, e11⟩ : ∃ act, act = a10.put (some 108) (tv) := ⟨_, rfl⟩
  rw [← e11] at h ⊢
  have z11 := pz e11 z10
  replace t3 := pk e11 t3 (by decide)
  replace t0 := pk e11 t0 (by decide)
  replace t5 := pk e11 t5 (by decide)
  replace t8 := pk e11 t8 (by decide)
  replace t105 := pk e11 t105 (by decide)
  replace t107 := pk e11 t107 (by decide)
  have t108 := pq e11 z10 (by decide)
  clear e11 z10
  refine wpAnyH_ready (rs := [11]) (by kernel_rfl) (by simp) ?_
  refine AllReadyH.cons (o := top16_o11) rfl (fun K hK => ?_) AllReadyH.nil
  rw [if_pos (by simp [Region.wanted, yielded, top16_ops, top16_o11, top16_o7, tget z11 (by decide) t105])]
  unfold top16_o11 at hK ⊢
  go_simp
  refine (CN _ hHeld).mono ?_
  rintro e x12 ⟨rfl, hs⟩
  try go_wp2_with fail
  skip
  refine hK.out _ _ (hs) (fun hHeld => ?_)
  clear hK K
  change wpAnyH _ _ _ _ _ _ _ (a11.put (some 109) (nv)) _
  obtain ⟨a12, e12⟩ : ∃ act, act = a11.put (some 109) (nv) := ⟨_, rfl⟩
  rw [← e12] at h ⊢
  have z12 := pz e12 z11
  replace t3 := pk e12 t3 (by decide)
  replace t0 := pk e12 t0 (by decide)
  replace t5 := pk e12 t5 (by decide)
  replace t8 := pk e12 t8 (by decide)
  replace t105 := pk e12 t105 (by decide)
  replace t107 := pk e12 t107 (by decide)
  clear t108
  have t109 := pq e12 z11 (by decide)
  clear e12 z11
  refine wpAnyH_take (i := 12) (oi := top16_o12) (v := .bool false) rfl (by kernel_rfl) (by kernel_rfl) (by kernel_rfl) (fun _ _ _ h => h) (Or.inl ⟨by simp [Region.wanted, yielded, top16_ops, top16_o12, top16_o7, tget z12 (by decide) t105], fun w1 hw => exec_binOp rfl t107 t109 (G3 _) (G4 _ hw)⟩) hHeld ?_
  change wpAnyH _ _ _ _ _ _ _ (a12.put (some 110) (.bool false)) _
  obtain ⟨a13, e13⟩ : ∃ act, act = a12.put (some 110) (.bool false) := ⟨_, rfl⟩
  rw [← e13] at h ⊢
  have z13 := pz e13 z12
  replace t3 := pk e13 t3 (by decide)
  replace t0 := pk e13 t0 (by decide)
  replace t5 := pk e13 t5 (by decide)
  replace t8 := pk e13 t8 (by decide)
  replace t105 := pk e13 t105 (by decide)
  clear t107 t109
  have t110 := pq e13 z12 (by decide)
  clear e13 z12
  refine wpAnyH_take (i := 13) (oi := top16_o13) (v := .bool false) rfl (by kernel_rfl) (by kernel_rfl) (by kernel_rfl) (fun _ _ _ h => h) (Or.inl ⟨by rfl, fun w1 hw => by unfold top16_o13; go_simp⟩) hHeld ?_
  change wpAnyH _ _ _ _ _ _ _ (a13.put (some 111) (.bool false)) _
  obtain ⟨a14, e14⟩ : ∃ act, act = a13.put (some 111) (.bool false) := ⟨_, rfl⟩
  rw [← e14] at h ⊢
  have z14 := pz e14 z13
  replace t3 := pk e14 t3 (by decide)
  replace t0 := pk e14 t0 (by decide)
  replace t5 := pk e14 t5 (by decide)
  replace t8 := pk e14 t8 (by decide)
  clear t105 t110
  have t111 := pq e14 z13 (by decide)
  clear e14 z13
  refine wpAnyH_take (i := 14) (oi := top16_o14) (v := .bool false) rfl (by kernel_rfl) (by kernel_rfl) (by kernel_rfl) (fun _ _ _ h => h) (Or.inl ⟨by rfl, fun w1 hw => exec_move rfl t111⟩) hHeld ?_
  change wpAnyH _ _ _ _ _ _ _ (a14.put (some 112) (.bool false)) _
  obtain ⟨a15, e15⟩ : ∃ act, act = a14.put (some 112) (.bool false) := ⟨_, rfl⟩
  rw [← e15] at h ⊢
  have z15 := pz e15 z14
  replace t3 := pk e15 t3 (by decide)
  replace t0 := pk e15 t0 (by decide)
  replace t5 := pk e15 t5 (by decide)
  replace t8 := pk e15 t8 (by decide)
  clear t111
  have t112 := pq e15 z14 (by decide)
  clear e15 z14
  refine wpAnyH_take (i := 15) (oi := top16_o15) (v := tv) rfl (by kernel_rfl) (by kernel_rfl) (by kernel_rfl) (fun _ _ _ h => h) (Or.inl ⟨by simp [Region.wanted, yielded, top16_ops, top16_o15, top16_o14, tget z15 (by decide) t112], fun w1 hw => exec_move rfl t3⟩) hHeld ?_
  change wpAnyH _ _ _ _ _ _ _ (a15.put (some 113) (tv)) _
  obtain ⟨a16, e16⟩ : ∃ act, act = a15.put (some 113) (tv) := ⟨_, rfl⟩
  rw [← e16] at h ⊢
  have z16 := pz e16 z15
  replace t0 := pk e16 t0 (by decide)
  replace t5 := pk e16 t5 (by decide)
  replace t8 := pk e16 t8 (by decide)
  replace t112 := pk e16 t112 (by decide)
  clear t3
  have t113 := pq e16 z15 (by decide)
  clear e16 z15
  refine wpAnyH_take (i := 16) (oi := top16_o16) (v := lv) rfl (by kernel_rfl) (by kernel_rfl) (by kernel_rfl) (fun _ _ _ h => h) (Or.inl ⟨by simp [Region.wanted, yielded, top16_ops, top16_o16, top16_o14, tget z16 (by decide) t112], fun w1 hw => exec_move rfl t0⟩) hHeld ?_
  change wpAnyH _ _ _ _ _ _ _ (a16.put (some 114) (lv)) _
  obtain ⟨a17, e17⟩ : ∃ act, act = a16.put (some 114) (lv) := ⟨_, rfl⟩
  rw [← e17] at h ⊢
  have z17 := pz e17 z16
  replace t0 := pk e17 t0 (by decide)
  replace t5 := pk e17 t5 (by decide)
  replace t8 := pk e17 t8 (by decide)
  replace t112 := pk e17 t112 (by decide)
  replace t113 := pk e17 t113 (by decide)
  have t114 := pq e17 z16 (by decide)
  clear e17 z16
  refine wpAnyH_take (i := 17) (oi := top16_o17) (v := iv) rfl (by kernel_rfl) (by kernel_rfl) (by kernel_rfl) (fun _ _ _ h => h) (Or.inl ⟨by simp [Region.wanted, yielded, top16_ops, top16_o17, top16_o14, tget z17 (by decide) t112], fun w1 hw => exec_move rfl t5⟩) hHeld ?_
  change wpAnyH _ _ _ _ _ _ _ (a17.put (some 115) (iv)) _
  obtain ⟨a18, e18⟩ : ∃ act, act = a17.put (some 115) (iv) := ⟨_, rfl⟩
  rw [← e18] at h ⊢
  have z18 := pz e18 z17
  replace t0 := pk e18 t0 (by decide)
  replace t5 := pk e18 t5 (by decide)
  replace t8 := pk e18 t8 (by decide)
  replace t112 := pk e18 t112 (by decide)
  replace t113 := pk e18 t113 (by decide)
  replace t114 := pk e18 t114 (by decide)
  have t115 := pq e18 z17 (by decide)
  clear e18 z17
  refine wpAnyH_take (i := 18) (oi := top16_o18) (v := .pointer (some ⟨bt, ot, none⟩)) rfl (by kernel_rfl) (by kernel_rfl) (by kernel_rfl) (fun _ _ _ h => h) (Or.inl ⟨by simp [Region.wanted, yielded, top16_ops, top16_o18, top16_o14, tget z18 (by decide) t112], fun w1 hw => exec_indexAt rfl t114 t115 (G1 _)⟩) hHeld ?_
  change wpAnyH _ _ _ _ _ _ _ (a18.put (some 116) (.pointer (some ⟨bt, ot, none⟩))) _
  obtain ⟨a19, e19⟩ : ∃ act, act = a18.put (some 116) (.pointer (some ⟨bt, ot, none⟩)) := ⟨_, rfl⟩
  rw [← e19] at h ⊢
  have z19 := pz e19 z18
  replace t0 := pk e19 t0 (by decide)
  replace t5 := pk e19 t5 (by decide)
  replace t8 := pk e19 t8 (by decide)
  replace t112 := pk e19 t112 (by decide)
  replace t113 := pk e19 t113 (by decide)
  clear t114 t115
  have t116 := pq e19 z18 (by decide)
  clear e19 z18
  refine wpAnyH_take (i := 19) (oi := top16_o19) (v := .pointer (some ⟨bt, ot + 1, none⟩)) rfl (by kernel_rfl) (by kernel_rfl) (by kernel_rfl) (fun _ _ _ h => h) (Or.inl ⟨by simp [Region.wanted, yielded, top16_ops, top16_o19, top16_o14, tget z19 (by decide) t112], fun w1 hw => exec_fieldAt rfl t116 (fg_65_1 _ _ _)⟩) hHeld ?_
  change wpAnyH _ _ _ _ _ _ _ (a19.put (some 117) (.pointer (some ⟨bt, ot + 1, none⟩))) _
  obtain ⟨a20, e20⟩ : ∃ act, act = a19.put (some 117) (.pointer (some ⟨bt, ot + 1, none⟩)) := ⟨_, rfl⟩
  rw [← e20] at h ⊢
  have z20 := pz e20 z19
  replace t0 := pk e20 t0 (by decide)
  replace t5 := pk e20 t5 (by decide)
  replace t8 := pk e20 t8 (by decide)
  replace t112 := pk e20 t112 (by decide)
  replace t113 := pk e20 t113 (by decide)
  clear t116
  have t117 := pq e20 z19 (by decide)
  clear e20 z19
  refine wpAnyH_take (i := 20) (oi := top16_o20) (v := xv) rfl (by kernel_rfl) (by kernel_rfl) (by kernel_rfl) (fun _ _ _ h => h) (Or.inl ⟨by simp [Region.wanted, yielded, top16_ops, top16_o20, top16_o14, tget z20 (by decide) t112], fun w1 hw => exec_load rfl t117 (G2 _ hw)⟩) hHeld ?_
  change wpAnyH _ _ _ _ _ _ _ (a20.put (some 118) (xv)) _
  obtain ⟨a21, e21⟩ : ∃ act, act = a20.put (some 118) (xv) := ⟨_, rfl⟩
  rw [← e21] at h ⊢
  have z21 := pz e21 z20
  replace t0 := pk e21 t0 (by decide)
  replace t5 := pk e21 t5 (by decide)
  replace t8 := pk e21 t8 (by decide)
  replace t112 := pk e21 t112 (by decide)
  replace t113 := pk e21 t113 (by decide)
  clear t117
  have t118 := pq e21 z20 (by decide)
  clear e21 z20
  refine wpAnyH_take (i := 22) (oi := top16_o22) (v := .slice wa m wc) rfl (by kernel_rfl) (by kernel_rfl) (by kernel_rfl) (fun _ _ _ h => h) (Or.inl ⟨by simp [Region.wanted, yielded, top16_ops, top16_o22, top16_o14, tget z21 (by decide) t112], fun w1 hw => exec_move rfl t8⟩) hHeld ?_
  change wpAnyH _ _ _ _ _ _ _ (a21.put (some 120) (.slice wa m wc)) _
  obtain ⟨a22, e22⟩ : ∃ act, act = a21.put (some 120) (.slice wa m wc) := ⟨_, rfl⟩
  rw [← e22] at h ⊢
  have z22 := pz e22 z21
  replace t0 := pk e22 t0 (by decide)
  replace t5 := pk e22 t5 (by decide)
  replace t112 := pk e22 t112 (by decide)
  replace t113 := pk e22 t113 (by decide)
  replace t118 := pk e22 t118 (by decide)
  clear t8
  have t120 := pq e22 z21 (by decide)
  clear e22 z21
  refine wpAnyH_take (i := 23) (oi := top16_o23) (v := lv) rfl (by kernel_rfl) (by kernel_rfl) (by kernel_rfl) (fun _ _ _ h => h) (Or.inl ⟨by simp [Region.wanted, yielded, top16_ops, top16_o23, top16_o14, tget z22 (by decide) t112], fun w1 hw => exec_move rfl t0⟩) hHeld ?_
  change wpAnyH _ _ _ _ _ _ _ (a22.put (some 121) (lv)) _
  obtain ⟨a23, e23⟩ : ∃ act, act = a22.put (some 121) (lv) := ⟨_, rfl⟩
  rw [← e23] at h ⊢
  have z23 := pz e23 z22
  replace t5 := pk e23 t5 (by decide)
  replace t112 := pk e23 t112 (by decide)
  replace t113 := pk e23 t113 (by decide)
  replace t118 := pk e23 t118 (by decide)
  replace t120 := pk e23 t120 (by decide)
  clear t0
  have t121 := pq e23 z22 (by decide)
  clear e23 z22
  refine wpAnyH_take (i := 24) (oi := top16_o24) (v := iv) rfl (by kernel_rfl) (by kernel_rfl) (by kernel_rfl) (fun _ _ _ h => h) (Or.inl ⟨by simp [Region.wanted, yielded, top16_ops, top16_o24, top16_o14, tget z23 (by decide) t112], fun w1 hw => exec_move rfl t5⟩) hHeld ?_
  change wpAnyH _ _ _ _ _ _ _ (a23.put (some 122) (iv)) _
  obtain ⟨a24, e24⟩ : ∃ act, act = a23.put (some 122) (iv) := ⟨_, rfl⟩
  rw [← e24] at h ⊢
  have z24 := pz e24 z23
  replace t112 := pk e24 t112 (by decide)
  replace t113 := pk e24 t113 (by decide)
  replace t118 := pk e24 t118 (by decide)
  replace t120 := pk e24 t120 (by decide)
  replace t121 := pk e24 t121 (by decide)
  clear t5
  have t122 := pq e24 z23 (by decide)
  clear e24 z23
  refine wpAnyH_take (i := 25) (oi := top16_o25) (v := .pointer (some ⟨bt, ot, none⟩)) rfl (by kernel_rfl) (by kernel_rfl) (by kernel_rfl) (fun _ _ _ h => h) (Or.inl ⟨by simp [Region.wanted, yielded, top16_ops, top16_o25, top16_o14, tget z24 (by decide) t112], fun w1 hw => exec_indexAt rfl t121 t122 (G1 _)⟩) hHeld ?_
  change wpAnyH _ _ _ _ _ _ _ (a24.put (some 123) (.pointer (some ⟨bt, ot, none⟩))) _
  obtain ⟨a25, e25⟩ : ∃ act, act = a24.put (some 123) (.pointer (some ⟨bt, ot, none⟩)) := ⟨_, rfl⟩
  rw [← e25] at h ⊢
  have z25 := pz e25 z24
  replace t112 := pk e25 t112 (by decide)
  replace t113 := pk e25 t113 (by decide)
  replace t118 := pk e25 t118 (by decide)
  replace t120 := pk e25 t120 (by decide)
  clear t121 t122
  have t123 := pq e25 z24 (by decide)
  clear e25 z24
  refine wpAnyH_take (i := 26) (oi := top16_o26) (v := .pointer (some ⟨bt, ot + 1, none⟩)) rfl (by kernel_rfl) (by kernel_rfl) (by kernel_rfl) (fun _ _ _ h => h) (Or.inl ⟨by simp [Region.wanted, yielded, top16_ops, top16_o26, top16_o14, tget z25 (by decide) t112], fun w1 hw => exec_fieldAt rfl t123 (fg_65_1 _ _ _)⟩) hHeld ?_
  change wpAnyH _ _ _ _ _ _ _ (a25.put (some 124) (.pointer (some ⟨bt, ot + 1, none⟩))) _
  obtain ⟨a26, e26⟩ : ∃ act, act = a25.put (some 124) (.pointer (some ⟨bt, ot + 1, none⟩)) := ⟨_, rfl⟩
  rw [← e26] at h ⊢
  have z26 := pz e26 z25
  replace t112 := pk e26 t112 (by decide)
  replace t113 := pk e26 t113 (by decide)
  replace t118 := pk e26 t118 (by decide)
  replace t120 := pk e26 t120 (by decide)
  clear t123
  have t124 := pq e26 z25 (by decide)
  clear e26 z25
  refine wpAnyH_take (i := 27) (oi := top16_o27) (v := xv) rfl (by kernel_rfl) (by kernel_rfl) (by kernel_rfl) (fun _ _ _ h => h) (Or.inl ⟨by simp [Region.wanted, yielded, top16_ops, top16_o27, top16_o14, tget z26 (by decide) t112], fun w1 hw => exec_load rfl t124 (G2 _ hw)⟩) hHeld ?_
  change wpAnyH _ _ _ _ _ _ _ (a26.put (some 125) (xv)) _
  obtain ⟨a27, e27⟩ : ∃ act, act = a26.put (some 125) (xv) := ⟨_, rfl⟩
  rw [← e27] at h ⊢
  have z27 := pz e27 z26
  replace t112 := pk e27 t112 (by decide)
  replace t113 := pk e27 t113 (by decide)
  replace t118 := pk e27 t118 (by decide)
  replace t120 := pk e27 t120 (by decide)
  clear t124
  have t125 := pq e27 z26 (by decide)
  clear e27 z26
  refine wpAnyH_ready (rs := [21]) (by kernel_rfl) (by simp) ?_
  refine AllReadyH.cons (o := top16_o21) rfl (fun K hK => ?_) AllReadyH.nil
  rw [if_pos (by simp [Region.wanted, yielded, top16_ops, top16_o21, top16_o14, tget z27 (by decide) t112])]
  unfold top16_o21 at hK ⊢
  go_simp
  refine (CL _ hHeld).mono ?_
  rintro e x28 ⟨rfl, hs⟩
  try go_wp2_with fail
  skip
  refine hK.out _ _ (hs) (fun hHeld => ?_)
  clear hK K
  change wpAnyH _ _ _ _ _ _ _ (a27.put (some 119) (.bool lb)) _
  obtain ⟨a28, e28⟩ : ∃ act, act = a27.put (some 119) (.bool lb) := ⟨_, rfl⟩
  rw [← e28] at h ⊢
  have z28 := pz e28 z27
  replace t112 := pk e28 t112 (by decide)
  replace t120 := pk e28 t120 (by decide)
  replace t125 := pk e28 t125 (by decide)
  clear t113 t118
  have t119 := pq e28 z27 (by decide)
  clear e28 z27
  refine wpAnyH_ready (rs := [28]) (by kernel_rfl) (by simp) ?_
  refine AllReadyH.cons (o := top16_o28) rfl (fun K hK => ?_) AllReadyH.nil
  rw [if_pos (by simp [Region.wanted, yielded, top16_ops, top16_o28, top16_o14, tget z28 (by decide) t112])]
  unfold top16_o28 at hK ⊢
  go_simp
  refine (CA _ hHeld).mono ?_
  rintro e x29 ⟨rfl, hs⟩
  try go_wp2_with fail
  skip
  refine hK.out _ _ (hs) (fun hHeld => ?_)
  clear hK K
  change wpAnyH _ _ _ _ _ _ _ (a28.put (some 126) (.bool lb)) _
  obtain ⟨a29, e29⟩ : ∃ act, act = a28.put (some 126) (.bool lb) := ⟨_, rfl⟩
  rw [← e29] at h ⊢
  have z29 := pz e29 z28
  replace t112 := pk e29 t112 (by decide)
  replace t119 := pk e29 t119 (by decide)
  clear t120 t125
  have t126 := pq e29 z28 (by decide)
  clear e29 z28
  refine wpAnyH_take (i := 29) (oi := top16_o29) (v := .bool false) rfl (by kernel_rfl) (by kernel_rfl) (by kernel_rfl) (fun _ _ _ h => h) (Or.inl ⟨by simp [Region.wanted, yielded, top16_ops, top16_o29, top16_o14, tget z29 (by decide) t112], fun w1 hw => exec_binOp rfl t119 t126 (G5 _) (G6 _ hw)⟩) hHeld ?_
  change wpAnyH _ _ _ _ _ _ _ (a29.put (some 127) (.bool false)) _
  obtain ⟨a30, e30⟩ : ∃ act, act = a29.put (some 127) (.bool false) := ⟨_, rfl⟩
  rw [← e30] at h ⊢
  have z30 := pz e30 z29
  replace t112 := pk e30 t112 (by decide)
  clear t119 t126
  have t127 := pq e30 z29 (by decide)
  clear e30 z29
  refine wpAnyH_take (i := 30) (oi := top16_o30) (v := .bool false) rfl (by kernel_rfl) (by kernel_rfl) (by kernel_rfl) (fun _ _ _ h => h) (Or.inl ⟨by rfl, fun w1 hw => by unfold top16_o30; go_simp⟩) hHeld ?_
  change wpAnyH _ _ _ _ _ _ _ (a30.put (some 128) (.bool false)) _
  obtain ⟨a31, e31⟩ : ∃ act, act = a30.put (some 128) (.bool false) := ⟨_, rfl⟩
  rw [← e31] at h ⊢
  have z31 := pz e31 z30
  clear t112 t127
  clear e31 z30
  exact wpAnyH_done (by kernel_rfl) (NoPanic.normal (h _ _ (hHeld) rfl)) _
def top6_o0 : Oper := { dst := some 24, op := Op.move (Operand.tmp 3), type := 24, pos := "top05.go:85", after := #[], guard := none }
def top6_o1 : Oper := { dst := some 25, op := Op.move (Operand.tmp 0), type := 62, pos := "top05.go:85", after := #[], guard := none }
def top6_o2 : Oper := { dst := some 26, op := Op.move (Operand.tmp 5), type := 3, pos := "top05.go:85", after := #[], guard := none }
def top6_o3 : Oper := { dst := some 27, op := Op.indexAddr 62 (Operand.tmp 25) (Operand.tmp 26), type := 0, pos := "top05.go:85", after := #[{ on := 1, ground := Ground.data }, { on := 2, ground := Ground.data }], guard := none }
def top6_o4 : Oper := { dst := some 28, op := Op.load 65 (Operand.tmp 27), type := 65, pos := "top05.go:85", after := #[{ on := 3, ground := Ground.data }], guard := none }
def top6_o5 : Oper := { dst := some 29, op := Op.call { callee := Callee.value (Operand.func 27), args := #[Operand.tmp 24, Operand.tmp 28], argTypes := #[24, 65] }, type := 58, pos := "top05.go:85", after := #[{ on := 0, ground := Ground.data }, { on := 4, ground := Ground.data }], guard := none }
def top6_o6 : Oper := { dst := some 23, op := Op.move (Operand.tmp 29), type := 58, pos := "top05.go:85", after := #[{ on := 5, ground := Ground.data }], guard := none }
def top6_o7 : Oper := { dst := some 30, op := Op.extract (Operand.tmp 23) 0, type := 53, pos := "top05.go:85", after := #[{ on := 6, ground := Ground.data }], guard := none }
def top6_o8 : Oper := { dst := some 31, op := Op.extract (Operand.tmp 23) 1, type := 51, pos := "top05.go:85", after := #[{ on := 6, ground := Ground.data }, { on := 9, ground := Ground.gcOnly Departure.lateStores }], guard := none }
def top6_o9 : Oper := { dst := some 6, op := Op.assign (Operand.tmp 30), type := 53, pos := "top05.go:85", after := #[{ on := 7, ground := Ground.data }, { on := 5, ground := Ground.chain }, { on := 0, ground := Ground.phase }, { on := 1, ground := Ground.phase }, { on := 2, ground := Ground.phase }, { on := 3, ground := Ground.phase }, { on := 4, ground := Ground.phase }, { on := 5, ground := Ground.phase }, { on := 6, ground := Ground.phase }, { on := 7, ground := Ground.phase }, { on := 8, ground := Ground.textOnly Departure.lateStores }], guard := none }
def top6_o10 : Oper := { dst := some 7, op := Op.assign (Operand.tmp 31), type := 51, pos := "top05.go:85", after := #[{ on := 8, ground := Ground.data }, { on := 9, ground := Ground.chain }, { on := 0, ground := Ground.phase }, { on := 1, ground := Ground.phase }, { on := 2, ground := Ground.phase }, { on := 3, ground := Ground.phase }, { on := 4, ground := Ground.phase }, { on := 5, ground := Ground.phase }, { on := 6, ground := Ground.phase }, { on := 7, ground := Ground.phase }, { on := 8, ground := Ground.phase }, { on := 9, ground := Ground.phase }], guard := none }
def top6_ops : Array Oper := #[top6_o0, top6_o1, top6_o2, top6_o3, top6_o4, top6_o5, top6_o6, top6_o7, top6_o8, top6_o9, top6_o10]
set_option maxRecDepth 100000 in
set_option maxHeartbeats 4000000 in
theorem top6 (tv lv iv pi xv : Value) (Fin : Value → Value → World → Prop) (a : Act) (w : World) (Q : Exit → Act → World → Prop) (hsz : a.tmps.size = 157)
    (t3 : a.tmps.getD 3 undef = tv)
    (t0 : a.tmps.getD 0 undef = lv)
    (t5 : a.tmps.getD 5 undef = iv)
    (CT : Calls Try.prog 27 #[tv, xv] w fun e w' => ∃ pv ev, e = .returned (.tuple #[pv, ev]) ∧ Fin pv ev w')
    (G1 : ∀ W, (Instr.indexAt 62 (lv) (iv)).run Try.prog W = .ok (pi) W)
    (G2 : (Instr.loadAt 65 (pi)).run Try.prog w = .ok (xv) w)
    (h : ∀ (pv ev : Value) (a' : Act) (w' : World), Fin pv ev w' → a' = (((((((((((a).put (some 24) (tv)).put (some 25) (lv)).put (some 26) (iv)).put (some 27) (pi)).put (some 28) (xv)).put (some 29) (.tuple #[pv, ev])).put (some 23) (.tuple #[pv, ev])).put (some 30) (pv)).put (some 31) (ev)).put (some 6) (pv)).put (some 7) (ev) → Q .normal a' w') :
    (Code.region 6 top6_ops false).wp Try.prog Q a w := by
  refine wp_region_list ?_
  change wpList _ _ _ [top6_o0, top6_o1, top6_o2, top6_o3, top6_o4, top6_o5, top6_o6, top6_o7, top6_o8, top6_o9, top6_o10] _ _
  refine qv (v := tv) (by rfl) (exec_move rfl t3) (fun a0 e0 => ?_)
  rw [← e0] at h
  have z0 := pz e0 hsz
  replace t0 := pk e0 t0
  replace t5 := pk e0 t5
  clear t3
  have t24 := pq e0 hsz
  clear e0 hsz
  refine qv (v := lv) (by rfl) (exec_move rfl t0) (fun a1 e1 => ?_)
  rw [← e1] at h
  have z1 := pz e1 z0
  replace t5 := pk e1 t5
  replace t24 := pk e1 t24
  clear t0
  have t25 := pq e1 z0
  clear e1 z0
  refine qv (v := iv) (by rfl) (exec_move rfl t5) (fun a2 e2 => ?_)
  rw [← e2] at h
  have z2 := pz e2 z1
  replace t24 := pk e2 t24
  replace t25 := pk e2 t25
  clear t5
  have t26 := pq e2 z1
  clear e2 z1
  refine qv (v := pi) (by rfl) (exec_indexAt rfl t25 t26 (G1 _)) (fun a3 e3 => ?_)
  rw [← e3] at h
  have z3 := pz e3 z2
  replace t24 := pk e3 t24
  clear t25 t26
  have t27 := pq e3 z2
  clear e3 z2
  refine qv (v := xv) (by rfl) (exec_load rfl t27 G2) (fun a4 e4 => ?_)
  rw [← e4] at h
  have z4 := pz e4 z3
  replace t24 := pk e4 t24
  clear t27
  have t28 := pq e4 z3
  clear e4 z3
  refine qc (by rfl) (by unfold top6_o5; go_simp) (CT) (fun e x5 hx => ?_)
  obtain ⟨pv, ev, rfl, HF⟩ := hx
  replace h := h pv ev
  refine ⟨_, rfl, fun a5 e5 => ?_⟩
  rw [← e5] at h
  have z5 := pz e5 z4
  clear t24 t28
  have t29 := pq e5 z4
  clear e5 z4
  refine qv (v := .tuple #[pv, ev]) (by rfl) (exec_move rfl t29) (fun a6 e6 => ?_)
  rw [← e6] at h
  have z6 := pz e6 z5
  clear t29
  have t23 := pq e6 z5
  clear e6 z5
  refine qv (v := pv) (by rfl) (exec_extract rfl t23 rfl) (fun a7 e7 => ?_)
  rw [← e7] at h
  have z7 := pz e7 z6
  replace t23 := pk e7 t23
  have t30 := pq e7 z6
  clear e7 z6
  refine qv (v := ev) (by rfl) (exec_extract rfl t23 rfl) (fun a8 e8 => ?_)
  rw [← e8] at h
  have z8 := pz e8 z7
  replace t30 := pk e8 t30
  clear t23
  have t31 := pq e8 z7
  clear e8 z7
  refine qv (v := pv) (by rfl) (exec_assign rfl t30) (fun a9 e9 => ?_)
  rw [← e9] at h
  have z9 := pz e9 z8
  replace t31 := pk e9 t31
  clear t30
  clear e9 z8
  refine qv (v := ev) (by rfl) (exec_assign rfl t31) (fun a10 e10 => ?_)
  rw [← e10] at h
  have z10 := pz e10 z9
  clear t31
  clear e10 z9
  exact wpList_nil (h _ _ (HF) rfl)
def top8_o0 : Oper := { dst := some 34, op := Op.move (Operand.tmp 4), type := 26, pos := "top05.go:86", after := #[], guard := none }
def top8_o1 : Oper := { dst := some 35, op := Op.move (Operand.tmp 6), type := 53, pos := "top05.go:86", after := #[], guard := none }
def top8_o2 : Oper := { dst := some 36, op := Op.buildSlice 26 1 #[(0, Operand.tmp 35)], type := 26, pos := "top05.go:86", after := #[{ on := 1, ground := Ground.data }], guard := none }
def top8_o3 : Oper := { dst := some 37, op := Op.call { callee := Callee.builtin Builtin.append, args := #[Operand.tmp 34, Operand.tmp 36], argTypes := #[26, 26] }, type := 26, pos := "top05.go:86", after := #[{ on := 0, ground := Ground.data }, { on := 2, ground := Ground.data }], guard := none }
def top8_o4 : Oper := { dst := some 4, op := Op.assign (Operand.tmp 37), type := 26, pos := "top05.go:86", after := #[{ on := 3, ground := Ground.data }, { on := 3, ground := Ground.chain }, { on := 0, ground := Ground.phase }, { on := 1, ground := Ground.phase }, { on := 2, ground := Ground.phase }, { on := 3, ground := Ground.phase }], guard := none }
def top8_ops : Array Oper := #[top8_o0, top8_o1, top8_o2, top8_o3, top8_o4]
set_option maxRecDepth 100000 in
set_option maxHeartbeats 4000000 in
theorem top8 (av pv sv rv : Value) (w1 w2 : World) (a : Act) (w : World) (Q : Exit → Act → World → Prop) (hsz : a.tmps.size = 157)
    (t4 : a.tmps.getD 4 undef = av)
    (t6 : a.tmps.getD 6 undef = pv)
    (EB : (Instr.buildSlice 26 1 #[(0, pv)]).run Try.prog w = .ok sv w1) (EA : (Builtin.append_ #[26, 26] 26 #[av, sv]).run Try.prog w1 = .ok rv w2)
    (h : ∀ (a' : Act) (w' : World), w' = w2 → a' = (((((a).put (some 34) (av)).put (some 35) (pv)).put (some 36) (sv)).put (some 37) (rv)).put (some 4) (rv) → Q .normal a' w') :
    (Code.region 8 top8_ops false).wp Try.prog Q a w := by
  refine wp_region_list ?_
  change wpList _ _ _ [top8_o0, top8_o1, top8_o2, top8_o3, top8_o4] _ _
  refine qv (v := av) (by rfl) (exec_move rfl t4) (fun a0 e0 => ?_)
  rw [← e0] at h
  have z0 := pz e0 hsz
  replace t6 := pk e0 t6
  clear t4
  have t34 := pq e0 hsz
  clear e0 hsz
  refine qv (v := pv) (by rfl) (exec_move rfl t6) (fun a1 e1 => ?_)
  rw [← e1] at h
  have z1 := pz e1 z0
  replace t34 := pk e1 t34
  clear t6
  have t35 := pq e1 z0
  clear e1 z0
  refine qk (v := sv) (by rfl) (exec_buildSlice rfl t35 EB) (fun a2 e2 => ?_)
  rw [← e2] at h
  have z2 := pz e2 z1
  replace t34 := pk e2 t34
  clear t35
  have t36 := pq e2 z1
  clear e2 z1
  refine qk (v := rv) (by rfl) (exec_append rfl t34 t36 EA) (fun a3 e3 => ?_)
  rw [← e3] at h
  have z3 := pz e3 z2
  clear t34 t36
  have t37 := pq e3 z2
  clear e3 z2
  refine qv (v := rv) (by rfl) (exec_assign rfl t37) (fun a4 e4 => ?_)
  rw [← e4] at h
  have z4 := pz e4 z3
  clear t37
  clear e4 z3
  exact wpList_nil (h _ _ (rfl) rfl)
def top13_o0 : Oper := { dst := some 47, op := Op.move (Operand.tmp 3), type := 24, pos := "top05.go:90", after := #[], guard := none }
def top13_o1 : Oper := { dst := some 48, op := Op.move (Operand.tmp 8), type := 30, pos := "top05.go:90", after := #[], guard := none }
def top13_o2 : Oper := { dst := some 49, op := Op.move (Operand.tmp 9), type := 3, pos := "top05.go:90", after := #[], guard := none }
def top13_o3 : Oper := { dst := some 50, op := Op.indexAddr 30 (Operand.tmp 48) (Operand.tmp 49), type := 0, pos := "top05.go:90", after := #[{ on := 1, ground := Ground.data }, { on := 2, ground := Ground.data }], guard := none }
def top13_o4 : Oper := { dst := some 51, op := Op.load 35 (Operand.tmp 50), type := 35, pos := "top05.go:90", after := #[{ on := 3, ground := Ground.data }], guard := none }
def top13_o5 : Oper := { dst := some 52, op := Op.call { callee := Callee.value (Operand.func 14), args := #[Operand.tmp 47, Operand.tmp 51], argTypes := #[24, 35] }, type := 36, pos := "top05.go:90", after := #[{ on := 0, ground := Ground.data }, { on := 4, ground := Ground.data }], guard := none }
def top13_o6 : Oper := { dst := some 46, op := Op.move (Operand.tmp 52), type := 36, pos := "top05.go:90", after := #[{ on := 5, ground := Ground.data }], guard := none }
def top13_o7 : Oper := { dst := some 53, op := Op.extract (Operand.tmp 46) 0, type := 35, pos := "top05.go:90", after := #[{ on := 6, ground := Ground.data }], guard := none }
def top13_o8 : Oper := { dst := some 54, op := Op.extract (Operand.tmp 46) 1, type := 9, pos := "top05.go:90", after := #[{ on := 6, ground := Ground.data }, { on := 11, ground := Ground.gcOnly Departure.lateStores }], guard := none }
def top13_o9 : Oper := { dst := some 55, op := Op.extract (Operand.tmp 46) 2, type := 4, pos := "top05.go:90", after := #[{ on := 6, ground := Ground.data }, { on := 12, ground := Ground.gcOnly Departure.lateStores }], guard := none }
def top13_o10 : Oper := { dst := some 10, op := Op.alloc 35, type := 0, pos := "top05.go:90", after := #[], guard := none }
def top13_o11 : Oper := { dst := none, op := Op.store 35 (Operand.tmp 10) (Operand.tmp 53), type := 0, pos := "top05.go:90", after := #[{ on := 10, ground := Ground.data }, { on := 7, ground := Ground.data }, { on := 5, ground := Ground.chain }, { on := 0, ground := Ground.phase }, { on := 1, ground := Ground.phase }, { on := 2, ground := Ground.phase }, { on := 3, ground := Ground.phase }, { on := 4, ground := Ground.phase }, { on := 5, ground := Ground.phase }, { on := 6, ground := Ground.phase }, { on := 7, ground := Ground.phase }, { on := 8, ground := Ground.textOnly Departure.lateStores }, { on := 9, ground := Ground.textOnly Departure.lateStores }, { on := 10, ground := Ground.phase }], guard := none }
def top13_o12 : Oper := { dst := some 11, op := Op.assign (Operand.tmp 54), type := 9, pos := "top05.go:90", after := #[{ on := 8, ground := Ground.data }, { on := 11, ground := Ground.chain }, { on := 0, ground := Ground.phase }, { on := 1, ground := Ground.phase }, { on := 2, ground := Ground.phase }, { on := 3, ground := Ground.phase }, { on := 4, ground := Ground.phase }, { on := 5, ground := Ground.phase }, { on := 6, ground := Ground.phase }, { on := 7, ground := Ground.phase }, { on := 8, ground := Ground.phase }, { on := 9, ground := Ground.textOnly Departure.lateStores }, { on := 10, ground := Ground.phase }, { on := 11, ground := Ground.phase }], guard := none }
def top13_o13 : Oper := { dst := some 12, op := Op.assign (Operand.tmp 55), type := 4, pos := "top05.go:90", after := #[{ on := 9, ground := Ground.data }, { on := 12, ground := Ground.chain }, { on := 0, ground := Ground.phase }, { on := 1, ground := Ground.phase }, { on := 2, ground := Ground.phase }, { on := 3, ground := Ground.phase }, { on := 4, ground := Ground.phase }, { on := 5, ground := Ground.phase }, { on := 6, ground := Ground.phase }, { on := 7, ground := Ground.phase }, { on := 8, ground := Ground.phase }, { on := 9, ground := Ground.phase }, { on := 10, ground := Ground.phase }, { on := 11, ground := Ground.phase }, { on := 12, ground := Ground.phase }], guard := none }
def top13_ops : Array Oper := #[top13_o0, top13_o1, top13_o2, top13_o3, top13_o4, top13_o5, top13_o6, top13_o7, top13_o8, top13_o9, top13_o10, top13_o11, top13_o12, top13_o13]
set_option maxRecDepth 100000 in
set_option maxHeartbeats 4000000 in
theorem top13 (tv lv iv pi xv uv kv okv : Value) (Fin : Value → World → Prop) (a : Act) (w : World) (Q : Exit → Act → World → Prop) (hsz : a.tmps.size = 157)
    (t3 : a.tmps.getD 3 undef = tv)
    (t8 : a.tmps.getD 8 undef = lv)
    (t9 : a.tmps.getD 9 undef = iv)
    (CU : Calls Try.prog 14 #[tv, xv] w fun e w' => e = .returned (.tuple #[uv, kv, okv]) ∧ ∃ p w1 w2, (Instr.alloc 35 true (.tuple #[])).run Try.prog w' = .ok p w1 ∧ (Instr.storeAt 35 p uv).run Try.prog w1 = .ok () w2 ∧ Fin p w2)
    (G1 : ∀ W, (Instr.indexAt 30 (lv) (iv)).run Try.prog W = .ok (pi) W)
    (G2 : (Instr.loadAt 35 (pi)).run Try.prog w = .ok (xv) w)
    (h : ∀ (p : Value) (a' : Act) (w' : World), Fin p w' → a' = (((((((((((((a).put (some 47) (tv)).put (some 48) (lv)).put (some 49) (iv)).put (some 50) (pi)).put (some 51) (xv)).put (some 52) (.tuple #[uv, kv, okv])).put (some 46) (.tuple #[uv, kv, okv])).put (some 53) (uv)).put (some 54) (kv)).put (some 55) (okv)).put (some 10) (p)).put (some 11) (kv)).put (some 12) (okv) → Q .normal a' w') :
    (Code.region 13 top13_ops false).wp Try.prog Q a w := by
  refine wp_region_list ?_
  change wpList _ _ _ [top13_o0, top13_o1, top13_o2, top13_o3, top13_o4, top13_o5, top13_o6, top13_o7, top13_o8, top13_o9, top13_o10, top13_o11, top13_o12, top13_o13] _ _
  refine qv (v := tv) (by rfl) (exec_move rfl t3) (fun a0 e0 => ?_)
  rw [← e0] at h
  have z0 := pz e0 hsz
  replace t8 := pk e0 t8
  replace t9 := pk e0 t9
  clear t3
  have t47 := pq e0 hsz
  clear e0 hsz
  refine qv (v := lv) (by rfl) (exec_move rfl t8) (fun a1 e1 => ?_)
  rw [← e1] at h
  have z1 := pz e1 z0
  replace t9 := pk e1 t9
  replace t47 := pk e1 t47
  clear t8
  have t48 := pq e1 z0
  clear e1 z0
  refine qv (v := iv) (by rfl) (exec_move rfl t9) (fun a2 e2 => ?_)
  rw [← e2] at h
  have z2 := pz e2 z1
  replace t47 := pk e2 t47
  replace t48 := pk e2 t48
  clear t9
  have t49 := pq e2 z1
  clear e2 z1
  refine qv (v := pi) (by rfl) (exec_indexAt rfl t48 t49 (G1 _)) (fun a3 e3 => ?_)
  rw [← e3] at h
  have z3 := pz e3 z2
  replace t47 := pk e3 t47
  clear t48 t49
  have t50 := pq e3 z2
  clear e3 z2
  refine qv (v := xv) (by rfl) (exec_load rfl t50 G2) (fun a4 e4 => ?_)
  rw [← e4] at h
  have z4 := pz e4 z3
  replace t47 := pk e4 t47
  clear t50
  have t51 := pq e4 z3
  clear e4 z3
  refine qc (by rfl) (by unfold top13_o5; go_simp) (CU) (fun e x5 hx => ?_)
  obtain ⟨rfl, p, w1, w2, EA, ES, HF⟩ := hx
  replace h := h p
  refine ⟨_, rfl, fun a5 e5 => ?_⟩
  rw [← e5] at h
  have z5 := pz e5 z4
  clear t47 t51
  have t52 := pq e5 z4
  clear e5 z4
  refine qv (v := .tuple #[uv, kv, okv]) (by rfl) (exec_move rfl t52) (fun a6 e6 => ?_)
  rw [← e6] at h
  have z6 := pz e6 z5
  clear t52
  have t46 := pq e6 z5
  clear e6 z5
  refine qv (v := uv) (by rfl) (exec_extract rfl t46 rfl) (fun a7 e7 => ?_)
  rw [← e7] at h
  have z7 := pz e7 z6
  replace t46 := pk e7 t46
  have t53 := pq e7 z6
  clear e7 z6
  refine qv (v := kv) (by rfl) (exec_extract rfl t46 rfl) (fun a8 e8 => ?_)
  rw [← e8] at h
  have z8 := pz e8 z7
  replace t46 := pk e8 t46
  replace t53 := pk e8 t53
  have t54 := pq e8 z7
  clear e8 z7
  refine qv (v := okv) (by rfl) (exec_extract rfl t46 rfl) (fun a9 e9 => ?_)
  rw [← e9] at h
  have z9 := pz e9 z8
  replace t53 := pk e9 t53
  replace t54 := pk e9 t54
  clear t46
  have t55 := pq e9 z8
  clear e9 z8
  refine qk (v := p) (by rfl) (exec_alloc rfl EA) (fun a10 e10 => ?_)
  rw [← e10] at h
  have z10 := pz e10 z9
  replace t53 := pk e10 t53
  replace t54 := pk e10 t54
  replace t55 := pk e10 t55
  have t10 := pq e10 z9
  clear e10 z9
  refine qs (by rfl) (exec_store rfl t10 t53 ES) ?_
  refine qv (v := kv) (by rfl) (exec_assign rfl t54) (fun a12 e12 => ?_)
  rw [← e12] at h
  have z12 := pz e12 z10
  replace t55 := pk e12 t55
  clear t53 t54 t10
  clear e12 z10
  refine qv (v := okv) (by rfl) (exec_assign rfl t55) (fun a13 e13 => ?_)
  rw [← e13] at h
  have z13 := pz e13 z12
  clear t55
  clear e13 z12
  exact wpList_nil (h _ _ (HF) rfl)
def top21_o0 : Oper := { dst := some 136, op := Op.move (Operand.tmp 3), type := 24, pos := "top05.go:100", after := #[], guard := none }
def top21_o1 : Oper := { dst := some 137, op := Op.move (Operand.tmp 4), type := 26, pos := "top05.go:100", after := #[], guard := none }
def top21_o2 : Oper := { dst := some 138, op := Op.move (Operand.tmp 13), type := 3, pos := "top05.go:100", after := #[], guard := none }
def top21_o3 : Oper := { dst := some 139, op := Op.indexAddr 26 (Operand.tmp 137) (Operand.tmp 138), type := 0, pos := "top05.go:100", after := #[{ on := 1, ground := Ground.data }, { on := 2, ground := Ground.data }], guard := none }
def top21_o4 : Oper := { dst := some 140, op := Op.load 53 (Operand.tmp 139), type := 53, pos := "top05.go:100", after := #[{ on := 3, ground := Ground.data }], guard := none }
def top21_o5 : Oper := { dst := some 141, op := Op.call { callee := Callee.value (Operand.func 22), args := #[Operand.tmp 136, Operand.tmp 140], argTypes := #[24, 53] }, type := 51, pos := "top05.go:100", after := #[{ on := 0, ground := Ground.data }, { on := 4, ground := Ground.data }], guard := none }
def top21_o6 : Oper := { dst := some 142, op := Op.binOp BinOp.neq 51 (Operand.tmp 141) (Operand.const (Value.int IntKind.i64 0)) 51, type := 4, pos := "top05.go:100", after := #[{ on := 5, ground := Ground.data }], guard := none }
def top21_ops : Array Oper := #[top21_o0, top21_o1, top21_o2, top21_o3, top21_o4, top21_o5, top21_o6]
set_option maxRecDepth 100000 in
set_option maxHeartbeats 4000000 in
theorem top21 (tv lv iv pi bv : Value) (Fin : World → Prop) (a : Act) (w : World) (Q : Exit → Act → World → Prop) (hsz : a.tmps.size = 157)
    (t3 : a.tmps.getD 3 undef = tv)
    (t4 : a.tmps.getD 4 undef = lv)
    (t13 : a.tmps.getD 13 undef = iv)
    (CN : Calls Try.prog 22 #[tv, bv] w fun e w' => e = .returned (.int .i64 0) ∧ Fin w')
    (G1 : ∀ W, (Instr.indexAt 26 (lv) (iv)).run Try.prog W = .ok (pi) W)
    (G2 : (Instr.loadAt 53 (pi)).run Try.prog w = .ok (bv) w)
    (h : ∀ (a' : Act) (w' : World), Fin w' → a' = (((((((a).put (some 136) (tv)).put (some 137) (lv)).put (some 138) (iv)).put (some 139) (pi)).put (some 140) (bv)).put (some 141) (.int .i64 0)).put (some 142) (.bool false) → Q .normal a' w') :
    (Code.region 21 top21_ops false).wp Try.prog Q a w := by
  refine wp_region_list ?_
  change wpList _ _ _ [top21_o0, top21_o1, top21_o2, top21_o3, top21_o4, top21_o5, top21_o6] _ _
  refine qv (v := tv) (by rfl) (exec_move rfl t3) (fun a0 e0 => ?_)
  rw [← e0] at h
  have z0 := pz e0 hsz
  replace t4 := pk e0 t4
  replace t13 := pk e0 t13
  clear t3
  have t136 := pq e0 hsz
  clear e0 hsz
  refine qv (v := lv) (by rfl) (exec_move rfl t4) (fun a1 e1 => ?_)
  rw [← e1] at h
  have z1 := pz e1 z0
  replace t13 := pk e1 t13
  replace t136 := pk e1 t136
  clear t4
  have t137 := pq e1 z0
  clear e1 z0
  refine qv (v := iv) (by rfl) (exec_move rfl t13) (fun a2 e2 => ?_)
  rw [← e2] at h
  have z2 := pz e2 z1
  replace t136 := pk e2 t136
  replace t137 := pk e2 t137
  clear t13
  have t138 := pq e2 z1
  clear e2 z1
  refine qv (v := pi) (by rfl) (exec_indexAt rfl t137 t138 (G1 _)) (fun a3 e3 => ?_)
  rw [← e3] at h
  have z3 := pz e3 z2
  replace t136 := pk e3 t136
  clear t137 t138
  have t139 := pq e3 z2
  clear e3 z2
  refine qv (v := bv) (by rfl) (exec_load rfl t139 G2) (fun a4 e4 => ?_)
  rw [← e4] at h
  have z4 := pz e4 z3
  replace t136 := pk e4 t136
  clear t139
  have t140 := pq e4 z3
  clear e4 z3
  refine qc (by rfl) (by unfold top21_o5; go_simp) (CN) (fun e x5 hx => ?_)
  obtain ⟨rfl, HF⟩ := hx
  refine ⟨_, rfl, fun a5 e5 => ?_⟩
  rw [← e5] at h
  have z5 := pz e5 z4
  clear t136 t140
  have t141 := pq e5 z4
  clear e5 z4
  refine qv (v := .bool false) (by rfl) (by unfold top21_o6; go_simp) (fun a6 e6 => ?_)
  rw [← e6] at h
  have z6 := pz e6 z5
  clear t141
  clear e6 z5
  exact wpList_nil (h _ _ (HF) rfl)
end Go.Proofs.Ytoofljkgdjjllab

