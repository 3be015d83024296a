import Derived.Test.YtefoipjbbfcjhaaDoorDr
namespace Go.Proofs.YtefoipjbbfcjhaaDoor
open Go.RowKit
set_option linter.unusedVariables false
set_option linter.unusedSimpArgs false

section
variable {P : Program} {w w2 : World} {a : Act} {o : Oper}
theorem exec_slice {t : TypeId} {x y z : Operand} {xv yv zv v : Value} (ho : o.op = .slice t x (some y) (some z) none) (hx : a.eval x = xv) (hy : a.eval y = yv) (hz : a.eval z = zv) (hl : (Instr.sliceAt t xv (some yv) (some zv) none).run P w = .ok v w) : (execOp a.eval o).run P w = .ok (.value v) w := by
  unfold execOp; simp only [ho, hx, hy, hz, Option.map, Sem.run_bind, hl, Result.andThen_ok, Sem.run_pure]
theorem exec_convert {s t : TypeId} {x : Operand} {xv v : Value} (ho : o.op = .convert s t x) (hx : a.eval x = xv) (hl : (convert s t xv).run P w = .ok v w) : (execOp a.eval o).run P w = .ok (.value v) w := by
  unfold execOp; simp only [ho, hx, Sem.run_bind, hl, Result.andThen_ok, Sem.run_pure]
end
theorem fa_57_0 (b : Nat) (w : World) : (Instr.fieldAt 57 (.pointer (some ⟨b, 0, none⟩)) 0).run Tryd.prog w = .ok (.pointer (some ⟨b, 0, none⟩)) w := by go_simp
theorem fa_57_1 (b : Nat) (w : World) : (Instr.fieldAt 57 (.pointer (some ⟨b, 0, none⟩)) 1).run Tryd.prog w = .ok (.pointer (some ⟨b, 1, none⟩)) w := by go_simp
theorem fa_57_2 (b : Nat) (w : World) : (Instr.fieldAt 57 (.pointer (some ⟨b, 0, none⟩)) 2).run Tryd.prog w = .ok (.pointer (some ⟨b, 2, none⟩)) w := by go_simp
def betw7_ops : Array Oper := #[{ dst := some 35, op := Op.move (Operand.tmp 7), type := 23, pos := "script.go:30", after := #[], guard := none }, { dst := some 36, op := Op.move (Operand.tmp 9), type := 3, pos := "script.go:30", after := #[], guard := none }, { dst := some 37, op := Op.fieldAddr 57 (Operand.tmp 11) 0, type := 0, pos := "script.go:30", after := #[], guard := none }, { dst := some 38, op := Op.load 3 (Operand.tmp 37), type := 3, pos := "script.go:30", after := #[{ on := 2, ground := Ground.data }], guard := none }, { dst := some 39, op := Op.move (Operand.tmp 8), type := 3, pos := "script.go:30", after := #[], guard := none }, { dst := some 40, op := Op.binOp BinOp.sub 3 (Operand.tmp 38) (Operand.tmp 39) 3, type := 3, pos := "script.go:30", after := #[{ on := 3, ground := Ground.data }, { on := 4, ground := Ground.data }], guard := none }, { dst := some 41, op := Op.move (Operand.tmp 1), type := 37, pos := "script.go:30", after := #[], guard := none }, { dst := some 42, op := Op.move (Operand.tmp 9), type := 3, pos := "script.go:30", after := #[], guard := none }, { dst := some 43, op := Op.fieldAddr 57 (Operand.tmp 11) 1, type := 0, pos := "script.go:30", after := #[], guard := none }, { dst := some 44, op := Op.load 3 (Operand.tmp 43), type := 3, pos := "script.go:30", after := #[{ on := 8, ground := Ground.data }], guard := none }, { dst := some 45, op := Op.slice 37 (Operand.tmp 41) (some (Operand.tmp 42)) (some (Operand.tmp 44)) none, type := 37, pos := "script.go:30", after := #[{ on := 6, ground := Ground.data }, { on := 7, ground := Ground.data }, { on := 9, ground := Ground.data }], guard := none }, { dst := some 46, op := Op.convert 37 9 (Operand.tmp 45), type := 9, pos := "script.go:30", after := #[{ on := 10, ground := Ground.data }], guard := none }, { dst := some 47, op := Op.build 34 #[(0, Operand.const (Value.int IntKind.u8 4)), (3, Operand.tmp 36), (4, Operand.tmp 40), (5, Operand.tmp 46)], type := 34, pos := "script.go:30", after := #[{ on := 1, ground := Ground.data }, { on := 5, ground := Ground.data }, { on := 11, ground := Ground.data }], guard := none }, { dst := some 48, op := Op.buildSlice 23 1 #[(0, Operand.tmp 47)], type := 23, pos := "script.go:30", after := #[{ on := 12, ground := Ground.data }], guard := none }, { dst := some 49, op := Op.call { callee := Callee.builtin Builtin.append, args := #[Operand.tmp 35, Operand.tmp 48], argTypes := #[23, 23] }, type := 23, pos := "script.go:30", after := #[{ on := 0, ground := Ground.data }, { on := 13, ground := Ground.data }], guard := none }, { dst := some 7, op := Op.assign (Operand.tmp 49), type := 23, pos := "script.go:30", after := #[{ on := 14, ground := Ground.data }, { on := 14, ground := Ground.chain }, { on := 0, ground := Ground.phase }, { on := 1, ground := Ground.phase }, { on := 2, ground := Ground.phase }, { on := 3, ground := Ground.phase }, { on := 4, ground := Ground.phase }, { on := 5, ground := Ground.phase }, { on := 6, ground := Ground.phase }, { on := 7, ground := Ground.phase }, { on := 8, ground := Ground.phase }, { on := 9, ground := Ground.phase }, { on := 10, ground := Ground.phase }, { on := 11, ground := Ground.phase }, { on := 12, ground := Ground.phase }, { on := 13, ground := Ground.phase }, { on := 14, ground := Ground.phase }], guard := none }]
theorem betw7 (q : Nat) (bv lv cv pv sv lv2 : Value) (i j si sj ci : Int) (ts : ByteArray) (w1 w2 : World) (S : World → Prop) (a : Act) (w : World) (Q : Exit → Act → World → Prop) (hsz : a.tmps.size = 62)
    (h1 : a.tmps.getD 1 undef = bv)
    (h7 : a.tmps.getD 7 undef = lv)
    (h8 : a.tmps.getD 8 undef = .int .i64 i)
    (h9 : a.tmps.getD 9 undef = .int .i64 j)
    (h11 : a.tmps.getD 11 undef = .pointer (some ⟨q, 0, none⟩))
    (hS0 : S w.drew)
    (H3 : ∀ wx, S wx → (Instr.loadAt 3 (.pointer (some ⟨q, 0, none⟩))).run Tryd.prog wx = .ok (.int .i64 si) wx)
    (H5 : ∀ wx, (eqGuard BinOp.sub 3 (Operand.tmp 38) (Operand.tmp 39) (.int .i64 si) (.int .i64 i)).run Tryd.prog wx = .ok () wx) (I5 : ∀ wx, S wx → (binOp BinOp.sub 3 (.int .i64 si) (.int .i64 i)).run Tryd.prog wx = .ok (.int .i64 ci) wx)
    (H9 : ∀ wx, S wx → (Instr.loadAt 3 (.pointer (some ⟨q, 1, none⟩))).run Tryd.prog wx = .ok (.int .i64 sj) wx)
    (H10 : ∀ wx, S wx → (Instr.sliceAt 37 (bv) (some (.int .i64 j)) (some (.int .i64 sj)) none).run Tryd.prog wx = .ok (cv) wx)
    (H11 : ∀ wx, S wx → (convert 37 9 (cv)).run Tryd.prog wx = .ok (.string ts) wx)
    (H12 : ∀ wx, (Instr.build 34 #[(0, .int .u8 4), (3, .int .i64 j), (4, .int .i64 ci), (5, .string ts)]).run Tryd.prog wx = .ok (pv) wx)
    (H13 : (Instr.buildSlice 23 1 #[(0, pv)]).run Tryd.prog (w.drew) = .ok (sv) w1) (S1 : S w1)
    (H14 : (Builtin.append_ #[23, 23] 23 #[lv, sv]).run Tryd.prog (w1) = .ok (lv2) w2) (S2 : S w2)
    (h : ∀ (a' : Act), a' = ((((((((((((((((a).put (some 35) (lv)).put (some 36) (.int .i64 j)).put (some 37) (.pointer (some ⟨q, 0, none⟩))).put (some 38) (.int .i64 si)).put (some 39) (.int .i64 i)).put (some 40) (.int .i64 ci)).put (some 41) (bv)).put (some 42) (.int .i64 j)).put (some 43) (.pointer (some ⟨q, 1, none⟩))).put (some 44) (.int .i64 sj)).put (some 45) (cv)).put (some 46) (.string ts)).put (some 47) (pv)).put (some 48) (sv)).put (some 49) (lv2)).put (some 7) (lv2) → Q .normal a' w2) :
    (Code.region 7 betw7_ops true).wp Tryd.prog Q a w := by
  refine wp_region_noPanic ?_
  refine wp_region_held_drew (S := S) (by kernel_rfl) hS0 (fun hHeld => ?_)
  refine wpAnyH_take (i := 0) (oi := { dst := some 35, op := Op.move (Operand.tmp 7), type := 23, pos := "script.go:30", after := #[], guard := none }) (v := lv) rfl (by kernel_rfl) (by kernel_rfl) (by kernel_rfl) (fun _ _ _ h => h) (Or.inl ⟨by rfl, fun w1 hw => exec_move rfl (h7)⟩) hHeld ?_
  change wpAnyH _ _ _ _ _ _ _ (a.put (some 35) (lv)) _
  obtain ⟨a1, e1⟩ : ∃ act, act = a.put (some 35) (lv) := ⟨_, rfl⟩
  rw [← e1] at h ⊢
  have z1 : a1.tmps.size = 62 := by rw [e1, put_size]; exact hsz
  replace h1 : a1.tmps.getD 1 undef = bv := by rw [e1, put_ne _ _ _ _ (by decide)]; exact h1
  clear h7
  replace h8 : a1.tmps.getD 8 undef = .int .i64 i := by rw [e1, put_ne _ _ _ _ (by decide)]; exact h8
  replace h9 : a1.tmps.getD 9 undef = .int .i64 j := by rw [e1, put_ne _ _ _ _ (by decide)]; exact h9
  replace h11 : a1.tmps.getD 11 undef = .pointer (some ⟨q, 0, none⟩) := by rw [e1, put_ne _ _ _ _ (by decide)]; exact h11
  have h35 : a1.tmps.getD 35 undef = lv := by rw [e1]; exact put_same _ _ _ (by omega)
  clear e1 hsz
  refine wpAnyH_take (i := 1) (oi := { dst := some 36, op := Op.move (Operand.tmp 9), type := 3, pos := "script.go:30", after := #[], guard := none }) (v := .int .i64 j) rfl (by kernel_rfl) (by kernel_rfl) (by kernel_rfl) (fun _ _ _ h => h) (Or.inl ⟨by rfl, fun w1 hw => exec_move rfl (h9)⟩) hHeld ?_
  change wpAnyH _ _ _ _ _ _ _ (a1.put (some 36) (.int .i64 j)) _
  obtain ⟨a2, e2⟩ : ∃ act, act = a1.put (some 36) (.int .i64 j) := ⟨_, rfl⟩
  rw [← e2] at h ⊢
  have z2 : a2.tmps.size = 62 := by rw [e2, put_size]; exact z1
  replace h1 : a2.tmps.getD 1 undef = bv := by rw [e2, put_ne _ _ _ _ (by decide)]; exact h1
  replace h8 : a2.tmps.getD 8 undef = .int .i64 i := by rw [e2, put_ne _ _ _ _ (by decide)]; exact h8
  replace h9 : a2.tmps.getD 9 undef = .int .i64 j := by rw [e2, put_ne _ _ _ _ (by decide)]; exact h9
  replace h11 : a2.tmps.getD 11 undef = .pointer (some ⟨q, 0, none⟩) := by rw [e2, put_ne _ _ _ _ (by decide)]; exact h11
  replace h35 : a2.tmps.getD 35 undef = lv := by rw [e2, put_ne _ _ _ _ (by decide)]; exact h35
  have h36 : a2.tmps.getD 36 undef = .int .i64 j := by rw [e2]; exact put_same _ _ _ (by omega)
  clear e2 z1
  refine wpAnyH_take (i := 2) (oi := { dst := some 37, op := Op.fieldAddr 57 (Operand.tmp 11) 0, type := 0, pos := "script.go:30", after := #[], guard := none }) (v := .pointer (some ⟨q, 0, none⟩)) rfl (by kernel_rfl) (by kernel_rfl) (by kernel_rfl) (fun _ _ _ h => h) (Or.inl ⟨by rfl, fun w1 hw => exec_fieldAt rfl (h11) (fa_57_0 _ _)⟩) hHeld ?_
  change wpAnyH _ _ _ _ _ _ _ (a2.put (some 37) (.pointer (some ⟨q, 0, none⟩))) _
  obtain ⟨a3, e3⟩ : ∃ act, act = a2.put (some 37) (.pointer (some ⟨q, 0, none⟩)) := ⟨_, rfl⟩
  rw [← e3] at h ⊢
  have z3 : a3.tmps.size = 62 := by rw [e3, put_size]; exact z2
  replace h1 : a3.tmps.getD 1 undef = bv := by rw [e3, put_ne _ _ _ _ (by decide)]; exact h1
  replace h8 : a3.tmps.getD 8 undef = .int .i64 i := by rw [e3, put_ne _ _ _ _ (by decide)]; exact h8
  replace h9 : a3.tmps.getD 9 undef = .int .i64 j := by rw [e3, put_ne _ _ _ _ (by decide)]; exact h9
  replace h11 : a3.tmps.getD 11 undef = .pointer (some ⟨q, 0, none⟩) := by rw [e3, put_ne _ _ _ _ (by decide)]; exact h11
  replace h35 : a3.tmps.getD 35 undef = lv := by rw [e3, put_ne _ _ _ _ (by decide)]; exact h35
  replace h36 : a3.tmps.getD 36 undef = .int .i64 j := by rw [e3, put_ne _ _ _ _ (by decide)]; exact h36
  have h37 : a3.tmps.getD 37 undef = .pointer (some ⟨q, 0, none⟩) := by rw [e3]; exact put_same _ _ _ (by omega)
  clear e3 z2
  refine wpAnyH_take (i := 3) (oi := { dst := some 38, op := Op.load 3 (Operand.tmp 37), type := 3, pos := "script.go:30", after := #[{ on := 2, ground := Ground.data }], guard := none }) (v := .int .i64 si) rfl (by kernel_rfl) (by kernel_rfl) (by kernel_rfl) (fun _ _ _ h => h) (Or.inl ⟨by rfl, fun w1 hw => exec_load rfl (h37) (H3 _ hw)⟩) hHeld ?_
  change wpAnyH _ _ _ _ _ _ _ (a3.put (some 38) (.int .i64 si)) _
  obtain ⟨a4, e4⟩ : ∃ act, act = a3.put (some 38) (.int .i64 si) := ⟨_, rfl⟩
  rw [← e4] at h ⊢
  have z4 : a4.tmps.size = 62 := by rw [e4, put_size]; exact z3
  replace h1 : a4.tmps.getD 1 undef = bv := by rw [e4, put_ne _ _ _ _ (by decide)]; exact h1
  replace h8 : a4.tmps.getD 8 undef = .int .i64 i := by rw [e4, put_ne _ _ _ _ (by decide)]; exact h8
  replace h9 : a4.tmps.getD 9 undef = .int .i64 j := by rw [e4, put_ne _ _ _ _ (by decide)]; exact h9
  replace h11 : a4.tmps.getD 11 undef = .pointer (some ⟨q, 0, none⟩) := by rw [e4, put_ne _ _ _ _ (by decide)]; exact h11
  replace h35 : a4.tmps.getD 35 undef = lv := by rw [e4, put_ne _ _ _ _ (by decide)]; exact h35
  replace h36 : a4.tmps.getD 36 undef = .int .i64 j := by rw [e4, put_ne _ _ _ _ (by decide)]; exact h36
  clear h37
  have h38 : a4.tmps.getD 38 undef = .int .i64 si := by rw [e4]; exact put_same _ _ _ (by omega)
  clear e4 z3
  refine wpAnyH_take (i := 4) (oi := { dst := some 39, op := Op.move (Operand.tmp 8), type := 3, pos := "script.go:30", after := #[], guard := none }) (v := .int .i64 i) rfl (by kernel_rfl) (by kernel_rfl) (by kernel_rfl) (fun _ _ _ h => h) (Or.inl ⟨by rfl, fun w1 hw => exec_move rfl (h8)⟩) hHeld ?_
  change wpAnyH _ _ _ _ _ _ _ (a4.put (some 39) (.int .i64 i)) _
  obtain ⟨a5, e5⟩ : ∃ act, act = a4.put (some 39) (.int .i64 i) := ⟨_, rfl⟩
  rw [← e5] at h ⊢
  have z5 : a5.tmps.size = 62 := by rw [e5, put_size]; exact z4
  replace h1 : a5.tmps.getD 1 undef = bv := by rw [e5, put_ne _ _ _ _ (by decide)]; exact h1
  clear h8
  replace h9 : a5.tmps.getD 9 undef = .int .i64 j := by rw [e5, put_ne _ _ _ _ (by decide)]; exact h9
  replace h11 : a5.tmps.getD 11 undef = .pointer (some ⟨q, 0, none⟩) := by rw [e5, put_ne _ _ _ _ (by decide)]; exact h11
  replace h35 : a5.tmps.getD 35 undef = lv := by rw [e5, put_ne _ _ _ _ (by decide)]; exact h35
  replace h36 : a5.tmps.getD 36 undef = .int .i64 j := by rw [e5, put_ne _ _ _ _ (by decide)]; exact h36
  replace h38 : a5.tmps.getD 38 undef = .int .i64 si := by rw [e5, put_ne _ _ _ _ (by decide)]; exact h38
  have h39 : a5.tmps.getD 39 undef = .int .i64 i := by rw [e5]; exact put_same _ _ _ (by omega)
  clear e5 z4
  refine wpAnyH_take (i := 5) (oi := { dst := some 40, op := Op.binOp BinOp.sub 3 (Operand.tmp 38) (Operand.tmp 39) 3, type := 3, pos := "script.go:30", after := #[{ on := 3, ground := Ground.data }, { on := 4, ground := Ground.data }], guard := none }) (v := .int .i64 ci) rfl (by kernel_rfl) (by kernel_rfl) (by kernel_rfl) (fun _ _ _ h => h) (Or.inl ⟨by rfl, fun w1 hw => exec_binOp rfl (h38) (h39) (H5 _) (I5 _ hw)⟩) hHeld ?_
  change wpAnyH _ _ _ _ _ _ _ (a5.put (some 40) (.int .i64 ci)) _
  obtain ⟨a6, e6⟩ : ∃ act, act = a5.put (some 40) (.int .i64 ci) := ⟨_, rfl⟩
  rw [← e6] at h ⊢
  have z6 : a6.tmps.size = 62 := by rw [e6, put_size]; exact z5
  replace h1 : a6.tmps.getD 1 undef = bv := by rw [e6, put_ne _ _ _ _ (by decide)]; exact h1
  replace h9 : a6.tmps.getD 9 undef = .int .i64 j := by rw [e6, put_ne _ _ _ _ (by decide)]; exact h9
  replace h11 : a6.tmps.getD 11 undef = .pointer (some ⟨q, 0, none⟩) := by rw [e6, put_ne _ _ _ _ (by decide)]; exact h11
  replace h35 : a6.tmps.getD 35 undef = lv := by rw [e6, put_ne _ _ _ _ (by decide)]; exact h35
  replace h36 : a6.tmps.getD 36 undef = .int .i64 j := by rw [e6, put_ne _ _ _ _ (by decide)]; exact h36
  clear h38
  clear h39
  have h40 : a6.tmps.getD 40 undef = .int .i64 ci := by rw [e6]; exact put_same _ _ _ (by omega)
  clear e6 z5
  refine wpAnyH_take (i := 6) (oi := { dst := some 41, op := Op.move (Operand.tmp 1), type := 37, pos := "script.go:30", after := #[], guard := none }) (v := bv) rfl (by kernel_rfl) (by kernel_rfl) (by kernel_rfl) (fun _ _ _ h => h) (Or.inl ⟨by rfl, fun w1 hw => exec_move rfl (h1)⟩) hHeld ?_
  change wpAnyH _ _ _ _ _ _ _ (a6.put (some 41) (bv)) _
  obtain ⟨a7, e7⟩ : ∃ act, act = a6.put (some 41) (bv) := ⟨_, rfl⟩
  rw [← e7] at h ⊢
  have z7 : a7.tmps.size = 62 := by rw [e7, put_size]; exact z6
  clear h1
  replace h9 : a7.tmps.getD 9 undef = .int .i64 j := by rw [e7, put_ne _ _ _ _ (by decide)]; exact h9
  replace h11 : a7.tmps.getD 11 undef = .pointer (some ⟨q, 0, none⟩) := by rw [e7, put_ne _ _ _ _ (by decide)]; exact h11
  replace h35 : a7.tmps.getD 35 undef = lv := by rw [e7, put_ne _ _ _ _ (by decide)]; exact h35
  replace h36 : a7.tmps.getD 36 undef = .int .i64 j := by rw [e7, put_ne _ _ _ _ (by decide)]; exact h36
  replace h40 : a7.tmps.getD 40 undef = .int .i64 ci := by rw [e7, put_ne _ _ _ _ (by decide)]; exact h40
  have h41 : a7.tmps.getD 41 undef = bv := by rw [e7]; exact put_same _ _ _ (by omega)
  clear e7 z6
  refine wpAnyH_take (i := 7) (oi := { dst := some 42, op := Op.move (Operand.tmp 9), type := 3, pos := "script.go:30", after := #[], guard := none }) (v := .int .i64 j) rfl (by kernel_rfl) (by kernel_rfl) (by kernel_rfl) (fun _ _ _ h => h) (Or.inl ⟨by rfl, fun w1 hw => exec_move rfl (h9)⟩) hHeld ?_
  change wpAnyH _ _ _ _ _ _ _ (a7.put (some 42) (.int .i64 j)) _
  obtain ⟨a8, e8⟩ : ∃ act, act = a7.put (some 42) (.int .i64 j) := ⟨_, rfl⟩
  rw [← e8] at h ⊢
  have z8 : a8.tmps.size = 62 := by rw [e8, put_size]; exact z7
  clear h9
  replace h11 : a8.tmps.getD 11 undef = .pointer (some ⟨q, 0, none⟩) := by rw [e8, put_ne _ _ _ _ (by decide)]; exact h11
  replace h35 : a8.tmps.getD 35 undef = lv := by rw [e8, put_ne _ _ _ _ (by decide)]; exact h35
  replace h36 : a8.tmps.getD 36 undef = .int .i64 j := by rw [e8, put_ne _ _ _ _ (by decide)]; exact h36
  replace h40 : a8.tmps.getD 40 undef = .int .i64 ci := by rw [e8, put_ne _ _ _ _ (by decide)]; exact h40
  replace h41 : a8.tmps.getD 41 undef = bv := by rw [e8, put_ne _ _ _ _ (by decide)]; exact h41
  have h42 : a8.tmps.getD 42 undef = .int .i64 j := by rw [e8]; exact put_same _ _ _ (by omega)
  clear e8 z7
  refine wpAnyH_take (i := 8) (oi := { dst := some 43, op := Op.fieldAddr 57 (Operand.tmp 11) 1, type := 0, pos := "script.go:30", after := #[], guard := none }) (v := .pointer (some ⟨q, 1, none⟩)) rfl (by kernel_rfl) (by kernel_rfl) (by kernel_rfl) (fun _ _ _ h => h) (Or.inl ⟨by rfl, fun w1 hw => exec_fieldAt rfl (h11) (fa_57_1 _ _)⟩) hHeld ?_
  change wpAnyH _ _ _ _ _ _ _ (a8.put (some 43) (.pointer (some ⟨q, 1, none⟩))) _
  obtain ⟨a9, e9⟩ : ∃ act, act = a8.put (some 43) (.pointer (some ⟨q, 1, none⟩)) := ⟨_, rfl⟩
  rw [← e9] at h ⊢
  have z9 : a9.tmps.size = 62 := by rw [e9, put_size]; exact z8
  clear h11
  replace h35 : a9.tmps.getD 35 undef = lv := by rw [e9, put_ne _ _ _ _ (by decide)]; exact h35
  replace h36 : a9.tmps.getD 36 undef = .int .i64 j := by rw [e9, put_ne _ _ _ _ (by decide)]; exact h36
  replace h40 : a9.tmps.getD 40 undef = .int .i64 ci := by rw [e9, put_ne _ _ _ _ (by decide)]; exact h40
  replace h41 : a9.tmps.getD 41 undef = bv := by rw [e9, put_ne _ _ _ _ (by decide)]; exact h41
  replace h42 : a9.tmps.getD 42 undef = .int .i64 j := by rw [e9, put_ne _ _ _ _ (by decide)]; exact h42
  have h43 : a9.tmps.getD 43 undef = .pointer (some ⟨q, 1, none⟩) := by rw [e9]; exact put_same _ _ _ (by omega)
  clear e9 z8
  refine wpAnyH_take (i := 9) (oi := { dst := some 44, op := Op.load 3 (Operand.tmp 43), type := 3, pos := "script.go:30", after := #[{ on := 8, ground := Ground.data }], guard := none }) (v := .int .i64 sj) rfl (by kernel_rfl) (by kernel_rfl) (by kernel_rfl) (fun _ _ _ h => h) (Or.inl ⟨by rfl, fun w1 hw => exec_load rfl (h43) (H9 _ hw)⟩) hHeld ?_
  change wpAnyH _ _ _ _ _ _ _ (a9.put (some 44) (.int .i64 sj)) _
  obtain ⟨a10, e10⟩ : ∃ act, act = a9.put (some 44) (.int .i64 sj) := ⟨_, rfl⟩
  rw [← e10] at h ⊢
  have z10 : a10.tmps.size = 62 := by rw [e10, put_size]; exact z9
  replace h35 : a10.tmps.getD 35 undef = lv := by rw [e10, put_ne _ _ _ _ (by decide)]; exact h35
  replace h36 : a10.tmps.getD 36 undef = .int .i64 j := by rw [e10, put_ne _ _ _ _ (by decide)]; exact h36
  replace h40 : a10.tmps.getD 40 undef = .int .i64 ci := by rw [e10, put_ne _ _ _ _ (by decide)]; exact h40
  replace h41 : a10.tmps.getD 41 undef = bv := by rw [e10, put_ne _ _ _ _ (by decide)]; exact h41
  replace h42 : a10.tmps.getD 42 undef = .int .i64 j := by rw [e10, put_ne _ _ _ _ (by decide)]; exact h42
  clear h43
  have h44 : a10.tmps.getD 44 undef = .int .i64 sj := by rw [e10]; exact put_same _ _ _ (by omega)
  clear e10 z9
  refine wpAnyH_take (i := 10) (oi := { dst := some 45, op := Op.slice 37 (Operand.tmp 41) (some (Operand.tmp 42)) (some (Operand.tmp 44)) none, type := 37, pos := "script.go:30", after := #[{ on := 6, ground := Ground.data }, { on := 7, ground := Ground.data }, { on := 9, ground := Ground.data }], guard := none }) (v := cv) rfl (by kernel_rfl) (by kernel_rfl) (by kernel_rfl) (fun _ _ _ h => h) (Or.inl ⟨by rfl, fun w1 hw => exec_slice rfl (h41) (h42) (h44) (H10 _ hw)⟩) hHeld ?_
  change wpAnyH _ _ _ _ _ _ _ (a10.put (some 45) (cv)) _
  obtain ⟨a11, e11⟩ : ∃ act, act = a10.put (some 45) (cv) := ⟨_, rfl⟩
  rw [← e11] at h ⊢
  have z11 : a11.tmps.size = 62 := by rw [e11, put_size]; exact z10
  replace h35 : a11.tmps.getD 35 undef = lv := by rw [e11, put_ne _ _ _ _ (by decide)]; exact h35
  replace h36 : a11.tmps.getD 36 undef = .int .i64 j := by rw [e11, put_ne _ _ _ _ (by decide)]; exact h36
  replace h40 : a11.tmps.getD 40 undef = .int .i64 ci := by rw [e11, put_ne _ _ _ _ (by decide)]; exact h40
  clear h41
  clear h42
  clear h44
  have h45 : a11.tmps.getD 45 undef = cv := by rw [e11]; exact put_same _ _ _ (by omega)
  clear e11 z10
  refine wpAnyH_take (i := 11) (oi := { dst := some 46, op := Op.convert 37 9 (Operand.tmp 45), type := 9, pos := "script.go:30", after := #[{ on := 10, ground := Ground.data }], guard := none }) (v := .string ts) rfl (by kernel_rfl) (by kernel_rfl) (by kernel_rfl) (fun _ _ _ h => h) (Or.inl ⟨by rfl, fun w1 hw => exec_convert rfl (h45) (H11 _ hw)⟩) hHeld ?_
  change wpAnyH _ _ _ _ _ _ _ (a11.put (some 46) (.string ts)) _
  obtain ⟨a12, e12⟩ : ∃ act, act = a11.put (some 46) (.string ts) := ⟨_, rfl⟩
  rw [← e12] at h ⊢
  have z12 : a12.tmps.size = 62 := by rw [e12, put_size]; exact z11
  replace h35 : a12.tmps.getD 35 undef = lv := by rw [e12, put_ne _ _ _ _ (by decide)]; exact h35
  replace h36 : a12.tmps.getD 36 undef = .int .i64 j := by rw [e12, put_ne _ _ _ _ (by decide)]; exact h36
  replace h40 : a12.tmps.getD 40 undef = .int .i64 ci := by rw [e12, put_ne _ _ _ _ (by decide)]; exact h40
  clear h45
  have h46 : a12.tmps.getD 46 undef = .string ts := by rw [e12]; exact put_same _ _ _ (by omega)
  clear e12 z11
  refine wpAnyH_take (i := 12) (oi := { dst := some 47, op := Op.build 34 #[(0, Operand.const (Value.int IntKind.u8 4)), (3, Operand.tmp 36), (4, Operand.tmp 40), (5, Operand.tmp 46)], type := 34, pos := "script.go:30", after := #[{ on := 1, ground := Ground.data }, { on := 5, ground := Ground.data }, { on := 11, ground := Ground.data }], guard := none }) (v := pv) rfl (by kernel_rfl) (by kernel_rfl) (by kernel_rfl) (fun _ _ _ h => h) (Or.inl ⟨by rfl, fun w1 hw => exec_build rfl (by rw [List.map_toArray]; show [(0, .int .u8 4), (3, a12.tmps.getD 36 undef), (4, a12.tmps.getD 40 undef), (5, a12.tmps.getD 46 undef)].toArray = _; rw [h36, h40, h46]) (H12 _)⟩) hHeld ?_
  change wpAnyH _ _ _ _ _ _ _ (a12.put (some 47) (pv)) _
  obtain ⟨a13, e13⟩ : ∃ act, act = a12.put (some 47) (pv) := ⟨_, rfl⟩
  rw [← e13] at h ⊢
  have z13 : a13.tmps.size = 62 := by rw [e13, put_size]; exact z12
  replace h35 : a13.tmps.getD 35 undef = lv := by rw [e13, put_ne _ _ _ _ (by decide)]; exact h35
  clear h36
  clear h40
  clear h46
  have h47 : a13.tmps.getD 47 undef = pv := by rw [e13]; exact put_same _ _ _ (by omega)
  clear e13 z12
  refine wpAnyH_ready (rs := [13]) (by kernel_rfl) (by simp) ?_
  refine AllReadyH.cons (o := { dst := some 48, op := Op.buildSlice 23 1 #[(0, Operand.tmp 47)], type := 23, pos := "script.go:30", after := #[{ on := 12, ground := Ground.data }], guard := none }) rfl (fun K hK => ?_) AllReadyH.nil
  have X := exec_buildSlice (P := Tryd.prog) (a := a13) (o := { dst := some 48, op := Op.buildSlice 23 1 #[(0, Operand.tmp 47)], type := 23, pos := "script.go:30", after := #[{ on := 12, ground := Ground.data }], guard := none }) rfl (h47) H13
  rw [if_pos (show Region.wanted { dst := some 48, op := Op.buildSlice 23 1 #[(0, Operand.tmp 47)], type := 23, pos := "script.go:30", after := #[{ on := 12, ground := Ground.data }], guard := none } (yielded betw7_ops a13.tmps) = true from rfl), Oper.wp, X]
  show K _ _
  clear X
  refine hK.out _ _ S1 (fun hHeld => ?_)
  clear hK K
  change wpAnyH _ _ _ _ _ _ _ (a13.put (some 48) (sv)) _
  obtain ⟨a14, e14⟩ : ∃ act, act = a13.put (some 48) (sv) := ⟨_, rfl⟩
  rw [← e14] at h ⊢
  have z14 : a14.tmps.size = 62 := by rw [e14, put_size]; exact z13
  replace h35 : a14.tmps.getD 35 undef = lv := by rw [e14, put_ne _ _ _ _ (by decide)]; exact h35
  clear h47
  have h48 : a14.tmps.getD 48 undef = sv := by rw [e14]; exact put_same _ _ _ (by omega)
  clear e14 z13
  refine wpAnyH_ready (rs := [14]) (by kernel_rfl) (by simp) ?_
  refine AllReadyH.cons (o := { dst := some 49, op := Op.call { callee := Callee.builtin Builtin.append, args := #[Operand.tmp 35, Operand.tmp 48], argTypes := #[23, 23] }, type := 23, pos := "script.go:30", after := #[{ on := 0, ground := Ground.data }, { on := 13, ground := Ground.data }], guard := none }) rfl (fun K hK => ?_) AllReadyH.nil
  have X := exec_append (P := Tryd.prog) (a := a14) (o := { dst := some 49, op := Op.call { callee := Callee.builtin Builtin.append, args := #[Operand.tmp 35, Operand.tmp 48], argTypes := #[23, 23] }, type := 23, pos := "script.go:30", after := #[{ on := 0, ground := Ground.data }, { on := 13, ground := Ground.data }], guard := none }) rfl (h35) (h48) H14
  rw [if_pos (show Region.wanted { dst := some 49, op := Op.call { callee := Callee.builtin Builtin.append, args := #[Operand.tmp 35, Operand.tmp 48], argTypes := #[23, 23] }, type := 23, pos := "script.go:30", after := #[{ on := 0, ground := Ground.data }, { on := 13, ground := Ground.data }], guard := none } (yielded betw7_ops a14.tmps) = true from rfl), Oper.wp, X]
  show K _ _
  clear X
  refine hK.out _ _ S2 (fun hHeld => ?_)
  clear hK K
  change wpAnyH _ _ _ _ _ _ _ (a14.put (some 49) (lv2)) _
  obtain ⟨a15, e15⟩ : ∃ act, act = a14.put (some 49) (lv2) := ⟨_, rfl⟩
  rw [← e15] at h ⊢
  have z15 : a15.tmps.size = 62 := by rw [e15, put_size]; exact z14
  clear h35
  clear h48
  have h49 : a15.tmps.getD 49 undef = lv2 := by rw [e15]; exact put_same _ _ _ (by omega)
  clear e15 z14
  refine wpAnyH_take (i := 15) (oi := { dst := some 7, op := Op.assign (Operand.tmp 49), type := 23, pos := "script.go:30", after := #[{ on := 14, ground := Ground.data }, { on := 14, ground := Ground.chain }, { on := 0, ground := Ground.phase }, { on := 1, ground := Ground.phase }, { on := 2, ground := Ground.phase }, { on := 3, ground := Ground.phase }, { on := 4, ground := Ground.phase }, { on := 5, ground := Ground.phase }, { on := 6, ground := Ground.phase }, { on := 7, ground := Ground.phase }, { on := 8, ground := Ground.phase }, { on := 9, ground := Ground.phase }, { on := 10, ground := Ground.phase }, { on := 11, ground := Ground.phase }, { on := 12, ground := Ground.phase }, { on := 13, ground := Ground.phase }, { on := 14, ground := Ground.phase }], guard := none }) (v := lv2) rfl (by kernel_rfl) (by kernel_rfl) (by kernel_rfl) (fun _ _ _ h => h) (Or.inl ⟨by rfl, fun w1 hw => exec_assign rfl (h49)⟩) hHeld ?_
  change wpAnyH _ _ _ _ _ _ _ (a15.put (some 7) (lv2)) _
  obtain ⟨a16, e16⟩ : ∃ act, act = a15.put (some 7) (lv2) := ⟨_, rfl⟩
  rw [← e16] at h ⊢
  have z16 : a16.tmps.size = 62 := by rw [e16, put_size]; exact z15
  clear h49
  clear e16 z15
  exact wpAnyH_done (by kernel_rfl) (NoPanic.normal (h _ rfl)) _
end Go.Proofs.YtefoipjbbfcjhaaDoor
