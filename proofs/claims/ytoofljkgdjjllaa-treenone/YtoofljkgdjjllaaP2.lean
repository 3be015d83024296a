import Derived.Test.YtoofljkgdjjllaaP1
namespace Go.Proofs.Ytoofljkgdjjllaa
open Go.RowKit
set_option linter.unusedVariables false
set_option linter.unusedSimpArgs false

def rkids7p_ops : Array Oper := #[{ dst := some 33, op := Op.move (Operand.tmp 0), type := 27, pos := "ref.go:187", after := #[], guard := none }, { dst := some 34, op := Op.nilCheck (Operand.tmp 33), type := 0, pos := "ref.go:187", after := #[{ on := 0, ground := Ground.data }], guard := none }, { dst := some 35, op := Op.fieldAddr 86 (Operand.tmp 34) 0, type := 0, pos := "ref.go:187", after := #[{ on := 1, ground := Ground.data }], guard := none }, { dst := some 36, op := Op.load 83 (Operand.tmp 35), type := 83, pos := "ref.go:187", after := #[{ on := 2, ground := Ground.data }], guard := none }, { dst := some 37, op := Op.move (Operand.tmp 6), type := 3, pos := "ref.go:187", after := #[], guard := none }, { dst := some 38, op := Op.indexAddr 83 (Operand.tmp 36) (Operand.tmp 37), type := 0, pos := "ref.go:187", after := #[{ on := 3, ground := Ground.data }, { on := 4, ground := Ground.data }], guard := none }, { dst := some 39, op := Op.fieldAddr 114 (Operand.tmp 38) 3, type := 0, pos := "ref.go:187", after := #[{ on := 5, ground := Ground.data }], guard := none }, { dst := some 40, op := Op.load 4 (Operand.tmp 39), type := 4, pos := "ref.go:187", after := #[{ on := 6, ground := Ground.data }], guard := none }, { dst := some 41, op := Op.move (Operand.tmp 40), type := 4, pos := "ref.go:187", after := #[{ on := 7, ground := Ground.data }], guard := none }, { dst := some 42, op := Op.move (Operand.tmp 0), type := 27, pos := "ref.go:187", after := #[{ on := 8, ground := Ground.guard }], guard := some (8, false) }, { dst := some 43, op := Op.nilCheck (Operand.tmp 42), type := 0, pos := "ref.go:187", after := #[{ on := 9, ground := Ground.data }, { on := 8, ground := Ground.guard }], guard := some (8, false) }, { dst := some 44, op := Op.fieldAddr 86 (Operand.tmp 43) 0, type := 0, pos := "ref.go:187", after := #[{ on := 10, ground := Ground.data }, { on := 8, ground := Ground.guard }], guard := some (8, false) }, { dst := some 45, op := Op.load 83 (Operand.tmp 44), type := 83, pos := "ref.go:187", after := #[{ on := 11, ground := Ground.data }, { on := 8, ground := Ground.guard }], guard := some (8, false) }, { dst := some 46, op := Op.move (Operand.tmp 6), type := 3, pos := "ref.go:187", after := #[{ on := 8, ground := Ground.guard }], guard := some (8, false) }, { dst := some 47, op := Op.indexAddr 83 (Operand.tmp 45) (Operand.tmp 46), type := 0, pos := "ref.go:187", after := #[{ on := 12, ground := Ground.data }, { on := 13, ground := Ground.data }, { on := 8, ground := Ground.guard }], guard := some (8, false) }, { dst := some 48, op := Op.fieldAddr 114 (Operand.tmp 47) 1, type := 0, pos := "ref.go:187", after := #[{ on := 14, ground := Ground.data }, { on := 8, ground := Ground.guard }], guard := some (8, false) }, { dst := some 49, op := Op.load 37 (Operand.tmp 48), type := 37, pos := "ref.go:187", after := #[{ on := 15, ground := Ground.data }, { on := 8, ground := Ground.guard }], guard := some (8, false) }, { dst := some 50, op := Op.load 37 (Operand.tmp 3), type := 37, pos := "ref.go:187", after := #[{ on := 8, ground := Ground.guard }], guard := some (8, false) }, { dst := some 51, op := Op.binOp BinOp.neq 37 (Operand.tmp 49) (Operand.tmp 50) 37, type := 4, pos := "ref.go:187", after := #[{ on := 16, ground := Ground.data }, { on := 17, ground := Ground.data }, { on := 8, ground := Ground.guard }], guard := some (8, false) }, { dst := some 52, op := Op.pick (Operand.tmp 41) (Operand.const (Value.bool true)) (Operand.tmp 51), type := 4, pos := "ref.go:187", after := #[{ on := 8, ground := Ground.data }, { on := 18, ground := Ground.data }], guard := none }]
set_option maxRecDepth 100000 in
set_option maxHeartbeats 4000000 in
theorem rkids7p (d bi nb no n c i : Nat) (S : World → Prop) (a : Act) (w : World) (Q : Exit → Act → World → Prop) (hsz : a.tmps.size = 114)
    (t0 : a.tmps.getD 0 undef = .pointer (some ⟨d, 0, none⟩))
    (t3 : a.tmps.getD 3 undef = .pointer (some ⟨bi, 0, none⟩))
    (t6 : a.tmps.getD 6 undef = .int .i64 (i : Int))
    (h0 : S w.drew)
    (G1 : ∀ W, S W → (Instr.loadAt 83 (.pointer (some ⟨d, 0 + 0, none⟩))).run Try.prog W = .ok (.slice (some ⟨nb, no, none⟩) n c) W)
    (G2 : ∀ W, (Instr.indexAt 83 (.slice (some ⟨nb, no, none⟩) n c) (.int .i64 (i : Int))).run Try.prog W = .ok (.pointer (some ⟨nb, no + i * 68, none⟩)) W)
    (G3 : ∀ W, S W → (Instr.loadAt 4 (.pointer (some ⟨nb, no + i * 68 + 67, none⟩))).run Try.prog W = .ok (.bool true) W)
    (h : ∀ (a' : Act) (w' : World), S w' → a' = ((((((((((((((((((((a).put (some 33) (.pointer (some ⟨d, 0, none⟩))).put (some 34) (.pointer (some ⟨d, 0, none⟩))).put (some 35) (.pointer (some ⟨d, 0 + 0, none⟩))).put (some 36) (.slice (some ⟨nb, no, none⟩) n c)).put (some 37) (.int .i64 (i : Int))).put (some 38) (.pointer (some ⟨nb, no + i * 68, none⟩))).put (some 39) (.pointer (some ⟨nb, no + i * 68 + 67, none⟩))).put (some 40) (.bool true)).put (some 41) (.bool true)).put (some 42) (undef)).put (some 43) (undef)).put (some 44) (undef)).put (some 45) (undef)).put (some 46) (undef)).put (some 47) (undef)).put (some 48) (undef)).put (some 49) (undef)).put (some 50) (undef)).put (some 51) (undef)).put (some 52) (.bool true) → Q .normal a' w') :
    (Code.region 7 rkids7p_ops true).wp Try.prog Q a w := by
  refine wp_region_noPanic ?_
  refine wp_region_held_drew (S := fun w' => S w') (by kernel_rfl) (h0) (fun hHeld => ?_)
  refine wpAnyH_take (i := 0) (oi := { dst := some 33, op := Op.move (Operand.tmp 0), type := 27, pos := "ref.go:187", after := #[], guard := none }) (v := .pointer (some ⟨d, 0, none⟩)) rfl (by kernel_rfl) (by kernel_rfl) (by kernel_rfl) (fun _ _ _ h => h) (Or.inl ⟨by rfl, fun w1 hw => exec_move rfl t0⟩) hHeld ?_
  change wpAnyH _ _ _ _ _ _ _ (a.put (some 33) (.pointer (some ⟨d, 0, none⟩))) _
  obtain ⟨a1, e1⟩ : ∃ act, act = a.put (some 33) (.pointer (some ⟨d, 0, none⟩)) := ⟨_, rfl⟩
  rw [← e1] at h ⊢
  have z1 : a1.tmps.size = 114 := by rw [e1, put_size]; exact hsz
  replace t0 : a1.tmps.getD 0 undef = .pointer (some ⟨d, 0, none⟩) := by rw [e1, put_ne _ _ _ _ (by decide)]; exact t0
  replace t3 : a1.tmps.getD 3 undef = .pointer (some ⟨bi, 0, none⟩) := by rw [e1, put_ne _ _ _ _ (by decide)]; exact t3
  replace t6 : a1.tmps.getD 6 undef = .int .i64 (i : Int) := by rw [e1, put_ne _ _ _ _ (by decide)]; exact t6
  have t33 : a1.tmps.getD 33 undef = .pointer (some ⟨d, 0, none⟩) := by rw [e1]; exact put_same _ _ _ (by omega)
  clear e1 hsz
  refine wpAnyH_take (i := 1) (oi := { dst := some 34, op := Op.nilCheck (Operand.tmp 33), type := 0, pos := "ref.go:187", after := #[{ on := 0, ground := Ground.data }], guard := none }) (v := .pointer (some ⟨d, 0, none⟩)) rfl (by kernel_rfl) (by kernel_rfl) (by kernel_rfl) (fun _ _ _ h => h) (Or.inl ⟨by rfl, fun w1 hw => exec_nilCheck rfl t33⟩) hHeld ?_
  change wpAnyH _ _ _ _ _ _ _ (a1.put (some 34) (.pointer (some ⟨d, 0, none⟩))) _
  obtain ⟨a2, e2⟩ : ∃ act, act = a1.put (some 34) (.pointer (some ⟨d, 0, none⟩)) := ⟨_, rfl⟩
  rw [← e2] at h ⊢
  have z2 : a2.tmps.size = 114 := by rw [e2, put_size]; exact z1
  replace t0 : a2.tmps.getD 0 undef = .pointer (some ⟨d, 0, none⟩) := by rw [e2, put_ne _ _ _ _ (by decide)]; exact t0
  replace t3 : a2.tmps.getD 3 undef = .pointer (some ⟨bi, 0, none⟩) := by rw [e2, put_ne _ _ _ _ (by decide)]; exact t3
  replace t6 : a2.tmps.getD 6 undef = .int .i64 (i : Int) := by rw [e2, put_ne _ _ _ _ (by decide)]; exact t6
  clear t33
  have t34 : a2.tmps.getD 34 undef = .pointer (some ⟨d, 0, none⟩) := by rw [e2]; exact put_same _ _ _ (by omega)
  clear e2 z1
  refine wpAnyH_take (i := 2) (oi := { dst := some 35, op := Op.fieldAddr 86 (Operand.tmp 34) 0, type := 0, pos := "ref.go:187", after := #[{ on := 1, ground := Ground.data }], guard := none }) (v := .pointer (some ⟨d, 0 + 0, none⟩)) rfl (by kernel_rfl) (by kernel_rfl) (by kernel_rfl) (fun _ _ _ h => h) (Or.inl ⟨by rfl, fun w1 hw => exec_fieldAt rfl t34 (fg_86_0 _ _ _)⟩) hHeld ?_
  change wpAnyH _ _ _ _ _ _ _ (a2.put (some 35) (.pointer (some ⟨d, 0 + 0, none⟩))) _
  obtain ⟨a3, e3⟩ : ∃ act, act = a2.put (some 35) (.pointer (some ⟨d, 0 + 0, none⟩)) := ⟨_, rfl⟩
  rw [← e3] at h ⊢
  have z3 : a3.tmps.size = 114 := by rw [e3, put_size]; exact z2
  replace t0 : a3.tmps.getD 0 undef = .pointer (some ⟨d, 0, none⟩) := by rw [e3, put_ne _ _ _ _ (by decide)]; exact t0
  replace t3 : a3.tmps.getD 3 undef = .pointer (some ⟨bi, 0, none⟩) := by rw [e3, put_ne _ _ _ _ (by decide)]; exact t3
  replace t6 : a3.tmps.getD 6 undef = .int .i64 (i : Int) := by rw [e3, put_ne _ _ _ _ (by decide)]; exact t6
  clear t34
  have t35 : a3.tmps.getD 35 undef = .pointer (some ⟨d, 0 + 0, none⟩) := by rw [e3]; exact put_same _ _ _ (by omega)
  clear e3 z2
  refine wpAnyH_take (i := 3) (oi := { dst := some 36, op := Op.load 83 (Operand.tmp 35), type := 83, pos := "ref.go:187", after := #[{ on := 2, ground := Ground.data }], guard := none }) (v := .slice (some ⟨nb, no, none⟩) n c) rfl (by kernel_rfl) (by kernel_rfl) (by kernel_rfl) (fun _ _ _ h => h) (Or.inl ⟨by rfl, fun w1 hw => exec_load rfl t35 (G1 _ hw)⟩) hHeld ?_
  change wpAnyH _ _ _ _ _ _ _ (a3.put (some 36) (.slice (some ⟨nb, no, none⟩) n c)) _
  obtain ⟨a4, e4⟩ : ∃ act, act = a3.put (some 36) (.slice (some ⟨nb, no, none⟩) n c) := ⟨_, rfl⟩
  rw [← e4] at h ⊢
  have z4 : a4.tmps.size = 114 := by rw [e4, put_size]; exact z3
  replace t0 : a4.tmps.getD 0 undef = .pointer (some ⟨d, 0, none⟩) := by rw [e4, put_ne _ _ _ _ (by decide)]; exact t0
  replace t3 : a4.tmps.getD 3 undef = .pointer (some ⟨bi, 0, none⟩) := by rw [e4, put_ne _ _ _ _ (by decide)]; exact t3
  replace t6 : a4.tmps.getD 6 undef = .int .i64 (i : Int) := by rw [e4, put_ne _ _ _ _ (by decide)]; exact t6
  clear t35
  have t36 : a4.tmps.getD 36 undef = .slice (some ⟨nb, no, none⟩) n c := by rw [e4]; exact put_same _ _ _ (by omega)
  clear e4 z3
  refine wpAnyH_take (i := 4) (oi := { dst := some 37, op := Op.move (Operand.tmp 6), type := 3, pos := "ref.go:187", after := #[], guard := none }) (v := .int .i64 (i : Int)) rfl (by kernel_rfl) (by kernel_rfl) (by kernel_rfl) (fun _ _ _ h => h) (Or.inl ⟨by rfl, fun w1 hw => exec_move rfl t6⟩) hHeld ?_
  change wpAnyH _ _ _ _ _ _ _ (a4.put (some 37) (.int .i64 (i : Int))) _
  obtain ⟨a5, e5⟩ : ∃ act, act = a4.put (some 37) (.int .i64 (i : Int)) := ⟨_, rfl⟩
  rw [← e5] at h ⊢
  have z5 : a5.tmps.size = 114 := by rw [e5, put_size]; exact z4
  replace t0 : a5.tmps.getD 0 undef = .pointer (some ⟨d, 0, none⟩) := by rw [e5, put_ne _ _ _ _ (by decide)]; exact t0
  replace t3 : a5.tmps.getD 3 undef = .pointer (some ⟨bi, 0, none⟩) := by rw [e5, put_ne _ _ _ _ (by decide)]; exact t3
  replace t6 : a5.tmps.getD 6 undef = .int .i64 (i : Int) := by rw [e5, put_ne _ _ _ _ (by decide)]; exact t6
  replace t36 : a5.tmps.getD 36 undef = .slice (some ⟨nb, no, none⟩) n c := by rw [e5, put_ne _ _ _ _ (by decide)]; exact t36
  have t37 : a5.tmps.getD 37 undef = .int .i64 (i : Int) := by rw [e5]; exact put_same _ _ _ (by omega)
  clear e5 z4
  refine wpAnyH_take (i := 5) (oi := { dst := some 38, op := Op.indexAddr 83 (Operand.tmp 36) (Operand.tmp 37), type := 0, pos := "ref.go:187", after := #[{ on := 3, ground := Ground.data }, { on := 4, ground := Ground.data }], guard := none }) (v := .pointer (some ⟨nb, no + i * 68, none⟩)) rfl (by kernel_rfl) (by kernel_rfl) (by kernel_rfl) (fun _ _ _ h => h) (Or.inl ⟨by rfl, fun w1 hw => exec_indexAt rfl t36 t37 (G2 _)⟩) hHeld ?_
  change wpAnyH _ _ _ _ _ _ _ (a5.put (some 38) (.pointer (some ⟨nb, no + i * 68, none⟩))) _
  obtain ⟨a6, e6⟩ : ∃ act, act = a5.put (some 38) (.pointer (some ⟨nb, no + i * 68, none⟩)) := ⟨_, rfl⟩
  rw [← e6] at h ⊢
  have z6 : a6.tmps.size = 114 := by rw [e6, put_size]; exact z5
  replace t0 : a6.tmps.getD 0 undef = .pointer (some ⟨d, 0, none⟩) := by rw [e6, put_ne _ _ _ _ (by decide)]; exact t0
  replace t3 : a6.tmps.getD 3 undef = .pointer (some ⟨bi, 0, none⟩) := by rw [e6, put_ne _ _ _ _ (by decide)]; exact t3
  replace t6 : a6.tmps.getD 6 undef = .int .i64 (i : Int) := by rw [e6, put_ne _ _ _ _ (by decide)]; exact t6
  clear t36
  clear t37
  have t38 : a6.tmps.getD 38 undef = .pointer (some ⟨nb, no + i * 68, none⟩) := by rw [e6]; exact put_same _ _ _ (by omega)
  clear e6 z5
  refine wpAnyH_take (i := 6) (oi := { dst := some 39, op := Op.fieldAddr 114 (Operand.tmp 38) 3, type := 0, pos := "ref.go:187", after := #[{ on := 5, ground := Ground.data }], guard := none }) (v := .pointer (some ⟨nb, no + i * 68 + 67, none⟩)) rfl (by kernel_rfl) (by kernel_rfl) (by kernel_rfl) (fun _ _ _ h => h) (Or.inl ⟨by rfl, fun w1 hw => exec_fieldAt rfl t38 (fg_114_3 _ _ _)⟩) hHeld ?_
  change wpAnyH _ _ _ _ _ _ _ (a6.put (some 39) (.pointer (some ⟨nb, no + i * 68 + 67, none⟩))) _
  obtain ⟨a7, e7⟩ : ∃ act, act = a6.put (some 39) (.pointer (some ⟨nb, no + i * 68 + 67, none⟩)) := ⟨_, rfl⟩
  rw [← e7] at h ⊢
  have z7 : a7.tmps.size = 114 := by rw [e7, put_size]; exact z6
  replace t0 : a7.tmps.getD 0 undef = .pointer (some ⟨d, 0, none⟩) := by rw [e7, put_ne _ _ _ _ (by decide)]; exact t0
  replace t3 : a7.tmps.getD 3 undef = .pointer (some ⟨bi, 0, none⟩) := by rw [e7, put_ne _ _ _ _ (by decide)]; exact t3
  replace t6 : a7.tmps.getD 6 undef = .int .i64 (i : Int) := by rw [e7, put_ne _ _ _ _ (by decide)]; exact t6
  clear t38
  have t39 : a7.tmps.getD 39 undef = .pointer (some ⟨nb, no + i * 68 + 67, none⟩) := by rw [e7]; exact put_same _ _ _ (by omega)
  clear e7 z6
  refine wpAnyH_take (i := 7) (oi := { dst := some 40, op := Op.load 4 (Operand.tmp 39), type := 4, pos := "ref.go:187", after := #[{ on := 6, ground := Ground.data }], guard := none }) (v := .bool true) rfl (by kernel_rfl) (by kernel_rfl) (by kernel_rfl) (fun _ _ _ h => h) (Or.inl ⟨by rfl, fun w1 hw => exec_load rfl t39 (G3 _ hw)⟩) hHeld ?_
  change wpAnyH _ _ _ _ _ _ _ (a7.put (some 40) (.bool true)) _
  obtain ⟨a8, e8⟩ : ∃ act, act = a7.put (some 40) (.bool true) := ⟨_, rfl⟩
  rw [← e8] at h ⊢
  have z8 : a8.tmps.size = 114 := by rw [e8, put_size]; exact z7
  replace t0 : a8.tmps.getD 0 undef = .pointer (some ⟨d, 0, none⟩) := by rw [e8, put_ne _ _ _ _ (by decide)]; exact t0
  replace t3 : a8.tmps.getD 3 undef = .pointer (some ⟨bi, 0, none⟩) := by rw [e8, put_ne _ _ _ _ (by decide)]; exact t3
  replace t6 : a8.tmps.getD 6 undef = .int .i64 (i : Int) := by rw [e8, put_ne _ _ _ _ (by decide)]; exact t6
  clear t39
  have t40 : a8.tmps.getD 40 undef = .bool true := by rw [e8]; exact put_same _ _ _ (by omega)
  clear e8 z7
  refine wpAnyH_take (i := 8) (oi := { dst := some 41, op := Op.move (Operand.tmp 40), type := 4, pos := "ref.go:187", after := #[{ on := 7, ground := Ground.data }], guard := none }) (v := .bool true) rfl (by kernel_rfl) (by kernel_rfl) (by kernel_rfl) (fun _ _ _ h => h) (Or.inl ⟨by rfl, fun w1 hw => exec_move rfl t40⟩) hHeld ?_
  change wpAnyH _ _ _ _ _ _ _ (a8.put (some 41) (.bool true)) _
  obtain ⟨a9, e9⟩ : ∃ act, act = a8.put (some 41) (.bool true) := ⟨_, rfl⟩
  rw [← e9] at h ⊢
  have z9 : a9.tmps.size = 114 := by rw [e9, put_size]; exact z8
  replace t0 : a9.tmps.getD 0 undef = .pointer (some ⟨d, 0, none⟩) := by rw [e9, put_ne _ _ _ _ (by decide)]; exact t0
  replace t3 : a9.tmps.getD 3 undef = .pointer (some ⟨bi, 0, none⟩) := by rw [e9, put_ne _ _ _ _ (by decide)]; exact t3
  replace t6 : a9.tmps.getD 6 undef = .int .i64 (i : Int) := by rw [e9, put_ne _ _ _ _ (by decide)]; exact t6
  clear t40
  have t41 : a9.tmps.getD 41 undef = .bool true := by rw [e9]; exact put_same _ _ _ (by omega)
  clear e9 z8
  refine wpAnyH_take (i := 9) (oi := { dst := some 42, op := Op.move (Operand.tmp 0), type := 27, pos := "ref.go:187", after := #[{ on := 8, ground := Ground.guard }], guard := some (8, false) }) (v := undef) rfl (by kernel_rfl) (by kernel_rfl) (by kernel_rfl) (fun _ _ _ h => h) (Or.inr ⟨by simp [Region.wanted, yielded, rkids7p_ops, tget z9 (by decide) t41], rfl⟩) hHeld ?_
  change wpAnyH _ _ _ _ _ _ _ (a9.put (some 42) (undef)) _
  obtain ⟨a10, e10⟩ : ∃ act, act = a9.put (some 42) (undef) := ⟨_, rfl⟩
  rw [← e10] at h ⊢
  have z10 : a10.tmps.size = 114 := by rw [e10, put_size]; exact z9
  clear t0
  replace t3 : a10.tmps.getD 3 undef = .pointer (some ⟨bi, 0, none⟩) := by rw [e10, put_ne _ _ _ _ (by decide)]; exact t3
  replace t6 : a10.tmps.getD 6 undef = .int .i64 (i : Int) := by rw [e10, put_ne _ _ _ _ (by decide)]; exact t6
  replace t41 : a10.tmps.getD 41 undef = .bool true := by rw [e10, put_ne _ _ _ _ (by decide)]; exact t41
  have t42 : a10.tmps.getD 42 undef = undef := by rw [e10]; exact put_same _ _ _ (by omega)
  clear e10 z9
  refine wpAnyH_take (i := 10) (oi := { dst := some 43, op := Op.nilCheck (Operand.tmp 42), type := 0, pos := "ref.go:187", after := #[{ on := 9, ground := Ground.data }, { on := 8, ground := Ground.guard }], guard := some (8, false) }) (v := undef) rfl (by kernel_rfl) (by kernel_rfl) (by kernel_rfl) (fun _ _ _ h => h) (Or.inr ⟨by simp [Region.wanted, yielded, rkids7p_ops, tget z10 (by decide) t41], rfl⟩) hHeld ?_
  change wpAnyH _ _ _ _ _ _ _ (a10.put (some 43) (undef)) _
  obtain ⟨a11, e11⟩ : ∃ act, act = a10.put (some 43) (undef) := ⟨_, rfl⟩
  rw [← e11] at h ⊢
  have z11 : a11.tmps.size = 114 := by rw [e11, put_size]; exact z10
  replace t3 : a11.tmps.getD 3 undef = .pointer (some ⟨bi, 0, none⟩) := by rw [e11, put_ne _ _ _ _ (by decide)]; exact t3
  replace t6 : a11.tmps.getD 6 undef = .int .i64 (i : Int) := by rw [e11, put_ne _ _ _ _ (by decide)]; exact t6
  replace t41 : a11.tmps.getD 41 undef = .bool true := by rw [e11, put_ne _ _ _ _ (by decide)]; exact t41
  clear t42
  have t43 : a11.tmps.getD 43 undef = undef := by rw [e11]; exact put_same _ _ _ (by omega)
  clear e11 z10
  refine wpAnyH_take (i := 11) (oi := { dst := some 44, op := Op.fieldAddr 86 (Operand.tmp 43) 0, type := 0, pos := "ref.go:187", after := #[{ on := 10, ground := Ground.data }, { on := 8, ground := Ground.guard }], guard := some (8, false) }) (v := undef) rfl (by kernel_rfl) (by kernel_rfl) (by kernel_rfl) (fun _ _ _ h => h) (Or.inr ⟨by simp [Region.wanted, yielded, rkids7p_ops, tget z11 (by decide) t41], rfl⟩) hHeld ?_
  change wpAnyH _ _ _ _ _ _ _ (a11.put (some 44) (undef)) _
  obtain ⟨a12, e12⟩ : ∃ act, act = a11.put (some 44) (undef) := ⟨_, rfl⟩
  rw [← e12] at h ⊢
  have z12 : a12.tmps.size = 114 := by rw [e12, put_size]; exact z11
  replace t3 : a12.tmps.getD 3 undef = .pointer (some ⟨bi, 0, none⟩) := by rw [e12, put_ne _ _ _ _ (by decide)]; exact t3
  replace t6 : a12.tmps.getD 6 undef = .int .i64 (i : Int) := by rw [e12, put_ne _ _ _ _ (by decide)]; exact t6
  replace t41 : a12.tmps.getD 41 undef = .bool true := by rw [e12, put_ne _ _ _ _ (by decide)]; exact t41
  clear t43
  have t44 : a12.tmps.getD 44 undef = undef := by rw [e12]; exact put_same _ _ _ (by omega)
  clear e12 z11
  refine wpAnyH_take (i := 12) (oi := { dst := some 45, op := Op.load 83 (Operand.tmp 44), type := 83, pos := "ref.go:187", after := #[{ on := 11, ground := Ground.data }, { on := 8, ground := Ground.guard }], guard := some (8, false) }) (v := undef) rfl (by kernel_rfl) (by kernel_rfl) (by kernel_rfl) (fun _ _ _ h => h) (Or.inr ⟨by simp [Region.wanted, yielded, rkids7p_ops, tget z12 (by decide) t41], rfl⟩) hHeld ?_
  change wpAnyH _ _ _ _ _ _ _ (a12.put (some 45) (undef)) _
  obtain ⟨a13, e13⟩ : ∃ act, act = a12.put (some 45) (undef) := ⟨_, rfl⟩
  rw [← e13] at h ⊢
  have z13 : a13.tmps.size = 114 := by rw [e13, put_size]; exact z12
  replace t3 : a13.tmps.getD 3 undef = .pointer (some ⟨bi, 0, none⟩) := by rw [e13, put_ne _ _ _ _ (by decide)]; exact t3
  replace t6 : a13.tmps.getD 6 undef = .int .i64 (i : Int) := by rw [e13, put_ne _ _ _ _ (by decide)]; exact t6
  replace t41 : a13.tmps.getD 41 undef = .bool true := by rw [e13, put_ne _ _ _ _ (by decide)]; exact t41
  clear t44
  have t45 : a13.tmps.getD 45 undef = undef := by rw [e13]; exact put_same _ _ _ (by omega)
  clear e13 z12
  refine wpAnyH_take (i := 13) (oi := { dst := some 46, op := Op.move (Operand.tmp 6), type := 3, pos := "ref.go:187", after := #[{ on := 8, ground := Ground.guard }], guard := some (8, false) }) (v := undef) rfl (by kernel_rfl) (by kernel_rfl) (by kernel_rfl) (fun _ _ _ h => h) (Or.inr ⟨by simp [Region.wanted, yielded, rkids7p_ops, tget z13 (by decide) t41], rfl⟩) hHeld ?_
  change wpAnyH _ _ _ _ _ _ _ (a13.put (some 46) (undef)) _
  obtain ⟨a14, e14⟩ : ∃ act, act = a13.put (some 46) (undef) := ⟨_, rfl⟩
  rw [← e14] at h ⊢
  have z14 : a14.tmps.size = 114 := by rw [e14, put_size]; exact z13
  replace t3 : a14.tmps.getD 3 undef = .pointer (some ⟨bi, 0, none⟩) := by rw [e14, put_ne _ _ _ _ (by decide)]; exact t3
  clear t6
  replace t41 : a14.tmps.getD 41 undef = .bool true := by rw [e14, put_ne _ _ _ _ (by decide)]; exact t41
  replace t45 : a14.tmps.getD 45 undef = undef := by rw [e14, put_ne _ _ _ _ (by decide)]; exact t45
  have t46 : a14.tmps.getD 46 undef = undef := by rw [e14]; exact put_same _ _ _ (by omega)
  clear e14 z13
  refine wpAnyH_take (i := 14) (oi := { dst := some 47, op := Op.indexAddr 83 (Operand.tmp 45) (Operand.tmp 46), type := 0, pos := "ref.go:187", after := #[{ on := 12, ground := Ground.data }, { on := 13, ground := Ground.data }, { on := 8, ground := Ground.guard }], guard := some (8, false) }) (v := undef) rfl (by kernel_rfl) (by kernel_rfl) (by kernel_rfl) (fun _ _ _ h => h) (Or.inr ⟨by simp [Region.wanted, yielded, rkids7p_ops, tget z14 (by decide) t41], rfl⟩) hHeld ?_
  change wpAnyH _ _ _ _ _ _ _ (a14.put (some 47) (undef)) _
  obtain ⟨a15, e15⟩ : ∃ act, act = a14.put (some 47) (undef) := ⟨_, rfl⟩
  rw [← e15] at h ⊢
  have z15 : a15.tmps.size = 114 := by rw [e15, put_size]; exact z14
  replace t3 : a15.tmps.getD 3 undef = .pointer (some ⟨bi, 0, none⟩) := by rw [e15, put_ne _ _ _ _ (by decide)]; exact t3
  replace t41 : a15.tmps.getD 41 undef = .bool true := by rw [e15, put_ne _ _ _ _ (by decide)]; exact t41
  clear t45
  clear t46
  have t47 : a15.tmps.getD 47 undef = undef := by rw [e15]; exact put_same _ _ _ (by omega)
  clear e15 z14
  refine wpAnyH_take (i := 15) (oi := { dst := some 48, op := Op.fieldAddr 114 (Operand.tmp 47) 1, type := 0, pos := "ref.go:187", after := #[{ on := 14, ground := Ground.data }, { on := 8, ground := Ground.guard }], guard := some (8, false) }) (v := undef) rfl (by kernel_rfl) (by kernel_rfl) (by kernel_rfl) (fun _ _ _ h => h) (Or.inr ⟨by simp [Region.wanted, yielded, rkids7p_ops, tget z15 (by decide) t41], rfl⟩) hHeld ?_
  change wpAnyH _ _ _ _ _ _ _ (a15.put (some 48) (undef)) _
  obtain ⟨a16, e16⟩ : ∃ act, act = a15.put (some 48) (undef) := ⟨_, rfl⟩
  rw [← e16] at h ⊢
  have z16 : a16.tmps.size = 114 := by rw [e16, put_size]; exact z15
  replace t3 : a16.tmps.getD 3 undef = .pointer (some ⟨bi, 0, none⟩) := by rw [e16, put_ne _ _ _ _ (by decide)]; exact t3
  replace t41 : a16.tmps.getD 41 undef = .bool true := by rw [e16, put_ne _ _ _ _ (by decide)]; exact t41
  clear t47
  have t48 : a16.tmps.getD 48 undef = undef := by rw [e16]; exact put_same _ _ _ (by omega)
  clear e16 z15
  refine wpAnyH_take (i := 16) (oi := { dst := some 49, op := Op.load 37 (Operand.tmp 48), type := 37, pos := "ref.go:187", after := #[{ on := 15, ground := Ground.data }, { on := 8, ground := Ground.guard }], guard := some (8, false) }) (v := undef) rfl (by kernel_rfl) (by kernel_rfl) (by kernel_rfl) (fun _ _ _ h => h) (Or.inr ⟨by simp [Region.wanted, yielded, rkids7p_ops, tget z16 (by decide) t41], rfl⟩) hHeld ?_
  change wpAnyH _ _ _ _ _ _ _ (a16.put (some 49) (undef)) _
  obtain ⟨a17, e17⟩ : ∃ act, act = a16.put (some 49) (undef) := ⟨_, rfl⟩
  rw [← e17] at h ⊢
  have z17 : a17.tmps.size = 114 := by rw [e17, put_size]; exact z16
  replace t3 : a17.tmps.getD 3 undef = .pointer (some ⟨bi, 0, none⟩) := by rw [e17, put_ne _ _ _ _ (by decide)]; exact t3
  replace t41 : a17.tmps.getD 41 undef = .bool true := by rw [e17, put_ne _ _ _ _ (by decide)]; exact t41
  clear t48
  have t49 : a17.tmps.getD 49 undef = undef := by rw [e17]; exact put_same _ _ _ (by omega)
  clear e17 z16
  refine wpAnyH_take (i := 17) (oi := { dst := some 50, op := Op.load 37 (Operand.tmp 3), type := 37, pos := "ref.go:187", after := #[{ on := 8, ground := Ground.guard }], guard := some (8, false) }) (v := undef) rfl (by kernel_rfl) (by kernel_rfl) (by kernel_rfl) (fun _ _ _ h => h) (Or.inr ⟨by simp [Region.wanted, yielded, rkids7p_ops, tget z17 (by decide) t41], rfl⟩) hHeld ?_
  change wpAnyH _ _ _ _ _ _ _ (a17.put (some 50) (undef)) _
  obtain ⟨a18, e18⟩ : ∃ act, act = a17.put (some 50) (undef) := ⟨_, rfl⟩
  rw [← e18] at h ⊢
  have z18 : a18.tmps.size = 114 := by rw [e18, put_size]; exact z17
  clear t3
  replace t41 : a18.tmps.getD 41 undef = .bool true := by rw [e18, put_ne _ _ _ _ (by decide)]; exact t41
  replace t49 : a18.tmps.getD 49 undef = undef := by rw [e18, put_ne _ _ _ _ (by decide)]; exact t49
  have t50 : a18.tmps.getD 50 undef = undef := by rw [e18]; exact put_same _ _ _ (by omega)
  clear e18 z17
  refine wpAnyH_take (i := 18) (oi := { dst := some 51, op := Op.binOp BinOp.neq 37 (Operand.tmp 49) (Operand.tmp 50) 37, type := 4, pos := "ref.go:187", after := #[{ on := 16, ground := Ground.data }, { on := 17, ground := Ground.data }, { on := 8, ground := Ground.guard }], guard := some (8, false) }) (v := undef) rfl (by kernel_rfl) (by kernel_rfl) (by kernel_rfl) (fun _ _ _ h => h) (Or.inr ⟨by simp [Region.wanted, yielded, rkids7p_ops, tget z18 (by decide) t41], rfl⟩) hHeld ?_
  change wpAnyH _ _ _ _ _ _ _ (a18.put (some 51) (undef)) _
  obtain ⟨a19, e19⟩ : ∃ act, act = a18.put (some 51) (undef) := ⟨_, rfl⟩
  rw [← e19] at h ⊢
  have z19 : a19.tmps.size = 114 := by rw [e19, put_size]; exact z18
  replace t41 : a19.tmps.getD 41 undef = .bool true := by rw [e19, put_ne _ _ _ _ (by decide)]; exact t41
  clear t49
  clear t50
  have t51 : a19.tmps.getD 51 undef = undef := by rw [e19]; exact put_same _ _ _ (by omega)
  clear e19 z18
  refine wpAnyH_take (i := 19) (oi := { dst := some 52, op := Op.pick (Operand.tmp 41) (Operand.const (Value.bool true)) (Operand.tmp 51), type := 4, pos := "ref.go:187", after := #[{ on := 8, ground := Ground.data }, { on := 18, ground := Ground.data }], guard := none }) (v := .bool true) rfl (by kernel_rfl) (by kernel_rfl) (by kernel_rfl) (fun _ _ _ h => h) (Or.inl ⟨by rfl, fun w1 hw => by go_simp⟩) hHeld ?_
  change wpAnyH _ _ _ _ _ _ _ (a19.put (some 52) (.bool true)) _
  obtain ⟨a20, e20⟩ : ∃ act, act = a19.put (some 52) (.bool true) := ⟨_, rfl⟩
  rw [← e20] at h ⊢
  have z20 : a20.tmps.size = 114 := by rw [e20, put_size]; exact z19
  clear t41
  clear t51
  clear e20 z19
  exact wpAnyH_done (by kernel_rfl) (NoPanic.normal (h _ _ (hHeld) rfl)) _
def rkids7u_ops : Array Oper := #[{ dst := some 33, op := Op.move (Operand.tmp 0), type := 27, pos := "ref.go:187", after := #[], guard := none }, { dst := some 34, op := Op.nilCheck (Operand.tmp 33), type := 0, pos := "ref.go:187", after := #[{ on := 0, ground := Ground.data }], guard := none }, { dst := some 35, op := Op.fieldAddr 86 (Operand.tmp 34) 0, type := 0, pos := "ref.go:187", after := #[{ on := 1, ground := Ground.data }], guard := none }, { dst := some 36, op := Op.load 83 (Operand.tmp 35), type := 83, pos := "ref.go:187", after := #[{ on := 2, ground := Ground.data }], guard := none }, { dst := some 37, op := Op.move (Operand.tmp 6), type := 3, pos := "ref.go:187", after := #[], guard := none }, { dst := some 38, op := Op.indexAddr 83 (Operand.tmp 36) (Operand.tmp 37), type := 0, pos := "ref.go:187", after := #[{ on := 3, ground := Ground.data }, { on := 4, ground := Ground.data }], guard := none }, { dst := some 39, op := Op.fieldAddr 114 (Operand.tmp 38) 3, type := 0, pos := "ref.go:187", after := #[{ on := 5, ground := Ground.data }], guard := none }, { dst := some 40, op := Op.load 4 (Operand.tmp 39), type := 4, pos := "ref.go:187", after := #[{ on := 6, ground := Ground.data }], guard := none }, { dst := some 41, op := Op.move (Operand.tmp 40), type := 4, pos := "ref.go:187", after := #[{ on := 7, ground := Ground.data }], guard := none }, { dst := some 42, op := Op.move (Operand.tmp 0), type := 27, pos := "ref.go:187", after := #[{ on := 8, ground := Ground.guard }], guard := some (8, false) }, { dst := some 43, op := Op.nilCheck (Operand.tmp 42), type := 0, pos := "ref.go:187", after := #[{ on := 9, ground := Ground.data }, { on := 8, ground := Ground.guard }], guard := some (8, false) }, { dst := some 44, op := Op.fieldAddr 86 (Operand.tmp 43) 0, type := 0, pos := "ref.go:187", after := #[{ on := 10, ground := Ground.data }, { on := 8, ground := Ground.guard }], guard := some (8, false) }, { dst := some 45, op := Op.load 83 (Operand.tmp 44), type := 83, pos := "ref.go:187", after := #[{ on := 11, ground := Ground.data }, { on := 8, ground := Ground.guard }], guard := some (8, false) }, { dst := some 46, op := Op.move (Operand.tmp 6), type := 3, pos := "ref.go:187", after := #[{ on := 8, ground := Ground.guard }], guard := some (8, false) }, { dst := some 47, op := Op.indexAddr 83 (Operand.tmp 45) (Operand.tmp 46), type := 0, pos := "ref.go:187", after := #[{ on := 12, ground := Ground.data }, { on := 13, ground := Ground.data }, { on := 8, ground := Ground.guard }], guard := some (8, false) }, { dst := some 48, op := Op.fieldAddr 114 (Operand.tmp 47) 1, type := 0, pos := "ref.go:187", after := #[{ on := 14, ground := Ground.data }, { on := 8, ground := Ground.guard }], guard := some (8, false) }, { dst := some 49, op := Op.load 37 (Operand.tmp 48), type := 37, pos := "ref.go:187", after := #[{ on := 15, ground := Ground.data }, { on := 8, ground := Ground.guard }], guard := some (8, false) }, { dst := some 50, op := Op.load 37 (Operand.tmp 3), type := 37, pos := "ref.go:187", after := #[{ on := 8, ground := Ground.guard }], guard := some (8, false) }, { dst := some 51, op := Op.binOp BinOp.neq 37 (Operand.tmp 49) (Operand.tmp 50) 37, type := 4, pos := "ref.go:187", after := #[{ on := 16, ground := Ground.data }, { on := 17, ground := Ground.data }, { on := 8, ground := Ground.guard }], guard := some (8, false) }, { dst := some 52, op := Op.pick (Operand.tmp 41) (Operand.const (Value.bool true)) (Operand.tmp 51), type := 4, pos := "ref.go:187", after := #[{ on := 8, ground := Ground.data }, { on := 18, ground := Ground.data }], guard := none }]
set_option maxRecDepth 100000 in
set_option maxHeartbeats 4000000 in
theorem rkids7u (d bi nb no n c i : Nat) (S : World → Prop) (uv kv : Value) (q : Bool) (a : Act) (w : World) (Q : Exit → Act → World → Prop) (hsz : a.tmps.size = 114)
    (t0 : a.tmps.getD 0 undef = .pointer (some ⟨d, 0, none⟩))
    (t3 : a.tmps.getD 3 undef = .pointer (some ⟨bi, 0, none⟩))
    (t6 : a.tmps.getD 6 undef = .int .i64 (i : Int))
    (h0 : S w.drew)
    (G1 : ∀ W, S W → (Instr.loadAt 83 (.pointer (some ⟨d, 0 + 0, none⟩))).run Try.prog W = .ok (.slice (some ⟨nb, no, none⟩) n c) W)
    (G2 : ∀ W, (Instr.indexAt 83 (.slice (some ⟨nb, no, none⟩) n c) (.int .i64 (i : Int))).run Try.prog W = .ok (.pointer (some ⟨nb, no + i * 68, none⟩)) W)
    (G3 : ∀ W, S W → (Instr.loadAt 4 (.pointer (some ⟨nb, no + i * 68 + 67, none⟩))).run Try.prog W = .ok (.bool false) W)
    (G4 : ∀ W, S W → (Instr.loadAt 37 (.pointer (some ⟨nb, no + i * 68 + 33, none⟩))).run Try.prog W = .ok (uv) W)
    (G5 : ∀ W, S W → (Instr.loadAt 37 (.pointer (some ⟨bi, 0, none⟩))).run Try.prog W = .ok (kv) W)
    (G6 : ∀ W, (eqGuard BinOp.neq 37 (Operand.tmp 49) (Operand.tmp 50) (uv) (kv)).run Try.prog W = .ok () W)
    (G7 : ∀ W, S W → (binOp BinOp.neq 37 (uv) (kv)).run Try.prog W = .ok (.bool q) W)
    (h : ∀ (a' : Act) (w' : World), S w' → a' = ((((((((((((((((((((a).put (some 33) (.pointer (some ⟨d, 0, none⟩))).put (some 34) (.pointer (some ⟨d, 0, none⟩))).put (some 35) (.pointer (some ⟨d, 0 + 0, none⟩))).put (some 36) (.slice (some ⟨nb, no, none⟩) n c)).put (some 37) (.int .i64 (i : Int))).put (some 38) (.pointer (some ⟨nb, no + i * 68, none⟩))).put (some 39) (.pointer (some ⟨nb, no + i * 68 + 67, none⟩))).put (some 40) (.bool false)).put (some 41) (.bool false)).put (some 42) (.pointer (some ⟨d, 0, none⟩))).put (some 43) (.pointer (some ⟨d, 0, none⟩))).put (some 44) (.pointer (some ⟨d, 0 + 0, none⟩))).put (some 45) (.slice (some ⟨nb, no, none⟩) n c)).put (some 46) (.int .i64 (i : Int))).put (some 47) (.pointer (some ⟨nb, no + i * 68, none⟩))).put (some 48) (.pointer (some ⟨nb, no + i * 68 + 33, none⟩))).put (some 49) (uv)).put (some 50) (kv)).put (some 51) (.bool q)).put (some 52) (.bool q) → Q .normal a' w') :
    (Code.region 7 rkids7u_ops true).wp Try.prog Q a w := by
  refine wp_region_noPanic ?_
  refine wp_region_held_drew (S := fun w' => S w') (by kernel_rfl) (h0) (fun hHeld => ?_)
  refine wpAnyH_take (i := 0) (oi := { dst := some 33, op := Op.move (Operand.tmp 0), type := 27, pos := "ref.go:187", after := #[], guard := none }) (v := .pointer (some ⟨d, 0, none⟩)) rfl (by kernel_rfl) (by kernel_rfl) (by kernel_rfl) (fun _ _ _ h => h) (Or.inl ⟨by rfl, fun w1 hw => exec_move rfl t0⟩) hHeld ?_
  change wpAnyH _ _ _ _ _ _ _ (a.put (some 33) (.pointer (some ⟨d, 0, none⟩))) _
  obtain ⟨a1, e1⟩ : ∃ act, act = a.put (some 33) (.pointer (some ⟨d, 0, none⟩)) := ⟨_, rfl⟩
  rw [← e1] at h ⊢
  have z1 : a1.tmps.size = 114 := by rw [e1, put_size]; exact hsz
  replace t0 : a1.tmps.getD 0 undef = .pointer (some ⟨d, 0, none⟩) := by rw [e1, put_ne _ _ _ _ (by decide)]; exact t0
  replace t3 : a1.tmps.getD 3 undef = .pointer (some ⟨bi, 0, none⟩) := by rw [e1, put_ne _ _ _ _ (by decide)]; exact t3
  replace t6 : a1.tmps.getD 6 undef = .int .i64 (i : Int) := by rw [e1, put_ne _ _ _ _ (by decide)]; exact t6
  have t33 : a1.tmps.getD 33 undef = .pointer (some ⟨d, 0, none⟩) := by rw [e1]; exact put_same _ _ _ (by omega)
  clear e1 hsz
  refine wpAnyH_take (i := 1) (oi := { dst := some 34, op := Op.nilCheck (Operand.tmp 33), type := 0, pos := "ref.go:187", after := #[{ on := 0, ground := Ground.data }], guard := none }) (v := .pointer (some ⟨d, 0, none⟩)) rfl (by kernel_rfl) (by kernel_rfl) (by kernel_rfl) (fun _ _ _ h => h) (Or.inl ⟨by rfl, fun w1 hw => exec_nilCheck rfl t33⟩) hHeld ?_
  change wpAnyH _ _ _ _ _ _ _ (a1.put (some 34) (.pointer (some ⟨d, 0, none⟩))) _
  obtain ⟨a2, e2⟩ : ∃ act, act = a1.put (some 34) (.pointer (some ⟨d, 0, none⟩)) := ⟨_, rfl⟩
  rw [← e2] at h ⊢
  have z2 : a2.tmps.size = 114 := by rw [e2, put_size]; exact z1
  replace t0 : a2.tmps.getD 0 undef = .pointer (some ⟨d, 0, none⟩) := by rw [e2, put_ne _ _ _ _ (by decide)]; exact t0
  replace t3 : a2.tmps.getD 3 undef = .pointer (some ⟨bi, 0, none⟩) := by rw [e2, put_ne _ _ _ _ (by decide)]; exact t3
  replace t6 : a2.tmps.getD 6 undef = .int .i64 (i : Int) := by rw [e2, put_ne _ _ _ _ (by decide)]; exact t6
  clear t33
  have t34 : a2.tmps.getD 34 undef = .pointer (some ⟨d, 0, none⟩) := by rw [e2]; exact put_same _ _ _ (by omega)
  clear e2 z1
  refine wpAnyH_take (i := 2) (oi := { dst := some 35, op := Op.fieldAddr 86 (Operand.tmp 34) 0, type := 0, pos := "ref.go:187", after := #[{ on := 1, ground := Ground.data }], guard := none }) (v := .pointer (some ⟨d, 0 + 0, none⟩)) rfl (by kernel_rfl) (by kernel_rfl) (by kernel_rfl) (fun _ _ _ h => h) (Or.inl ⟨by rfl, fun w1 hw => exec_fieldAt rfl t34 (fg_86_0 _ _ _)⟩) hHeld ?_
  change wpAnyH _ _ _ _ _ _ _ (a2.put (some 35) (.pointer (some ⟨d, 0 + 0, none⟩))) _
  obtain ⟨a3, e3⟩ : ∃ act, act = a2.put (some 35) (.pointer (some ⟨d, 0 + 0, none⟩)) := ⟨_, rfl⟩
  rw [← e3] at h ⊢
  have z3 : a3.tmps.size = 114 := by rw [e3, put_size]; exact z2
  replace t0 : a3.tmps.getD 0 undef = .pointer (some ⟨d, 0, none⟩) := by rw [e3, put_ne _ _ _ _ (by decide)]; exact t0
  replace t3 : a3.tmps.getD 3 undef = .pointer (some ⟨bi, 0, none⟩) := by rw [e3, put_ne _ _ _ _ (by decide)]; exact t3
  replace t6 : a3.tmps.getD 6 undef = .int .i64 (i : Int) := by rw [e3, put_ne _ _ _ _ (by decide)]; exact t6
  clear t34
  have t35 : a3.tmps.getD 35 undef = .pointer (some ⟨d, 0 + 0, none⟩) := by rw [e3]; exact put_same _ _ _ (by omega)
  clear e3 z2
  refine wpAnyH_take (i := 3) (oi := { dst := some 36, op := Op.load 83 (Operand.tmp 35), type := 83, pos := "ref.go:187", after := #[{ on := 2, ground := Ground.data }], guard := none }) (v := .slice (some ⟨nb, no, none⟩) n c) rfl (by kernel_rfl) (by kernel_rfl) (by kernel_rfl) (fun _ _ _ h => h) (Or.inl ⟨by rfl, fun w1 hw => exec_load rfl t35 (G1 _ hw)⟩) hHeld ?_
  change wpAnyH _ _ _ _ _ _ _ (a3.put (some 36) (.slice (some ⟨nb, no, none⟩) n c)) _
  obtain ⟨a4, e4⟩ : ∃ act, act = a3.put (some 36) (.slice (some ⟨nb, no, none⟩) n c) := ⟨_, rfl⟩
  rw [← e4] at h ⊢
  have z4 : a4.tmps.size = 114 := by rw [e4, put_size]; exact z3
  replace t0 : a4.tmps.getD 0 undef = .pointer (some ⟨d, 0, none⟩) := by rw [e4, put_ne _ _ _ _ (by decide)]; exact t0
  replace t3 : a4.tmps.getD 3 undef = .pointer (some ⟨bi, 0, none⟩) := by rw [e4, put_ne _ _ _ _ (by decide)]; exact t3
  replace t6 : a4.tmps.getD 6 undef = .int .i64 (i : Int) := by rw [e4, put_ne _ _ _ _ (by decide)]; exact t6
  clear t35
  have t36 : a4.tmps.getD 36 undef = .slice (some ⟨nb, no, none⟩) n c := by rw [e4]; exact put_same _ _ _ (by omega)
  clear e4 z3
  refine wpAnyH_take (i := 4) (oi := { dst := some 37, op := Op.move (Operand.tmp 6), type := 3, pos := "ref.go:187", after := #[], guard := none }) (v := .int .i64 (i : Int)) rfl (by kernel_rfl) (by kernel_rfl) (by kernel_rfl) (fun _ _ _ h => h) (Or.inl ⟨by rfl, fun w1 hw => exec_move rfl t6⟩) hHeld ?_
  change wpAnyH _ _ _ _ _ _ _ (a4.put (some 37) (.int .i64 (i : Int))) _
  obtain ⟨a5, e5⟩ : ∃ act, act = a4.put (some 37) (.int .i64 (i : Int)) := ⟨_, rfl⟩
  rw [← e5] at h ⊢
  have z5 : a5.tmps.size = 114 := by rw [e5, put_size]; exact z4
  replace t0 : a5.tmps.getD 0 undef = .pointer (some ⟨d, 0, none⟩) := by rw [e5, put_ne _ _ _ _ (by decide)]; exact t0
  replace t3 : a5.tmps.getD 3 undef = .pointer (some ⟨bi, 0, none⟩) := by rw [e5, put_ne _ _ _ _ (by decide)]; exact t3
  replace t6 : a5.tmps.getD 6 undef = .int .i64 (i : Int) := by rw [e5, put_ne _ _ _ _ (by decide)]; exact t6
  replace t36 : a5.tmps.getD 36 undef = .slice (some ⟨nb, no, none⟩) n c := by rw [e5, put_ne _ _ _ _ (by decide)]; exact t36
  have t37 : a5.tmps.getD 37 undef = .int .i64 (i : Int) := by rw [e5]; exact put_same _ _ _ (by omega)
  clear e5 z4
  refine wpAnyH_take (i := 5) (oi := { dst := some 38, op := Op.indexAddr 83 (Operand.tmp 36) (Operand.tmp 37), type := 0, pos := "ref.go:187", after := #[{ on := 3, ground := Ground.data }, { on := 4, ground := Ground.data }], guard := none }) (v := .pointer (some ⟨nb, no + i * 68, none⟩)) rfl (by kernel_rfl) (by kernel_rfl) (by kernel_rfl) (fun _ _ _ h => h) (Or.inl ⟨by rfl, fun w1 hw => exec_indexAt rfl t36 t37 (G2 _)⟩) hHeld ?_
  change wpAnyH _ _ _ _ _ _ _ (a5.put (some 38) (.pointer (some ⟨nb, no + i * 68, none⟩))) _
  obtain ⟨a6, e6⟩ : ∃ act, act = a5.put (some 38) (.pointer (some ⟨nb, no + i * 68, none⟩)) := ⟨_, rfl⟩
  rw [← e6] at h ⊢
  have z6 : a6.tmps.size = 114 := by rw [e6, put_size]; exact z5
  replace t0 : a6.tmps.getD 0 undef = .pointer (some ⟨d, 0, none⟩) := by rw [e6, put_ne _ _ _ _ (by decide)]; exact t0
  replace t3 : a6.tmps.getD 3 undef = .pointer (some ⟨bi, 0, none⟩) := by rw [e6, put_ne _ _ _ _ (by decide)]; exact t3
  replace t6 : a6.tmps.getD 6 undef = .int .i64 (i : Int) := by rw [e6, put_ne _ _ _ _ (by decide)]; exact t6
  clear t36
  clear t37
  have t38 : a6.tmps.getD 38 undef = .pointer (some ⟨nb, no + i * 68, none⟩) := by rw [e6]; exact put_same _ _ _ (by omega)
  clear e6 z5
  refine wpAnyH_take (i := 6) (oi := { dst := some 39, op := Op.fieldAddr 114 (Operand.tmp 38) 3, type := 0, pos := "ref.go:187", after := #[{ on := 5, ground := Ground.data }], guard := none }) (v := .pointer (some ⟨nb, no + i * 68 + 67, none⟩)) rfl (by kernel_rfl) (by kernel_rfl) (by kernel_rfl) (fun _ _ _ h => h) (Or.inl ⟨by rfl, fun w1 hw => exec_fieldAt rfl t38 (fg_114_3 _ _ _)⟩) hHeld ?_
  change wpAnyH _ _ _ _ _ _ _ (a6.put (some 39) (.pointer (some ⟨nb, no + i * 68 + 67, none⟩))) _
  obtain ⟨a7, e7⟩ : ∃ act, act = a6.put (some 39) (.pointer (some ⟨nb, no + i * 68 + 67, none⟩)) := ⟨_, rfl⟩
  rw [← e7] at h ⊢
  have z7 : a7.tmps.size = 114 := by rw [e7, put_size]; exact z6
  replace t0 : a7.tmps.getD 0 undef = .pointer (some ⟨d, 0, none⟩) := by rw [e7, put_ne _ _ _ _ (by decide)]; exact t0
  replace t3 : a7.tmps.getD 3 undef = .pointer (some ⟨bi, 0, none⟩) := by rw [e7, put_ne _ _ _ _ (by decide)]; exact t3
  replace t6 : a7.tmps.getD 6 undef = .int .i64 (i : Int) := by rw [e7, put_ne _ _ _ _ (by decide)]; exact t6
  clear t38
  have t39 : a7.tmps.getD 39 undef = .pointer (some ⟨nb, no + i * 68 + 67, none⟩) := by rw [e7]; exact put_same _ _ _ (by omega)
  clear e7 z6
  refine wpAnyH_take (i := 7) (oi := { dst := some 40, op := Op.load 4 (Operand.tmp 39), type := 4, pos := "ref.go:187", after := #[{ on := 6, ground := Ground.data }], guard := none }) (v := .bool false) rfl (by kernel_rfl) (by kernel_rfl) (by kernel_rfl) (fun _ _ _ h => h) (Or.inl ⟨by rfl, fun w1 hw => exec_load rfl t39 (G3 _ hw)⟩) hHeld ?_
  change wpAnyH _ _ _ _ _ _ _ (a7.put (some 40) (.bool false)) _
  obtain ⟨a8, e8⟩ : ∃ act, act = a7.put (some 40) (.bool false) := ⟨_, rfl⟩
  rw [← e8] at h ⊢
  have z8 : a8.tmps.size = 114 := by rw [e8, put_size]; exact z7
  replace t0 : a8.tmps.getD 0 undef = .pointer (some ⟨d, 0, none⟩) := by rw [e8, put_ne _ _ _ _ (by decide)]; exact t0
  replace t3 : a8.tmps.getD 3 undef = .pointer (some ⟨bi, 0, none⟩) := by rw [e8, put_ne _ _ _ _ (by decide)]; exact t3
  replace t6 : a8.tmps.getD 6 undef = .int .i64 (i : Int) := by rw [e8, put_ne _ _ _ _ (by decide)]; exact t6
  clear t39
  have t40 : a8.tmps.getD 40 undef = .bool false := by rw [e8]; exact put_same _ _ _ (by omega)
  clear e8 z7
  refine wpAnyH_take (i := 8) (oi := { dst := some 41, op := Op.move (Operand.tmp 40), type := 4, pos := "ref.go:187", after := #[{ on := 7, ground := Ground.data }], guard := none }) (v := .bool false) rfl (by kernel_rfl) (by kernel_rfl) (by kernel_rfl) (fun _ _ _ h => h) (Or.inl ⟨by rfl, fun w1 hw => exec_move rfl t40⟩) hHeld ?_
  change wpAnyH _ _ _ _ _ _ _ (a8.put (some 41) (.bool false)) _
  obtain ⟨a9, e9⟩ : ∃ act, act = a8.put (some 41) (.bool false) := ⟨_, rfl⟩
  rw [← e9] at h ⊢
  have z9 : a9.tmps.size = 114 := by rw [e9, put_size]; exact z8
  replace t0 : a9.tmps.getD 0 undef = .pointer (some ⟨d, 0, none⟩) := by rw [e9, put_ne _ _ _ _ (by decide)]; exact t0
  replace t3 : a9.tmps.getD 3 undef = .pointer (some ⟨bi, 0, none⟩) := by rw [e9, put_ne _ _ _ _ (by decide)]; exact t3
  replace t6 : a9.tmps.getD 6 undef = .int .i64 (i : Int) := by rw [e9, put_ne _ _ _ _ (by decide)]; exact t6
  clear t40
  have t41 : a9.tmps.getD 41 undef = .bool false := by rw [e9]; exact put_same _ _ _ (by omega)
  clear e9 z8
  refine wpAnyH_take (i := 9) (oi := { dst := some 42, op := Op.move (Operand.tmp 0), type := 27, pos := "ref.go:187", after := #[{ on := 8, ground := Ground.guard }], guard := some (8, false) }) (v := .pointer (some ⟨d, 0, none⟩)) rfl (by kernel_rfl) (by kernel_rfl) (by kernel_rfl) (fun _ _ _ h => h) (Or.inl ⟨by simp [Region.wanted, yielded, rkids7u_ops, tget z9 (by decide) t41], fun w1 hw => exec_move rfl t0⟩) hHeld ?_
  change wpAnyH _ _ _ _ _ _ _ (a9.put (some 42) (.pointer (some ⟨d, 0, none⟩))) _
  obtain ⟨a10, e10⟩ : ∃ act, act = a9.put (some 42) (.pointer (some ⟨d, 0, none⟩)) := ⟨_, rfl⟩
  rw [← e10] at h ⊢
  have z10 : a10.tmps.size = 114 := by rw [e10, put_size]; exact z9
  clear t0
  replace t3 : a10.tmps.getD 3 undef = .pointer (some ⟨bi, 0, none⟩) := by rw [e10, put_ne _ _ _ _ (by decide)]; exact t3
  replace t6 : a10.tmps.getD 6 undef = .int .i64 (i : Int) := by rw [e10, put_ne _ _ _ _ (by decide)]; exact t6
  replace t41 : a10.tmps.getD 41 undef = .bool false := by rw [e10, put_ne _ _ _ _ (by decide)]; exact t41
  have t42 : a10.tmps.getD 42 undef = .pointer (some ⟨d, 0, none⟩) := by rw [e10]; exact put_same _ _ _ (by omega)
  clear e10 z9
  refine wpAnyH_take (i := 10) (oi := { dst := some 43, op := Op.nilCheck (Operand.tmp 42), type := 0, pos := "ref.go:187", after := #[{ on := 9, ground := Ground.data }, { on := 8, ground := Ground.guard }], guard := some (8, false) }) (v := .pointer (some ⟨d, 0, none⟩)) rfl (by kernel_rfl) (by kernel_rfl) (by kernel_rfl) (fun _ _ _ h => h) (Or.inl ⟨by simp [Region.wanted, yielded, rkids7u_ops, tget z10 (by decide) t41], fun w1 hw => exec_nilCheck rfl t42⟩) hHeld ?_
  change wpAnyH _ _ _ _ _ _ _ (a10.put (some 43) (.pointer (some ⟨d, 0, none⟩))) _
  obtain ⟨a11, e11⟩ : ∃ act, act = a10.put (some 43) (.pointer (some ⟨d, 0, none⟩)) := ⟨_, rfl⟩
  rw [← e11] at h ⊢
  have z11 : a11.tmps.size = 114 := by rw [e11, put_size]; exact z10
  replace t3 : a11.tmps.getD 3 undef = .pointer (some ⟨bi, 0, none⟩) := by rw [e11, put_ne _ _ _ _ (by decide)]; exact t3
  replace t6 : a11.tmps.getD 6 undef = .int .i64 (i : Int) := by rw [e11, put_ne _ _ _ _ (by decide)]; exact t6
  replace t41 : a11.tmps.getD 41 undef = .bool false := by rw [e11, put_ne _ _ _ _ (by decide)]; exact t41
  clear t42
  have t43 : a11.tmps.getD 43 undef = .pointer (some ⟨d, 0, none⟩) := by rw [e11]; exact put_same _ _ _ (by omega)
  clear e11 z10
  refine wpAnyH_take (i := 11) (oi := { dst := some 44, op := Op.fieldAddr 86 (Operand.tmp 43) 0, type := 0, pos := "ref.go:187", after := #[{ on := 10, ground := Ground.data }, { on := 8, ground := Ground.guard }], guard := some (8, false) }) (v := .pointer (some ⟨d, 0 + 0, none⟩)) rfl (by kernel_rfl) (by kernel_rfl) (by kernel_rfl) (fun _ _ _ h => h) (Or.inl ⟨by simp [Region.wanted, yielded, rkids7u_ops, tget z11 (by decide) t41], fun w1 hw => exec_fieldAt rfl t43 (fg_86_0 _ _ _)⟩) hHeld ?_
  change wpAnyH _ _ _ _ _ _ _ (a11.put (some 44) (.pointer (some ⟨d, 0 + 0, none⟩))) _
  obtain ⟨a12, e12⟩ : ∃ act, act = a11.put (some 44) (.pointer (some ⟨d, 0 + 0, none⟩)) := ⟨_, rfl⟩
  rw [← e12] at h ⊢
  have z12 : a12.tmps.size = 114 := by rw [e12, put_size]; exact z11
  replace t3 : a12.tmps.getD 3 undef = .pointer (some ⟨bi, 0, none⟩) := by rw [e12, put_ne _ _ _ _ (by decide)]; exact t3
  replace t6 : a12.tmps.getD 6 undef = .int .i64 (i : Int) := by rw [e12, put_ne _ _ _ _ (by decide)]; exact t6
  replace t41 : a12.tmps.getD 41 undef = .bool false := by rw [e12, put_ne _ _ _ _ (by decide)]; exact t41
  clear t43
  have t44 : a12.tmps.getD 44 undef = .pointer (some ⟨d, 0 + 0, none⟩) := by rw [e12]; exact put_same _ _ _ (by omega)
  clear e12 z11
  refine wpAnyH_take (i := 12) (oi := { dst := some 45, op := Op.load 83 (Operand.tmp 44), type := 83, pos := "ref.go:187", after := #[{ on := 11, ground := Ground.data }, { on := 8, ground := Ground.guard }], guard := some (8, false) }) (v := .slice (some ⟨nb, no, none⟩) n c) rfl (by kernel_rfl) (by kernel_rfl) (by kernel_rfl) (fun _ _ _ h => h) (Or.inl ⟨by simp [Region.wanted, yielded, rkids7u_ops, tget z12 (by decide) t41], fun w1 hw => exec_load rfl t44 (G1 _ hw)⟩) hHeld ?_
  change wpAnyH _ _ _ _ _ _ _ (a12.put (some 45) (.slice (some ⟨nb, no, none⟩) n c)) _
  obtain ⟨a13, e13⟩ : ∃ act, act = a12.put (some 45) (.slice (some ⟨nb, no, none⟩) n c) := ⟨_, rfl⟩
  rw [← e13] at h ⊢
  have z13 : a13.tmps.size = 114 := by rw [e13, put_size]; exact z12
  replace t3 : a13.tmps.getD 3 undef = .pointer (some ⟨bi, 0, none⟩) := by rw [e13, put_ne _ _ _ _ (by decide)]; exact t3
  replace t6 : a13.tmps.getD 6 undef = .int .i64 (i : Int) := by rw [e13, put_ne _ _ _ _ (by decide)]; exact t6
  replace t41 : a13.tmps.getD 41 undef = .bool false := by rw [e13, put_ne _ _ _ _ (by decide)]; exact t41
  clear t44
  have t45 : a13.tmps.getD 45 undef = .slice (some ⟨nb, no, none⟩) n c := by rw [e13]; exact put_same _ _ _ (by omega)
  clear e13 z12
  refine wpAnyH_take (i := 13) (oi := { dst := some 46, op := Op.move (Operand.tmp 6), type := 3, pos := "ref.go:187", after := #[{ on := 8, ground := Ground.guard }], guard := some (8, false) }) (v := .int .i64 (i : Int)) rfl (by kernel_rfl) (by kernel_rfl) (by kernel_rfl) (fun _ _ _ h => h) (Or.inl ⟨by simp [Region.wanted, yielded, rkids7u_ops, tget z13 (by decide) t41], fun w1 hw => exec_move rfl t6⟩) hHeld ?_
  change wpAnyH _ _ _ _ _ _ _ (a13.put (some 46) (.int .i64 (i : Int))) _
  obtain ⟨a14, e14⟩ : ∃ act, act = a13.put (some 46) (.int .i64 (i : Int)) := ⟨_, rfl⟩
  rw [← e14] at h ⊢
  have z14 : a14.tmps.size = 114 := by rw [e14, put_size]; exact z13
  replace t3 : a14.tmps.getD 3 undef = .pointer (some ⟨bi, 0, none⟩) := by rw [e14, put_ne _ _ _ _ (by decide)]; exact t3
  clear t6
  replace t41 : a14.tmps.getD 41 undef = .bool false := by rw [e14, put_ne _ _ _ _ (by decide)]; exact t41
  replace t45 : a14.tmps.getD 45 undef = .slice (some ⟨nb, no, none⟩) n c := by rw [e14, put_ne _ _ _ _ (by decide)]; exact t45
  have t46 : a14.tmps.getD 46 undef = .int .i64 (i : Int) := by rw [e14]; exact put_same _ _ _ (by omega)
  clear e14 z13
  refine wpAnyH_take (i := 14) (oi := { dst := some 47, op := Op.indexAddr 83 (Operand.tmp 45) (Operand.tmp 46), type := 0, pos := "ref.go:187", after := #[{ on := 12, ground := Ground.data }, { on := 13, ground := Ground.data }, { on := 8, ground := Ground.guard }], guard := some (8, false) }) (v := .pointer (some ⟨nb, no + i * 68, none⟩)) rfl (by kernel_rfl) (by kernel_rfl) (by kernel_rfl) (fun _ _ _ h => h) (Or.inl ⟨by simp [Region.wanted, yielded, rkids7u_ops, tget z14 (by decide) t41], fun w1 hw => exec_indexAt rfl t45 t46 (G2 _)⟩) hHeld ?_
  change wpAnyH _ _ _ _ _ _ _ (a14.put (some 47) (.pointer (some ⟨nb, no + i * 68, none⟩))) _
  obtain ⟨a15, e15⟩ : ∃ act, act = a14.put (some 47) (.pointer (some ⟨nb, no + i * 68, none⟩)) := ⟨_, rfl⟩
  rw [← e15] at h ⊢
  have z15 : a15.tmps.size = 114 := by rw [e15, put_size]; exact z14
  replace t3 : a15.tmps.getD 3 undef = .pointer (some ⟨bi, 0, none⟩) := by rw [e15, put_ne _ _ _ _ (by decide)]; exact t3
  replace t41 : a15.tmps.getD 41 undef = .bool false := by rw [e15, put_ne _ _ _ _ (by decide)]; exact t41
  clear t45
  clear t46
  have t47 : a15.tmps.getD 47 undef = .pointer (some ⟨nb, no + i * 68, none⟩) := by rw [e15]; exact put_same _ _ _ (by omega)
  clear e15 z14
  refine wpAnyH_take (i := 15) (oi := { dst := some 48, op := Op.fieldAddr 114 (Operand.tmp 47) 1, type := 0, pos := "ref.go:187", after := #[{ on := 14, ground := Ground.data }, { on := 8, ground := Ground.guard }], guard := some (8, false) }) (v := .pointer (some ⟨nb, no + i * 68 + 33, none⟩)) rfl (by kernel_rfl) (by kernel_rfl) (by kernel_rfl) (fun _ _ _ h => h) (Or.inl ⟨by simp [Region.wanted, yielded, rkids7u_ops, tget z15 (by decide) t41], fun w1 hw => exec_fieldAt rfl t47 (fg_114_1 _ _ _)⟩) hHeld ?_
  change wpAnyH _ _ _ _ _ _ _ (a15.put (some 48) (.pointer (some ⟨nb, no + i * 68 + 33, none⟩))) _
  obtain ⟨a16, e16⟩ : ∃ act, act = a15.put (some 48) (.pointer (some ⟨nb, no + i * 68 + 33, none⟩)) := ⟨_, rfl⟩
  rw [← e16] at h ⊢
  have z16 : a16.tmps.size = 114 := by rw [e16, put_size]; exact z15
  replace t3 : a16.tmps.getD 3 undef = .pointer (some ⟨bi, 0, none⟩) := by rw [e16, put_ne _ _ _ _ (by decide)]; exact t3
  replace t41 : a16.tmps.getD 41 undef = .bool false := by rw [e16, put_ne _ _ _ _ (by decide)]; exact t41
  clear t47
  have t48 : a16.tmps.getD 48 undef = .pointer (some ⟨nb, no + i * 68 + 33, none⟩) := by rw [e16]; exact put_same _ _ _ (by omega)
  clear e16 z15
  refine wpAnyH_take (i := 16) (oi := { dst := some 49, op := Op.load 37 (Operand.tmp 48), type := 37, pos := "ref.go:187", after := #[{ on := 15, ground := Ground.data }, { on := 8, ground := Ground.guard }], guard := some (8, false) }) (v := uv) rfl (by kernel_rfl) (by kernel_rfl) (by kernel_rfl) (fun _ _ _ h => h) (Or.inl ⟨by simp [Region.wanted, yielded, rkids7u_ops, tget z16 (by decide) t41], fun w1 hw => exec_load rfl t48 (G4 _ hw)⟩) hHeld ?_
  change wpAnyH _ _ _ _ _ _ _ (a16.put (some 49) (uv)) _
  obtain ⟨a17, e17⟩ : ∃ act, act = a16.put (some 49) (uv) := ⟨_, rfl⟩
  rw [← e17] at h ⊢
  have z17 : a17.tmps.size = 114 := by rw [e17, put_size]; exact z16
  replace t3 : a17.tmps.getD 3 undef = .pointer (some ⟨bi, 0, none⟩) := by rw [e17, put_ne _ _ _ _ (by decide)]; exact t3
  replace t41 : a17.tmps.getD 41 undef = .bool false := by rw [e17, put_ne _ _ _ _ (by decide)]; exact t41
  clear t48
  have t49 : a17.tmps.getD 49 undef = uv := by rw [e17]; exact put_same _ _ _ (by omega)
  clear e17 z16
  refine wpAnyH_take (i := 17) (oi := { dst := some 50, op := Op.load 37 (Operand.tmp 3), type := 37, pos := "ref.go:187", after := #[{ on := 8, ground := Ground.guard }], guard := some (8, false) }) (v := kv) rfl (by kernel_rfl) (by kernel_rfl) (by kernel_rfl) (fun _ _ _ h => h) (Or.inl ⟨by simp [Region.wanted, yielded, rkids7u_ops, tget z17 (by decide) t41], fun w1 hw => exec_load rfl t3 (G5 _ hw)⟩) hHeld ?_
  change wpAnyH _ _ _ _ _ _ _ (a17.put (some 50) (kv)) _
  obtain ⟨a18, e18⟩ : ∃ act, act = a17.put (some 50) (kv) := ⟨_, rfl⟩
  rw [← e18] at h ⊢
  have z18 : a18.tmps.size = 114 := by rw [e18, put_size]; exact z17
  clear t3
  replace t41 : a18.tmps.getD 41 undef = .bool false := by rw [e18, put_ne _ _ _ _ (by decide)]; exact t41
  replace t49 : a18.tmps.getD 49 undef = uv := by rw [e18, put_ne _ _ _ _ (by decide)]; exact t49
  have t50 : a18.tmps.getD 50 undef = kv := by rw [e18]; exact put_same _ _ _ (by omega)
  clear e18 z17
  refine wpAnyH_take (i := 18) (oi := { dst := some 51, op := Op.binOp BinOp.neq 37 (Operand.tmp 49) (Operand.tmp 50) 37, type := 4, pos := "ref.go:187", after := #[{ on := 16, ground := Ground.data }, { on := 17, ground := Ground.data }, { on := 8, ground := Ground.guard }], guard := some (8, false) }) (v := .bool q) rfl (by kernel_rfl) (by kernel_rfl) (by kernel_rfl) (fun _ _ _ h => h) (Or.inl ⟨by simp [Region.wanted, yielded, rkids7u_ops, tget z18 (by decide) t41], fun w1 hw => exec_binOp rfl t49 t50 (G6 _) (G7 _ hw)⟩) hHeld ?_
  change wpAnyH _ _ _ _ _ _ _ (a18.put (some 51) (.bool q)) _
  obtain ⟨a19, e19⟩ : ∃ act, act = a18.put (some 51) (.bool q) := ⟨_, rfl⟩
  rw [← e19] at h ⊢
  have z19 : a19.tmps.size = 114 := by rw [e19, put_size]; exact z18
  replace t41 : a19.tmps.getD 41 undef = .bool false := by rw [e19, put_ne _ _ _ _ (by decide)]; exact t41
  clear t49
  clear t50
  have t51 : a19.tmps.getD 51 undef = .bool q := by rw [e19]; exact put_same _ _ _ (by omega)
  clear e19 z18
  refine wpAnyH_take (i := 19) (oi := { dst := some 52, op := Op.pick (Operand.tmp 41) (Operand.const (Value.bool true)) (Operand.tmp 51), type := 4, pos := "ref.go:187", after := #[{ on := 8, ground := Ground.data }, { on := 18, ground := Ground.data }], guard := none }) (v := .bool q) rfl (by kernel_rfl) (by kernel_rfl) (by kernel_rfl) (fun _ _ _ h => h) (Or.inl ⟨by rfl, fun w1 hw => by go_simp⟩) hHeld ?_
  change wpAnyH _ _ _ _ _ _ _ (a19.put (some 52) (.bool q)) _
  obtain ⟨a20, e20⟩ : ∃ act, act = a19.put (some 52) (.bool q) := ⟨_, rfl⟩
  rw [← e20] at h ⊢
  have z20 : a20.tmps.size = 114 := by rw [e20, put_size]; exact z19
  clear t41
  clear t51
  clear e20 z19
  exact wpAnyH_done (by kernel_rfl) (NoPanic.normal (h _ _ (hHeld) rfl)) _
def rkids10_ops : Array Oper := #[{ dst := some 66, op := Op.move (Operand.tmp 7), type := 3, pos := "ref.go:191", after := #[], guard := none }, { dst := some 67, op := Op.binOp BinOp.gtr 3 (Operand.tmp 66) (Operand.const (Value.int IntKind.i64 0)) 3, type := 4, pos := "ref.go:191", after := #[{ on := 0, ground := Ground.data }], guard := none }, { dst := some 68, op := Op.move (Operand.tmp 67), type := 4, pos := "ref.go:191", after := #[{ on := 1, ground := Ground.data }], guard := none }, { dst := some 69, op := Op.move (Operand.tmp 5), type := 83, pos := "ref.go:191", after := #[{ on := 2, ground := Ground.guard }], guard := some (2, true) }, { dst := some 70, op := Op.move (Operand.tmp 7), type := 3, pos := "ref.go:191", after := #[{ on := 2, ground := Ground.guard }], guard := some (2, true) }, { dst := some 71, op := Op.indexAddr 83 (Operand.tmp 69) (Operand.tmp 70), type := 0, pos := "ref.go:191", after := #[{ on := 3, ground := Ground.data }, { on := 4, ground := Ground.data }, { on := 2, ground := Ground.guard }], guard := some (2, true) }, { dst := some 72, op := Op.load 114 (Operand.tmp 71), type := 114, pos := "ref.go:191", after := #[{ on := 5, ground := Ground.data }, { on := 2, ground := Ground.guard }], guard := some (2, true) }, { dst := some 73, op := Op.move (Operand.tmp 5), type := 83, pos := "ref.go:191", after := #[{ on := 2, ground := Ground.guard }], guard := some (2, true) }, { dst := some 74, op := Op.move (Operand.tmp 7), type := 3, pos := "ref.go:191", after := #[{ on := 2, ground := Ground.guard }], guard := some (2, true) }, { dst := some 75, op := Op.binOp BinOp.sub 3 (Operand.tmp 74) (Operand.const (Value.int IntKind.i64 1)) 3, type := 3, pos := "ref.go:191", after := #[{ on := 8, ground := Ground.data }, { on := 2, ground := Ground.guard }], guard := some (2, true) }, { dst := some 76, op := Op.indexAddr 83 (Operand.tmp 73) (Operand.tmp 75), type := 0, pos := "ref.go:191", after := #[{ on := 7, ground := Ground.data }, { on := 9, ground := Ground.data }, { on := 2, ground := Ground.guard }], guard := some (2, true) }, { dst := some 77, op := Op.load 114 (Operand.tmp 76), type := 114, pos := "ref.go:191", after := #[{ on := 10, ground := Ground.data }, { on := 2, ground := Ground.guard }], guard := some (2, true) }, { dst := some 78, op := Op.call { callee := Callee.value (Operand.func 78), args := #[Operand.tmp 72, Operand.tmp 77], argTypes := #[114, 114] }, type := 4, pos := "ref.go:191", after := #[{ on := 6, ground := Ground.data }, { on := 11, ground := Ground.data }, { on := 2, ground := Ground.chain }, { on := 2, ground := Ground.guard }], guard := some (2, true) }, { dst := some 79, op := Op.pick (Operand.tmp 68) (Operand.tmp 78) (Operand.const (Value.bool false)), type := 4, pos := "ref.go:191", after := #[{ on := 2, ground := Ground.data }, { on := 12, ground := Ground.data }], guard := none }]
set_option maxRecDepth 100000 in
set_option maxHeartbeats 4000000 in
theorem rkids10 (lb ln lc k m : Nat) (xv yv : Value) (q : Bool) (S : World → Prop) (a : Act) (w : World) (Q : Exit → Act → World → Prop) (hsz : a.tmps.size = 114)
    (t5 : a.tmps.getD 5 undef = .slice (some ⟨lb, 0, none⟩) ln lc)
    (t7 : a.tmps.getD 7 undef = .int .i64 (k : Int))
    (h0 : S w.drew) (HSK : ∀ W W', S W → Below W.heap.size W W' → S W') (CA : ∀ W, S W → Calls Try.prog 78 #[xv, yv] W fun e w' => e = .returned (.bool q) ∧ Below W.heap.size W w')
    (G1 : ∀ W, (eqGuard BinOp.gtr 3 (Operand.tmp 66) (Operand.const (Value.int IntKind.i64 0)) (.int .i64 (k : Int)) (.int .i64 0)).run Try.prog W = .ok () W)
    (G2 : ∀ W, S W → (binOp BinOp.gtr 3 (.int .i64 (k : Int)) (.int .i64 0)).run Try.prog W = .ok (.bool true) W)
    (G3 : ∀ W, (Instr.indexAt 83 (.slice (some ⟨lb, 0, none⟩) ln lc) (.int .i64 (k : Int))).run Try.prog W = .ok (.pointer (some ⟨lb, k * 68, none⟩)) W)
    (G4 : ∀ W, S W → (Instr.loadAt 114 (.pointer (some ⟨lb, k * 68, none⟩))).run Try.prog W = .ok (xv) W)
    (G5 : ∀ W, (eqGuard BinOp.sub 3 (Operand.tmp 74) (Operand.const (Value.int IntKind.i64 1)) (.int .i64 (k : Int)) (.int .i64 1)).run Try.prog W = .ok () W)
    (G6 : ∀ W, S W → (binOp BinOp.sub 3 (.int .i64 (k : Int)) (.int .i64 1)).run Try.prog W = .ok (.int .i64 (m : Int)) W)
    (G7 : ∀ W, (Instr.indexAt 83 (.slice (some ⟨lb, 0, none⟩) ln lc) (.int .i64 (m : Int))).run Try.prog W = .ok (.pointer (some ⟨lb, m * 68, none⟩)) W)
    (G8 : ∀ W, S W → (Instr.loadAt 114 (.pointer (some ⟨lb, m * 68, none⟩))).run Try.prog W = .ok (yv) W)
    (h : ∀ (a' : Act) (w' : World), S w' → a' = ((((((((((((((a).put (some 66) (.int .i64 (k : Int))).put (some 67) (.bool true)).put (some 68) (.bool true)).put (some 69) (.slice (some ⟨lb, 0, none⟩) ln lc)).put (some 70) (.int .i64 (k : Int))).put (some 71) (.pointer (some ⟨lb, k * 68, none⟩))).put (some 72) (xv)).put (some 73) (.slice (some ⟨lb, 0, none⟩) ln lc)).put (some 74) (.int .i64 (k : Int))).put (some 75) (.int .i64 (m : Int))).put (some 76) (.pointer (some ⟨lb, m * 68, none⟩))).put (some 77) (yv)).put (some 78) (.bool q)).put (some 79) (.bool q) → Q .normal a' w') :
    (Code.region 10 rkids10_ops true).wp Try.prog Q a w := by
  refine wp_region_noPanic ?_
  refine wp_region_held_drew (S := fun w' => S w') (by kernel_rfl) (h0) (fun hHeld => ?_)
  refine wpAnyH_take (i := 0) (oi := { dst := some 66, op := Op.move (Operand.tmp 7), type := 3, pos := "ref.go:191", after := #[], guard := none }) (v := .int .i64 (k : Int)) rfl (by kernel_rfl) (by kernel_rfl) (by kernel_rfl) (fun _ _ _ h => h) (Or.inl ⟨by rfl, fun w1 hw => exec_move rfl t7⟩) hHeld ?_
  change wpAnyH _ _ _ _ _ _ _ (a.put (some 66) (.int .i64 (k : Int))) _
  obtain ⟨a1, e1⟩ : ∃ act, act = a.put (some 66) (.int .i64 (k : Int)) := ⟨_, rfl⟩
  rw [← e1] at h ⊢
  have z1 : a1.tmps.size = 114 := by rw [e1, put_size]; exact hsz
  replace t5 : a1.tmps.getD 5 undef = .slice (some ⟨lb, 0, none⟩) ln lc := by rw [e1, put_ne _ _ _ _ (by decide)]; exact t5
  replace t7 : a1.tmps.getD 7 undef = .int .i64 (k : Int) := by rw [e1, put_ne _ _ _ _ (by decide)]; exact t7
  have t66 : a1.tmps.getD 66 undef = .int .i64 (k : Int) := by rw [e1]; exact put_same _ _ _ (by omega)
  clear e1 hsz
  refine wpAnyH_take (i := 1) (oi := { dst := some 67, op := Op.binOp BinOp.gtr 3 (Operand.tmp 66) (Operand.const (Value.int IntKind.i64 0)) 3, type := 4, pos := "ref.go:191", after := #[{ on := 0, ground := Ground.data }], guard := none }) (v := .bool true) rfl (by kernel_rfl) (by kernel_rfl) (by kernel_rfl) (fun _ _ _ h => h) (Or.inl ⟨by rfl, fun w1 hw => exec_binOp rfl t66 rfl (G1 _) (G2 _ hw)⟩) hHeld ?_
  change wpAnyH _ _ _ _ _ _ _ (a1.put (some 67) (.bool true)) _
  obtain ⟨a2, e2⟩ : ∃ act, act = a1.put (some 67) (.bool true) := ⟨_, rfl⟩
  rw [← e2] at h ⊢
  have z2 : a2.tmps.size = 114 := by rw [e2, put_size]; exact z1
  replace t5 : a2.tmps.getD 5 undef = .slice (some ⟨lb, 0, none⟩) ln lc := by rw [e2, put_ne _ _ _ _ (by decide)]; exact t5
  replace t7 : a2.tmps.getD 7 undef = .int .i64 (k : Int) := by rw [e2, put_ne _ _ _ _ (by decide)]; exact t7
  clear t66
  have t67 : a2.tmps.getD 67 undef = .bool true := by rw [e2]; exact put_same _ _ _ (by omega)
  clear e2 z1
  refine wpAnyH_take (i := 2) (oi := { dst := some 68, op := Op.move (Operand.tmp 67), type := 4, pos := "ref.go:191", after := #[{ on := 1, ground := Ground.data }], guard := none }) (v := .bool true) rfl (by kernel_rfl) (by kernel_rfl) (by kernel_rfl) (fun _ _ _ h => h) (Or.inl ⟨by rfl, fun w1 hw => exec_move rfl t67⟩) hHeld ?_
  change wpAnyH _ _ _ _ _ _ _ (a2.put (some 68) (.bool true)) _
  obtain ⟨a3, e3⟩ : ∃ act, act = a2.put (some 68) (.bool true) := ⟨_, rfl⟩
  rw [← e3] at h ⊢
  have z3 : a3.tmps.size = 114 := by rw [e3, put_size]; exact z2
  replace t5 : a3.tmps.getD 5 undef = .slice (some ⟨lb, 0, none⟩) ln lc := by rw [e3, put_ne _ _ _ _ (by decide)]; exact t5
  replace t7 : a3.tmps.getD 7 undef = .int .i64 (k : Int) := by rw [e3, put_ne _ _ _ _ (by decide)]; exact t7
  clear t67
  have t68 : a3.tmps.getD 68 undef = .bool true := by rw [e3]; exact put_same _ _ _ (by omega)
  clear e3 z2
  refine wpAnyH_take (i := 3) (oi := { dst := some 69, op := Op.move (Operand.tmp 5), type := 83, pos := "ref.go:191", after := #[{ on := 2, ground := Ground.guard }], guard := some (2, true) }) (v := .slice (some ⟨lb, 0, none⟩) ln lc) rfl (by kernel_rfl) (by kernel_rfl) (by kernel_rfl) (fun _ _ _ h => h) (Or.inl ⟨by simp [Region.wanted, yielded, rkids10_ops, tget z3 (by decide) t68], fun w1 hw => exec_move rfl t5⟩) hHeld ?_
  change wpAnyH _ _ _ _ _ _ _ (a3.put (some 69) (.slice (some ⟨lb, 0, none⟩) ln lc)) _
  obtain ⟨a4, e4⟩ : ∃ act, act = a3.put (some 69) (.slice (some ⟨lb, 0, none⟩) ln lc) := ⟨_, rfl⟩
  rw [← e4] at h ⊢
  have z4 : a4.tmps.size = 114 := by rw [e4, put_size]; exact z3
  replace t5 : a4.tmps.getD 5 undef = .slice (some ⟨lb, 0, none⟩) ln lc := by rw [e4, put_ne _ _ _ _ (by decide)]; exact t5
  replace t7 : a4.tmps.getD 7 undef = .int .i64 (k : Int) := by rw [e4, put_ne _ _ _ _ (by decide)]; exact t7
  replace t68 : a4.tmps.getD 68 undef = .bool true := by rw [e4, put_ne _ _ _ _ (by decide)]; exact t68
  have t69 : a4.tmps.getD 69 undef = .slice (some ⟨lb, 0, none⟩) ln lc := by rw [e4]; exact put_same _ _ _ (by omega)
  clear e4 z3
  refine wpAnyH_take (i := 4) (oi := { dst := some 70, op := Op.move (Operand.tmp 7), type := 3, pos := "ref.go:191", after := #[{ on := 2, ground := Ground.guard }], guard := some (2, true) }) (v := .int .i64 (k : Int)) rfl (by kernel_rfl) (by kernel_rfl) (by kernel_rfl) (fun _ _ _ h => h) (Or.inl ⟨by simp [Region.wanted, yielded, rkids10_ops, tget z4 (by decide) t68], fun w1 hw => exec_move rfl t7⟩) hHeld ?_
  change wpAnyH _ _ _ _ _ _ _ (a4.put (some 70) (.int .i64 (k : Int))) _
  obtain ⟨a5, e5⟩ : ∃ act, act = a4.put (some 70) (.int .i64 (k : Int)) := ⟨_, rfl⟩
  rw [← e5] at h ⊢
  have z5 : a5.tmps.size = 114 := by rw [e5, put_size]; exact z4
  replace t5 : a5.tmps.getD 5 undef = .slice (some ⟨lb, 0, none⟩) ln lc := by rw [e5, put_ne _ _ _ _ (by decide)]; exact t5
  replace t7 : a5.tmps.getD 7 undef = .int .i64 (k : Int) := by rw [e5, put_ne _ _ _ _ (by decide)]; exact t7
  replace t68 : a5.tmps.getD 68 undef = .bool true := by rw [e5, put_ne _ _ _ _ (by decide)]; exact t68
  replace t69 : a5.tmps.getD 69 undef = .slice (some ⟨lb, 0, none⟩) ln lc := by rw [e5, put_ne _ _ _ _ (by decide)]; exact t69
  have t70 : a5.tmps.getD 70 undef = .int .i64 (k : Int) := by rw [e5]; exact put_same _ _ _ (by omega)
  clear e5 z4
  refine wpAnyH_take (i := 5) (oi := { dst := some 71, op := Op.indexAddr 83 (Operand.tmp 69) (Operand.tmp 70), type := 0, pos := "ref.go:191", after := #[{ on := 3, ground := Ground.data }, { on := 4, ground := Ground.data }, { on := 2, ground := Ground.guard }], guard := some (2, true) }) (v := .pointer (some ⟨lb, k * 68, none⟩)) rfl (by kernel_rfl) (by kernel_rfl) (by kernel_rfl) (fun _ _ _ h => h) (Or.inl ⟨by simp [Region.wanted, yielded, rkids10_ops, tget z5 (by decide) t68], fun w1 hw => exec_indexAt rfl t69 t70 (G3 _)⟩) hHeld ?_
  change wpAnyH _ _ _ _ _ _ _ (a5.put (some 71) (.pointer (some ⟨lb, k * 68, none⟩))) _
  obtain ⟨a6, e6⟩ : ∃ act, act = a5.put (some 71) (.pointer (some ⟨lb, k * 68, none⟩)) := ⟨_, rfl⟩
  rw [← e6] at h ⊢
  have z6 : a6.tmps.size = 114 := by rw [e6, put_size]; exact z5
  replace t5 : a6.tmps.getD 5 undef = .slice (some ⟨lb, 0, none⟩) ln lc := by rw [e6, put_ne _ _ _ _ (by decide)]; exact t5
  replace t7 : a6.tmps.getD 7 undef = .int .i64 (k : Int) := by rw [e6, put_ne _ _ _ _ (by decide)]; exact t7
  replace t68 : a6.tmps.getD 68 undef = .bool true := by rw [e6, put_ne _ _ _ _ (by decide)]; exact t68
  clear t69
  clear t70
  have t71 : a6.tmps.getD 71 undef = .pointer (some ⟨lb, k * 68, none⟩) := by rw [e6]; exact put_same _ _ _ (by omega)
  clear e6 z5
  refine wpAnyH_take (i := 6) (oi := { dst := some 72, op := Op.load 114 (Operand.tmp 71), type := 114, pos := "ref.go:191", after := #[{ on := 5, ground := Ground.data }, { on := 2, ground := Ground.guard }], guard := some (2, true) }) (v := xv) rfl (by kernel_rfl) (by kernel_rfl) (by kernel_rfl) (fun _ _ _ h => h) (Or.inl ⟨by simp [Region.wanted, yielded, rkids10_ops, tget z6 (by decide) t68], fun w1 hw => exec_load rfl t71 (G4 _ hw)⟩) hHeld ?_
  change wpAnyH _ _ _ _ _ _ _ (a6.put (some 72) (xv)) _
  obtain ⟨a7, e7⟩ : ∃ act, act = a6.put (some 72) (xv) := ⟨_, rfl⟩
  rw [← e7] at h ⊢
  have z7 : a7.tmps.size = 114 := by rw [e7, put_size]; exact z6
  replace t5 : a7.tmps.getD 5 undef = .slice (some ⟨lb, 0, none⟩) ln lc := by rw [e7, put_ne _ _ _ _ (by decide)]; exact t5
  replace t7 : a7.tmps.getD 7 undef = .int .i64 (k : Int) := by rw [e7, put_ne _ _ _ _ (by decide)]; exact t7
  replace t68 : a7.tmps.getD 68 undef = .bool true := by rw [e7, put_ne _ _ _ _ (by decide)]; exact t68
  clear t71
  have t72 : a7.tmps.getD 72 undef = xv := by rw [e7]; exact put_same _ _ _ (by omega)
  clear e7 z6
  refine wpAnyH_take (i := 7) (oi := { dst := some 73, op := Op.move (Operand.tmp 5), type := 83, pos := "ref.go:191", after := #[{ on := 2, ground := Ground.guard }], guard := some (2, true) }) (v := .slice (some ⟨lb, 0, none⟩) ln lc) rfl (by kernel_rfl) (by kernel_rfl) (by kernel_rfl) (fun _ _ _ h => h) (Or.inl ⟨by simp [Region.wanted, yielded, rkids10_ops, tget z7 (by decide) t68], fun w1 hw => exec_move rfl t5⟩) hHeld ?_
  change wpAnyH _ _ _ _ _ _ _ (a7.put (some 73) (.slice (some ⟨lb, 0, none⟩) ln lc)) _
  obtain ⟨a8, e8⟩ : ∃ act, act = a7.put (some 73) (.slice (some ⟨lb, 0, none⟩) ln lc) := ⟨_, rfl⟩
  rw [← e8] at h ⊢
  have z8 : a8.tmps.size = 114 := by rw [e8, put_size]; exact z7
  clear t5
  replace t7 : a8.tmps.getD 7 undef = .int .i64 (k : Int) := by rw [e8, put_ne _ _ _ _ (by decide)]; exact t7
  replace t68 : a8.tmps.getD 68 undef = .bool true := by rw [e8, put_ne _ _ _ _ (by decide)]; exact t68
  replace t72 : a8.tmps.getD 72 undef = xv := by rw [e8, put_ne _ _ _ _ (by decide)]; exact t72
  have t73 : a8.tmps.getD 73 undef = .slice (some ⟨lb, 0, none⟩) ln lc := by rw [e8]; exact put_same _ _ _ (by omega)
  clear e8 z7
  refine wpAnyH_take (i := 8) (oi := { dst := some 74, op := Op.move (Operand.tmp 7), type := 3, pos := "ref.go:191", after := #[{ on := 2, ground := Ground.guard }], guard := some (2, true) }) (v := .int .i64 (k : Int)) rfl (by kernel_rfl) (by kernel_rfl) (by kernel_rfl) (fun _ _ _ h => h) (Or.inl ⟨by simp [Region.wanted, yielded, rkids10_ops, tget z8 (by decide) t68], fun w1 hw => exec_move rfl t7⟩) hHeld ?_
  change wpAnyH _ _ _ _ _ _ _ (a8.put (some 74) (.int .i64 (k : Int))) _
  obtain ⟨a9, e9⟩ : ∃ act, act = a8.put (some 74) (.int .i64 (k : Int)) := ⟨_, rfl⟩
  rw [← e9] at h ⊢
  have z9 : a9.tmps.size = 114 := by rw [e9, put_size]; exact z8
  clear t7
  replace t68 : a9.tmps.getD 68 undef = .bool true := by rw [e9, put_ne _ _ _ _ (by decide)]; exact t68
  replace t72 : a9.tmps.getD 72 undef = xv := by rw [e9, put_ne _ _ _ _ (by decide)]; exact t72
  replace t73 : a9.tmps.getD 73 undef = .slice (some ⟨lb, 0, none⟩) ln lc := by rw [e9, put_ne _ _ _ _ (by decide)]; exact t73
  have t74 : a9.tmps.getD 74 undef = .int .i64 (k : Int) := by rw [e9]; exact put_same _ _ _ (by omega)
  clear e9 z8
  refine wpAnyH_take (i := 9) (oi := { dst := some 75, op := Op.binOp BinOp.sub 3 (Operand.tmp 74) (Operand.const (Value.int IntKind.i64 1)) 3, type := 3, pos := "ref.go:191", after := #[{ on := 8, ground := Ground.data }, { on := 2, ground := Ground.guard }], guard := some (2, true) }) (v := .int .i64 (m : Int)) rfl (by kernel_rfl) (by kernel_rfl) (by kernel_rfl) (fun _ _ _ h => h) (Or.inl ⟨by simp [Region.wanted, yielded, rkids10_ops, tget z9 (by decide) t68], fun w1 hw => exec_binOp rfl t74 rfl (G5 _) (G6 _ hw)⟩) hHeld ?_
  change wpAnyH _ _ _ _ _ _ _ (a9.put (some 75) (.int .i64 (m : Int))) _
  obtain ⟨a10, e10⟩ : ∃ act, act = a9.put (some 75) (.int .i64 (m : Int)) := ⟨_, rfl⟩
  rw [← e10] at h ⊢
  have z10 : a10.tmps.size = 114 := by rw [e10, put_size]; exact z9
  replace t68 : a10.tmps.getD 68 undef = .bool true := by rw [e10, put_ne _ _ _ _ (by decide)]; exact t68
  replace t72 : a10.tmps.getD 72 undef = xv := by rw [e10, put_ne _ _ _ _ (by decide)]; exact t72
  replace t73 : a10.tmps.getD 73 undef = .slice (some ⟨lb, 0, none⟩) ln lc := by rw [e10, put_ne _ _ _ _ (by decide)]; exact t73
  clear t74
  have t75 : a10.tmps.getD 75 undef = .int .i64 (m : Int) := by rw [e10]; exact put_same _ _ _ (by omega)
  clear e10 z9
  refine wpAnyH_take (i := 10) (oi := { dst := some 76, op := Op.indexAddr 83 (Operand.tmp 73) (Operand.tmp 75), type := 0, pos := "ref.go:191", after := #[{ on := 7, ground := Ground.data }, { on := 9, ground := Ground.data }, { on := 2, ground := Ground.guard }], guard := some (2, true) }) (v := .pointer (some ⟨lb, m * 68, none⟩)) rfl (by kernel_rfl) (by kernel_rfl) (by kernel_rfl) (fun _ _ _ h => h) (Or.inl ⟨by simp [Region.wanted, yielded, rkids10_ops, tget z10 (by decide) t68], fun w1 hw => exec_indexAt rfl t73 t75 (G7 _)⟩) hHeld ?_
  change wpAnyH _ _ _ _ _ _ _ (a10.put (some 76) (.pointer (some ⟨lb, m * 68, none⟩))) _
  obtain ⟨a11, e11⟩ : ∃ act, act = a10.put (some 76) (.pointer (some ⟨lb, m * 68, none⟩)) := ⟨_, rfl⟩
  rw [← e11] at h ⊢
  have z11 : a11.tmps.size = 114 := by rw [e11, put_size]; exact z10
  replace t68 : a11.tmps.getD 68 undef = .bool true := by rw [e11, put_ne _ _ _ _ (by decide)]; exact t68
  replace t72 : a11.tmps.getD 72 undef = xv := by rw [e11, put_ne _ _ _ _ (by decide)]; exact t72
  clear t73
  clear t75
  have t76 : a11.tmps.getD 76 undef = .pointer (some ⟨lb, m * 68, none⟩) := by rw [e11]; exact put_same _ _ _ (by omega)
  clear e11 z10
  refine wpAnyH_take (i := 11) (oi := { dst := some 77, op := Op.load 114 (Operand.tmp 76), type := 114, pos := "ref.go:191", after := #[{ on := 10, ground := Ground.data }, { on := 2, ground := Ground.guard }], guard := some (2, true) }) (v := yv) rfl (by kernel_rfl) (by kernel_rfl) (by kernel_rfl) (fun _ _ _ h => h) (Or.inl ⟨by simp [Region.wanted, yielded, rkids10_ops, tget z11 (by decide) t68], fun w1 hw => exec_load rfl t76 (G8 _ hw)⟩) hHeld ?_
  change wpAnyH _ _ _ _ _ _ _ (a11.put (some 77) (yv)) _
  obtain ⟨a12, e12⟩ : ∃ act, act = a11.put (some 77) (yv) := ⟨_, rfl⟩
  rw [← e12] at h ⊢
  have z12 : a12.tmps.size = 114 := by rw [e12, put_size]; exact z11
  replace t68 : a12.tmps.getD 68 undef = .bool true := by rw [e12, put_ne _ _ _ _ (by decide)]; exact t68
  replace t72 : a12.tmps.getD 72 undef = xv := by rw [e12, put_ne _ _ _ _ (by decide)]; exact t72
  clear t76
  have t77 : a12.tmps.getD 77 undef = yv := by rw [e12]; exact put_same _ _ _ (by omega)
  clear e12 z11
  refine wpAnyH_ready (rs := [12]) (by kernel_rfl) (by simp) ?_
  refine AllReadyH.cons (o := { dst := some 78, op := Op.call { callee := Callee.value (Operand.func 78), args := #[Operand.tmp 72, Operand.tmp 77], argTypes := #[114, 114] }, type := 4, pos := "ref.go:191", after := #[{ on := 6, ground := Ground.data }, { on := 11, ground := Ground.data }, { on := 2, ground := Ground.chain }, { on := 2, ground := Ground.guard }], guard := some (2, true) }) rfl (fun K hK => ?_) AllReadyH.nil
  rw [if_pos (by simp [Region.wanted, yielded, rkids10_ops, tget z12 (by decide) t68])]
  go_simp
  refine (CA _ hHeld).mono ?_
  rintro e x13 ⟨rfl, l1⟩
  try go_wp2_with fail
  skip
  refine hK.out _ _ (HSK _ _ hHeld l1) (fun hHeld => ?_)
  clear hK K
  change wpAnyH _ _ _ _ _ _ _ (a12.put (some 78) (.bool q)) _
  obtain ⟨a13, e13⟩ : ∃ act, act = a12.put (some 78) (.bool q) := ⟨_, rfl⟩
  rw [← e13] at h ⊢
  have z13 : a13.tmps.size = 114 := by rw [e13, put_size]; exact z12
  replace t68 : a13.tmps.getD 68 undef = .bool true := by rw [e13, put_ne _ _ _ _ (by decide)]; exact t68
  clear t72
  clear t77
  have t78 : a13.tmps.getD 78 undef = .bool q := by rw [e13]; exact put_same _ _ _ (by omega)
  clear e13 z12
  refine wpAnyH_take (i := 13) (oi := { dst := some 79, op := Op.pick (Operand.tmp 68) (Operand.tmp 78) (Operand.const (Value.bool false)), type := 4, pos := "ref.go:191", after := #[{ on := 2, ground := Ground.data }, { on := 12, ground := Ground.data }], guard := none }) (v := .bool q) rfl (by kernel_rfl) (by kernel_rfl) (by kernel_rfl) (fun _ _ _ h => h) (Or.inl ⟨by rfl, fun w1 hw => by go_simp⟩) hHeld ?_
  change wpAnyH _ _ _ _ _ _ _ (a13.put (some 79) (.bool q)) _
  obtain ⟨a14, e14⟩ : ∃ act, act = a13.put (some 79) (.bool q) := ⟨_, rfl⟩
  rw [← e14] at h ⊢
  have z14 : a14.tmps.size = 114 := by rw [e14, put_size]; exact z13
  clear t68
  clear t78
  clear e14 z13
  exact wpAnyH_done (by kernel_rfl) (NoPanic.normal (h _ _ (hHeld) rfl)) _
def rkids10z_ops : Array Oper := #[{ dst := some 66, op := Op.move (Operand.tmp 7), type := 3, pos := "ref.go:191", after := #[], guard := none }, { dst := some 67, op := Op.binOp BinOp.gtr 3 (Operand.tmp 66) (Operand.const (Value.int IntKind.i64 0)) 3, type := 4, pos := "ref.go:191", after := #[{ on := 0, ground := Ground.data }], guard := none }, { dst := some 68, op := Op.move (Operand.tmp 67), type := 4, pos := "ref.go:191", after := #[{ on := 1, ground := Ground.data }], guard := none }, { dst := some 69, op := Op.move (Operand.tmp 5), type := 83, pos := "ref.go:191", after := #[{ on := 2, ground := Ground.guard }], guard := some (2, true) }, { dst := some 70, op := Op.move (Operand.tmp 7), type := 3, pos := "ref.go:191", after := #[{ on := 2, ground := Ground.guard }], guard := some (2, true) }, { dst := some 71, op := Op.indexAddr 83 (Operand.tmp 69) (Operand.tmp 70), type := 0, pos := "ref.go:191", after := #[{ on := 3, ground := Ground.data }, { on := 4, ground := Ground.data }, { on := 2, ground := Ground.guard }], guard := some (2, true) }, { dst := some 72, op := Op.load 114 (Operand.tmp 71), type := 114, pos := "ref.go:191", after := #[{ on := 5, ground := Ground.data }, { on := 2, ground := Ground.guard }], guard := some (2, true) }, { dst := some 73, op := Op.move (Operand.tmp 5), type := 83, pos := "ref.go:191", after := #[{ on := 2, ground := Ground.guard }], guard := some (2, true) }, { dst := some 74, op := Op.move (Operand.tmp 7), type := 3, pos := "ref.go:191", after := #[{ on := 2, ground := Ground.guard }], guard := some (2, true) }, { dst := some 75, op := Op.binOp BinOp.sub 3 (Operand.tmp 74) (Operand.const (Value.int IntKind.i64 1)) 3, type := 3, pos := "ref.go:191", after := #[{ on := 8, ground := Ground.data }, { on := 2, ground := Ground.guard }], guard := some (2, true) }, { dst := some 76, op := Op.indexAddr 83 (Operand.tmp 73) (Operand.tmp 75), type := 0, pos := "ref.go:191", after := #[{ on := 7, ground := Ground.data }, { on := 9, ground := Ground.data }, { on := 2, ground := Ground.guard }], guard := some (2, true) }, { dst := some 77, op := Op.load 114 (Operand.tmp 76), type := 114, pos := "ref.go:191", after := #[{ on := 10, ground := Ground.data }, { on := 2, ground := Ground.guard }], guard := some (2, true) }, { dst := some 78, op := Op.call { callee := Callee.value (Operand.func 78), args := #[Operand.tmp 72, Operand.tmp 77], argTypes := #[114, 114] }, type := 4, pos := "ref.go:191", after := #[{ on := 6, ground := Ground.data }, { on := 11, ground := Ground.data }, { on := 2, ground := Ground.chain }, { on := 2, ground := Ground.guard }], guard := some (2, true) }, { dst := some 79, op := Op.pick (Operand.tmp 68) (Operand.tmp 78) (Operand.const (Value.bool false)), type := 4, pos := "ref.go:191", after := #[{ on := 2, ground := Ground.data }, { on := 12, ground := Ground.data }], guard := none }]
set_option maxRecDepth 100000 in
set_option maxHeartbeats 4000000 in
theorem rkids10z (lv : Value) (S : World → Prop) (a : Act) (w : World) (Q : Exit → Act → World → Prop) (hsz : a.tmps.size = 114)
    (t5 : a.tmps.getD 5 undef = lv)
    (t7 : a.tmps.getD 7 undef = .int .i64 0)
    (h0 : S w.drew)
    (G1 : ∀ W, (eqGuard BinOp.gtr 3 (Operand.tmp 66) (Operand.const (Value.int IntKind.i64 0)) (.int .i64 0) (.int .i64 0)).run Try.prog W = .ok () W)
    (G2 : ∀ W, S W → (binOp BinOp.gtr 3 (.int .i64 0) (.int .i64 0)).run Try.prog W = .ok (.bool false) W)
    (h : ∀ (a' : Act) (w' : World), S w' → a' = ((((((((((((((a).put (some 66) (.int .i64 0)).put (some 67) (.bool false)).put (some 68) (.bool false)).put (some 69) (undef)).put (some 70) (undef)).put (some 71) (undef)).put (some 72) (undef)).put (some 73) (undef)).put (some 74) (undef)).put (some 75) (undef)).put (some 76) (undef)).put (some 77) (undef)).put (some 78) (undef)).put (some 79) (.bool false) → Q .normal a' w') :
    (Code.region 10 rkids10z_ops true).wp Try.prog Q a w := by
  refine wp_region_noPanic ?_
  refine wp_region_held_drew (S := fun w' => S w') (by kernel_rfl) (h0) (fun hHeld => ?_)
  refine wpAnyH_take (i := 0) (oi := { dst := some 66, op := Op.move (Operand.tmp 7), type := 3, pos := "ref.go:191", after := #[], guard := none }) (v := .int .i64 0) rfl (by kernel_rfl) (by kernel_rfl) (by kernel_rfl) (fun _ _ _ h => h) (Or.inl ⟨by rfl, fun w1 hw => exec_move rfl t7⟩) hHeld ?_
  change wpAnyH _ _ _ _ _ _ _ (a.put (some 66) (.int .i64 0)) _
  obtain ⟨a1, e1⟩ : ∃ act, act = a.put (some 66) (.int .i64 0) := ⟨_, rfl⟩
  rw [← e1] at h ⊢
  have z1 : a1.tmps.size = 114 := by rw [e1, put_size]; exact hsz
  replace t5 : a1.tmps.getD 5 undef = lv := by rw [e1, put_ne _ _ _ _ (by decide)]; exact t5
  replace t7 : a1.tmps.getD 7 undef = .int .i64 0 := by rw [e1, put_ne _ _ _ _ (by decide)]; exact t7
  have t66 : a1.tmps.getD 66 undef = .int .i64 0 := by rw [e1]; exact put_same _ _ _ (by omega)
  clear e1 hsz
  refine wpAnyH_take (i := 1) (oi := { dst := some 67, op := Op.binOp BinOp.gtr 3 (Operand.tmp 66) (Operand.const (Value.int IntKind.i64 0)) 3, type := 4, pos := "ref.go:191", after := #[{ on := 0, ground := Ground.data }], guard := none }) (v := .bool false) rfl (by kernel_rfl) (by kernel_rfl) (by kernel_rfl) (fun _ _ _ h => h) (Or.inl ⟨by rfl, fun w1 hw => exec_binOp rfl t66 rfl (G1 _) (G2 _ hw)⟩) hHeld ?_
  change wpAnyH _ _ _ _ _ _ _ (a1.put (some 67) (.bool false)) _
  obtain ⟨a2, e2⟩ : ∃ act, act = a1.put (some 67) (.bool false) := ⟨_, rfl⟩
  rw [← e2] at h ⊢
  have z2 : a2.tmps.size = 114 := by rw [e2, put_size]; exact z1
  replace t5 : a2.tmps.getD 5 undef = lv := by rw [e2, put_ne _ _ _ _ (by decide)]; exact t5
  replace t7 : a2.tmps.getD 7 undef = .int .i64 0 := by rw [e2, put_ne _ _ _ _ (by decide)]; exact t7
  clear t66
  have t67 : a2.tmps.getD 67 undef = .bool false := by rw [e2]; exact put_same _ _ _ (by omega)
  clear e2 z1
  refine wpAnyH_take (i := 2) (oi := { dst := some 68, op := Op.move (Operand.tmp 67), type := 4, pos := "ref.go:191", after := #[{ on := 1, ground := Ground.data }], guard := none }) (v := .bool false) rfl (by kernel_rfl) (by kernel_rfl) (by kernel_rfl) (fun _ _ _ h => h) (Or.inl ⟨by rfl, fun w1 hw => exec_move rfl t67⟩) hHeld ?_
  change wpAnyH _ _ _ _ _ _ _ (a2.put (some 68) (.bool false)) _
  obtain ⟨a3, e3⟩ : ∃ act, act = a2.put (some 68) (.bool false) := ⟨_, rfl⟩
  rw [← e3] at h ⊢
  have z3 : a3.tmps.size = 114 := by rw [e3, put_size]; exact z2
  replace t5 : a3.tmps.getD 5 undef = lv := by rw [e3, put_ne _ _ _ _ (by decide)]; exact t5
  replace t7 : a3.tmps.getD 7 undef = .int .i64 0 := by rw [e3, put_ne _ _ _ _ (by decide)]; exact t7
  clear t67
  have t68 : a3.tmps.getD 68 undef = .bool false := by rw [e3]; exact put_same _ _ _ (by omega)
  clear e3 z2
  refine wpAnyH_take (i := 3) (oi := { dst := some 69, op := Op.move (Operand.tmp 5), type := 83, pos := "ref.go:191", after := #[{ on := 2, ground := Ground.guard }], guard := some (2, true) }) (v := undef) rfl (by kernel_rfl) (by kernel_rfl) (by kernel_rfl) (fun _ _ _ h => h) (Or.inr ⟨by simp [Region.wanted, yielded, rkids10z_ops, tget z3 (by decide) t68], rfl⟩) hHeld ?_
  change wpAnyH _ _ _ _ _ _ _ (a3.put (some 69) (undef)) _
  obtain ⟨a4, e4⟩ : ∃ act, act = a3.put (some 69) (undef) := ⟨_, rfl⟩
  rw [← e4] at h ⊢
  have z4 : a4.tmps.size = 114 := by rw [e4, put_size]; exact z3
  replace t5 : a4.tmps.getD 5 undef = lv := by rw [e4, put_ne _ _ _ _ (by decide)]; exact t5
  replace t7 : a4.tmps.getD 7 undef = .int .i64 0 := by rw [e4, put_ne _ _ _ _ (by decide)]; exact t7
  replace t68 : a4.tmps.getD 68 undef = .bool false := by rw [e4, put_ne _ _ _ _ (by decide)]; exact t68
  have t69 : a4.tmps.getD 69 undef = undef := by rw [e4]; exact put_same _ _ _ (by omega)
  clear e4 z3
  refine wpAnyH_take (i := 4) (oi := { dst := some 70, op := Op.move (Operand.tmp 7), type := 3, pos := "ref.go:191", after := #[{ on := 2, ground := Ground.guard }], guard := some (2, true) }) (v := undef) rfl (by kernel_rfl) (by kernel_rfl) (by kernel_rfl) (fun _ _ _ h => h) (Or.inr ⟨by simp [Region.wanted, yielded, rkids10z_ops, tget z4 (by decide) t68], rfl⟩) hHeld ?_
  change wpAnyH _ _ _ _ _ _ _ (a4.put (some 70) (undef)) _
  obtain ⟨a5, e5⟩ : ∃ act, act = a4.put (some 70) (undef) := ⟨_, rfl⟩
  rw [← e5] at h ⊢
  have z5 : a5.tmps.size = 114 := by rw [e5, put_size]; exact z4
  replace t5 : a5.tmps.getD 5 undef = lv := by rw [e5, put_ne _ _ _ _ (by decide)]; exact t5
  replace t7 : a5.tmps.getD 7 undef = .int .i64 0 := by rw [e5, put_ne _ _ _ _ (by decide)]; exact t7
  replace t68 : a5.tmps.getD 68 undef = .bool false := by rw [e5, put_ne _ _ _ _ (by decide)]; exact t68
  replace t69 : a5.tmps.getD 69 undef = undef := by rw [e5, put_ne _ _ _ _ (by decide)]; exact t69
  have t70 : a5.tmps.getD 70 undef = undef := by rw [e5]; exact put_same _ _ _ (by omega)
  clear e5 z4
  refine wpAnyH_take (i := 5) (oi := { dst := some 71, op := Op.indexAddr 83 (Operand.tmp 69) (Operand.tmp 70), type := 0, pos := "ref.go:191", after := #[{ on := 3, ground := Ground.data }, { on := 4, ground := Ground.data }, { on := 2, ground := Ground.guard }], guard := some (2, true) }) (v := undef) rfl (by kernel_rfl) (by kernel_rfl) (by kernel_rfl) (fun _ _ _ h => h) (Or.inr ⟨by simp [Region.wanted, yielded, rkids10z_ops, tget z5 (by decide) t68], rfl⟩) hHeld ?_
  change wpAnyH _ _ _ _ _ _ _ (a5.put (some 71) (undef)) _
  obtain ⟨a6, e6⟩ : ∃ act, act = a5.put (some 71) (undef) := ⟨_, rfl⟩
  rw [← e6] at h ⊢
  have z6 : a6.tmps.size = 114 := by rw [e6, put_size]; exact z5
  replace t5 : a6.tmps.getD 5 undef = lv := by rw [e6, put_ne _ _ _ _ (by decide)]; exact t5
  replace t7 : a6.tmps.getD 7 undef = .int .i64 0 := by rw [e6, put_ne _ _ _ _ (by decide)]; exact t7
  replace t68 : a6.tmps.getD 68 undef = .bool false := by rw [e6, put_ne _ _ _ _ (by decide)]; exact t68
  clear t69
  clear t70
  have t71 : a6.tmps.getD 71 undef = undef := by rw [e6]; exact put_same _ _ _ (by omega)
  clear e6 z5
  refine wpAnyH_take (i := 6) (oi := { dst := some 72, op := Op.load 114 (Operand.tmp 71), type := 114, pos := "ref.go:191", after := #[{ on := 5, ground := Ground.data }, { on := 2, ground := Ground.guard }], guard := some (2, true) }) (v := undef) rfl (by kernel_rfl) (by kernel_rfl) (by kernel_rfl) (fun _ _ _ h => h) (Or.inr ⟨by simp [Region.wanted, yielded, rkids10z_ops, tget z6 (by decide) t68], rfl⟩) hHeld ?_
  change wpAnyH _ _ _ _ _ _ _ (a6.put (some 72) (undef)) _
  obtain ⟨a7, e7⟩ : ∃ act, act = a6.put (some 72) (undef) := ⟨_, rfl⟩
  rw [← e7] at h ⊢
  have z7 : a7.tmps.size = 114 := by rw [e7, put_size]; exact z6
  replace t5 : a7.tmps.getD 5 undef = lv := by rw [e7, put_ne _ _ _ _ (by decide)]; exact t5
  replace t7 : a7.tmps.getD 7 undef = .int .i64 0 := by rw [e7, put_ne _ _ _ _ (by decide)]; exact t7
  replace t68 : a7.tmps.getD 68 undef = .bool false := by rw [e7, put_ne _ _ _ _ (by decide)]; exact t68
  clear t71
  have t72 : a7.tmps.getD 72 undef = undef := by rw [e7]; exact put_same _ _ _ (by omega)
  clear e7 z6
  refine wpAnyH_take (i := 7) (oi := { dst := some 73, op := Op.move (Operand.tmp 5), type := 83, pos := "ref.go:191", after := #[{ on := 2, ground := Ground.guard }], guard := some (2, true) }) (v := undef) rfl (by kernel_rfl) (by kernel_rfl) (by kernel_rfl) (fun _ _ _ h => h) (Or.inr ⟨by simp [Region.wanted, yielded, rkids10z_ops, tget z7 (by decide) t68], rfl⟩) hHeld ?_
  change wpAnyH _ _ _ _ _ _ _ (a7.put (some 73) (undef)) _
  obtain ⟨a8, e8⟩ : ∃ act, act = a7.put (some 73) (undef) := ⟨_, rfl⟩
  rw [← e8] at h ⊢
  have z8 : a8.tmps.size = 114 := by rw [e8, put_size]; exact z7
  clear t5
  replace t7 : a8.tmps.getD 7 undef = .int .i64 0 := by rw [e8, put_ne _ _ _ _ (by decide)]; exact t7
  replace t68 : a8.tmps.getD 68 undef = .bool false := by rw [e8, put_ne _ _ _ _ (by decide)]; exact t68
  replace t72 : a8.tmps.getD 72 undef = undef := by rw [e8, put_ne _ _ _ _ (by decide)]; exact t72
  have t73 : a8.tmps.getD 73 undef = undef := by rw [e8]; exact put_same _ _ _ (by omega)
  clear e8 z7
  refine wpAnyH_take (i := 8) (oi := { dst := some 74, op := Op.move (Operand.tmp 7), type := 3, pos := "ref.go:191", after := #[{ on := 2, ground := Ground.guard }], guard := some (2, true) }) (v := undef) rfl (by kernel_rfl) (by kernel_rfl) (by kernel_rfl) (fun _ _ _ h => h) (Or.inr ⟨by simp [Region.wanted, yielded, rkids10z_ops, tget z8 (by decide) t68], rfl⟩) hHeld ?_
  change wpAnyH _ _ _ _ _ _ _ (a8.put (some 74) (undef)) _
  obtain ⟨a9, e9⟩ : ∃ act, act = a8.put (some 74) (undef) := ⟨_, rfl⟩
  rw [← e9] at h ⊢
  have z9 : a9.tmps.size = 114 := by rw [e9, put_size]; exact z8
  clear t7
  replace t68 : a9.tmps.getD 68 undef = .bool false := by rw [e9, put_ne _ _ _ _ (by decide)]; exact t68
  replace t72 : a9.tmps.getD 72 undef = undef := by rw [e9, put_ne _ _ _ _ (by decide)]; exact t72
  replace t73 : a9.tmps.getD 73 undef = undef := by rw [e9, put_ne _ _ _ _ (by decide)]; exact t73
  have t74 : a9.tmps.getD 74 undef = undef := by rw [e9]; exact put_same _ _ _ (by omega)
  clear e9 z8
  refine wpAnyH_take (i := 9) (oi := { dst := some 75, op := Op.binOp BinOp.sub 3 (Operand.tmp 74) (Operand.const (Value.int IntKind.i64 1)) 3, type := 3, pos := "ref.go:191", after := #[{ on := 8, ground := Ground.data }, { on := 2, ground := Ground.guard }], guard := some (2, true) }) (v := undef) rfl (by kernel_rfl) (by kernel_rfl) (by kernel_rfl) (fun _ _ _ h => h) (Or.inr ⟨by simp [Region.wanted, yielded, rkids10z_ops, tget z9 (by decide) t68], rfl⟩) hHeld ?_
  change wpAnyH _ _ _ _ _ _ _ (a9.put (some 75) (undef)) _
  obtain ⟨a10, e10⟩ : ∃ act, act = a9.put (some 75) (undef) := ⟨_, rfl⟩
  rw [← e10] at h ⊢
  have z10 : a10.tmps.size = 114 := by rw [e10, put_size]; exact z9
  replace t68 : a10.tmps.getD 68 undef = .bool false := by rw [e10, put_ne _ _ _ _ (by decide)]; exact t68
  replace t72 : a10.tmps.getD 72 undef = undef := by rw [e10, put_ne _ _ _ _ (by decide)]; exact t72
  replace t73 : a10.tmps.getD 73 undef = undef := by rw [e10, put_ne _ _ _ _ (by decide)]; exact t73
  clear t74
  have t75 : a10.tmps.getD 75 undef = undef := by rw [e10]; exact put_same _ _ _ (by omega)
  clear e10 z9
  refine wpAnyH_take (i := 10) (oi := { dst := some 76, op := Op.indexAddr 83 (Operand.tmp 73) (Operand.tmp 75), type := 0, pos := "ref.go:191", after := #[{ on := 7, ground := Ground.data }, { on := 9, ground := Ground.data }, { on := 2, ground := Ground.guard }], guard := some (2, true) }) (v := undef) rfl (by kernel_rfl) (by kernel_rfl) (by kernel_rfl) (fun _ _ _ h => h) (Or.inr ⟨by simp [Region.wanted, yielded, rkids10z_ops, tget z10 (by decide) t68], rfl⟩) hHeld ?_
  change wpAnyH _ _ _ _ _ _ _ (a10.put (some 76) (undef)) _
  obtain ⟨a11, e11⟩ : ∃ act, act = a10.put (some 76) (undef) := ⟨_, rfl⟩
  rw [← e11] at h ⊢
  have z11 : a11.tmps.size = 114 := by rw [e11, put_size]; exact z10
  replace t68 : a11.tmps.getD 68 undef = .bool false := by rw [e11, put_ne _ _ _ _ (by decide)]; exact t68
  replace t72 : a11.tmps.getD 72 undef = undef := by rw [e11, put_ne _ _ _ _ (by decide)]; exact t72
  clear t73
  clear t75
  have t76 : a11.tmps.getD 76 undef = undef := by rw [e11]; exact put_same _ _ _ (by omega)
  clear e11 z10
  refine wpAnyH_take (i := 11) (oi := { dst := some 77, op := Op.load 114 (Operand.tmp 76), type := 114, pos := "ref.go:191", after := #[{ on := 10, ground := Ground.data }, { on := 2, ground := Ground.guard }], guard := some (2, true) }) (v := undef) rfl (by kernel_rfl) (by kernel_rfl) (by kernel_rfl) (fun _ _ _ h => h) (Or.inr ⟨by simp [Region.wanted, yielded, rkids10z_ops, tget z11 (by decide) t68], rfl⟩) hHeld ?_
  change wpAnyH _ _ _ _ _ _ _ (a11.put (some 77) (undef)) _
  obtain ⟨a12, e12⟩ : ∃ act, act = a11.put (some 77) (undef) := ⟨_, rfl⟩
  rw [← e12] at h ⊢
  have z12 : a12.tmps.size = 114 := by rw [e12, put_size]; exact z11
  replace t68 : a12.tmps.getD 68 undef = .bool false := by rw [e12, put_ne _ _ _ _ (by decide)]; exact t68
  replace t72 : a12.tmps.getD 72 undef = undef := by rw [e12, put_ne _ _ _ _ (by decide)]; exact t72
  clear t76
  have t77 : a12.tmps.getD 77 undef = undef := by rw [e12]; exact put_same _ _ _ (by omega)
  clear e12 z11
  refine wpAnyH_take (i := 12) (oi := { dst := some 78, op := Op.call { callee := Callee.value (Operand.func 78), args := #[Operand.tmp 72, Operand.tmp 77], argTypes := #[114, 114] }, type := 4, pos := "ref.go:191", after := #[{ on := 6, ground := Ground.data }, { on := 11, ground := Ground.data }, { on := 2, ground := Ground.chain }, { on := 2, ground := Ground.guard }], guard := some (2, true) }) (v := undef) rfl (by kernel_rfl) (by kernel_rfl) (by kernel_rfl) (fun _ _ _ h => h) (Or.inr ⟨by simp [Region.wanted, yielded, rkids10z_ops, tget z12 (by decide) t68], rfl⟩) hHeld ?_
  change wpAnyH _ _ _ _ _ _ _ (a12.put (some 78) (undef)) _
  obtain ⟨a13, e13⟩ : ∃ act, act = a12.put (some 78) (undef) := ⟨_, rfl⟩
  rw [← e13] at h ⊢
  have z13 : a13.tmps.size = 114 := by rw [e13, put_size]; exact z12
  replace t68 : a13.tmps.getD 68 undef = .bool false := by rw [e13, put_ne _ _ _ _ (by decide)]; exact t68
  clear t72
  clear t77
  have t78 : a13.tmps.getD 78 undef = undef := by rw [e13]; exact put_same _ _ _ (by omega)
  clear e13 z12
  refine wpAnyH_take (i := 13) (oi := { dst := some 79, op := Op.pick (Operand.tmp 68) (Operand.tmp 78) (Operand.const (Value.bool false)), type := 4, pos := "ref.go:191", after := #[{ on := 2, ground := Ground.data }, { on := 12, ground := Ground.data }], guard := none }) (v := .bool false) rfl (by kernel_rfl) (by kernel_rfl) (by kernel_rfl) (fun _ _ _ h => h) (Or.inl ⟨by rfl, fun w1 hw => by go_simp⟩) hHeld ?_
  change wpAnyH _ _ _ _ _ _ _ (a13.put (some 79) (.bool false)) _
  obtain ⟨a14, e14⟩ : ∃ act, act = a13.put (some 79) (.bool false) := ⟨_, rfl⟩
  rw [← e14] at h ⊢
  have z14 : a14.tmps.size = 114 := by rw [e14, put_size]; exact z13
  clear t68
  clear t78
  clear e14 z13
  exact wpAnyH_done (by kernel_rfl) (NoPanic.normal (h _ _ (hHeld) rfl)) _
end Go.Proofs.Ytoofljkgdjjllaa

namespace Go.Proofs.Ytoofljkgdjjllaa
open Go.RowKit
set_option linter.unusedVariables false
set_option linter.unusedSimpArgs false

def ltN (x y : RN) : Prop := cKid (kOf x) (kOf y) < 0
def Srt (L : List RN) : Prop := L.Pairwise ltN
theorem ltN_trans {x y z : RN} (hx : RnOk x) (hy : RnOk y) (hz : RnOk z) (h1 : ltN x y) (h2 : ltN y z) : ltN x z := by
  unfold ltN at *
  exact to_kidP.lt (kidP (kOf x) hx.k) (kidP (kOf y) hy.k) (kidP (kOf z) hz.k) (by show cKid (kOf x) (kOf y) ≤ 0; omega) (by show cKid (kOf y) (kOf z) ≤ 0; omega) (Or.inl h1)
theorem ltN_of_not {x z : RN} (hx : RnOk x) (hz : RnOk z) (hne : z.1 ≠ x.1) (h : ¬ ltN x z) : ltN z x := by
  unfold ltN at *
  have h1 := cKid_anti (x := kOf x) (y := kOf z) hx.k hz.k
  have h2 : cKid (kOf z) (kOf x) ≠ 0 := fun e => hne (cKid_zero (x := kOf z) (y := kOf x) hz.k hx.k e)
  omega
theorem ins_sorted {A B : List RN} {x : RN} (ok : ∀ y ∈ A ++ B, RnOk y) (hx : RnOk x) (hs : Srt (A ++ B)) (hB : ∀ b ∈ B, ltN x b) (hne : ∀ a ∈ A, a.1 ≠ x.1) (hA : A = [] ∨ ∃ A' z, A = A' ++ [z] ∧ ¬ ltN x z) : Srt (A ++ x :: B) := by
  unfold Srt at *
  rw [List.pairwise_append] at hs
  rw [List.pairwise_append, List.pairwise_cons]
  have hax : ∀ a ∈ A, ltN a x := by
    rcases hA with rfl | ⟨A', z, rfl, hz⟩
    · intro a ha; cases ha
    · have hzo : RnOk z := ok z (by simp)
      have hzx := ltN_of_not hx hzo (hne z (by simp)) hz
      intro a ha
      rcases List.mem_append.1 ha with ha | ha
      · have h1 := (List.pairwise_append.1 hs.1).2.2 a ha z (by simp)
        exact ltN_trans (ok a (by simp [ha])) hzo hx h1 hzx
      · simp at ha; subst ha; exact hzx
  refine ⟨hs.1, ⟨hB, hs.2.1⟩, fun a ha b hb => ?_⟩
  rcases List.mem_cons.1 hb with rfl | hb
  · exact hax a ha
  · exact hs.2.2 a ha b hb
/-- The nodes under one. -/
def selN (k : IdK) (L : List RN) : List RN := L.filter fun p => !p.2.pr && decide (p.2.u = k)
theorem sel_next {NL : List RN} {i : Nat} {p : RN} (k : IdK) (h : NL[i]? = some p) : selN k (NL.take (i + 1)) = selN k (NL.take i) ++ selN k [p] := by
  rw [List.take_add_one, h]
  unfold selN
  rw [List.filter_append]
  rfl
theorem kids_sel {NL : List RN} (hn : (NL.map (·.1)).Nodup) (ok : ∀ p ∈ NL, RnOk p) {k : IdK} {L : List RN} (hp : L.Perm (selN k NL)) (hs : Srt L) : IsKids (lookN NL) k (L.map (·.1)) := by
  have hmem : ∀ p, p ∈ L ↔ p ∈ NL ∧ p.2.pr = false ∧ p.2.u = k := fun p => by
    rw [hp.mem_iff, selN, List.mem_filter]
    simp
  have hlook : ∀ p ∈ L, lookN NL p.1 = some p.2 := fun p hp' => M.look_of_mem hn ((hmem p).1 hp').1
  refine ⟨fun x => ⟨fun hx => ?_, fun hx => ?_⟩, ?_, fun x hx => ?_⟩
  · obtain ⟨p, hp', rfl⟩ := List.mem_map.1 hx
    have h1 := (hmem p).1 hp'
    exact ⟨p.2, hlook p hp', h1.2.1, h1.2.2⟩
  · obtain ⟨n, h1, h2, h3⟩ := hx
    exact List.mem_map.2 ⟨(x, n), (hmem _).2 ⟨M.look_mem h1, h2, h3⟩, rfl⟩
  · rw [List.pairwise_map]
    refine List.Pairwise.imp_of_mem (fun {a b} ha hb hlt => ?_) hs
    have e1 : kidF (lookN NL) a.1 = kOf a := by unfold kidF nd kOf; rw [hlook a ha]; rfl
    have e2 : kidF (lookN NL) b.1 = kOf b := by unfold kidF nd kOf; rw [hlook b hb]; rfl
    rw [e1, e2]
    exact hlt
  · obtain ⟨p, hp', rfl⟩ := List.mem_map.1 hx
    exact (ok p ((hmem p).1 hp').1).k
theorem load_rn_at {w : World} {b o : Nat} {p : RN} (hp : RnOk p) (h : w.rangeAt b o (rnC p)) : (Instr.loadAt 114 (.pointer (some ⟨b, o, none⟩))).run Try.prog w = .ok (.agg (rnC p).toArray) w :=
  run_loadAt_mid (P := Try.prog) w b o 114 (rnC p) _ h Try.underlying114 rfl (by rw [rn_len hp]; exact szRn)
theorem zeroRn (w : World) : (zeroValue 114).run Try.prog w = .ok (.agg (rnC zRn).toArray) w := by kernel_rfl
theorem rn_new (w : World) (x : RN) (hx : RnOk x) : ∃ w1, (Instr.alloc 114 true (.tuple #[])).run Try.prog w = .ok (.pointer (some ⟨w.heap.size, 0, none⟩)) w1 ∧ (Instr.storeAt 114 (.pointer (some ⟨w.heap.size, 0, none⟩)) (.agg (rnC x).toArray)).run Try.prog w1 = .ok () (w.alloc (.cells (rnC x).toArray 114)) := by
  have e1 : (Instr.alloc 114 true (.tuple #[])).run Try.prog w = .ok (.pointer (some ⟨w.heap.size, 0, none⟩)) (w.alloc (.cells (rnC zRn).toArray 114)) := by
    simp only [Instr.alloc, newVar, newRow, newObj, Sem.run_bind, zeroRn, Result.andThen_ok, Value.cells]
    rfl
  have e2 := run_storeVar_row (P := Try.prog) (w.alloc (.cells (rnC zRn).toArray 114)) w.heap.size 114 114 (rnC zRn).toArray (rnC x).toArray (heap_alloc_new _ _) (by rw [List.size_toArray, rn_len hx]; exact szRn)
    (by rw [List.size_toArray, List.size_toArray, rn_len hx, rn_len zRn_ok]) (by rw [List.all_toArray, List.all_eq_true]; exact rn_one x)
  rw [World.setRow_alloc_new] at e2
  refine ⟨_, e1, ?_⟩
  simp only [Instr.storeAt, Instr.sureAddr, Sem.run_bind, Sem.run_pure, Result.andThen_ok, e2]
theorem ix_rn0 {b n c i : Nat} (h : i < n) (hn : n ≤ 9223372036854775807) (w : World) : (Instr.indexAt 83 (.slice (some ⟨b, 0, none⟩) n c) (.int .i64 (i : Int))).run Try.prog w = .ok (.pointer (some ⟨b, i * 68, none⟩)) w := by go_simp
theorem gtr0 {kk : Nat} (h : 0 < kk) (w : World) : (binOp .gtr 3 (.int .i64 (kk : Int)) (.int .i64 0)).run Try.prog w = .ok (.bool true) w := by
  have h1 : (0 : Int) < (kk : Int) := by omega
  go_simp
theorem sub1 {kk m : Nat} (h : wrap64 ((kk : Int) - 1) = (m : Int)) (w : World) : (binOp .sub 3 (.int .i64 (kk : Int)) (.int .i64 1)).run Try.prog w = .ok (.int .i64 (m : Int)) w := by
  have h1 : IntKind.i64.wrap ((kk : Int) - 1) = (m : Int) := by rw [← h, IntKind.wrap_i64]; unfold wrap64; omega
  go_simp
theorem set_swap {A B : List RN} {z p : RN} {m : Nat} (hm : A.length = m) : ((A.concat z ++ p :: B).set (m + 1) z).set m p = A ++ p :: (z :: B) := by
  have e : A.concat z ++ p :: B = A ++ (z :: p :: B) := by simp
  rw [e, ← hm, List.set_append_right _ _ (by omega), show A.length + 1 - A.length = 1 by omega, List.set_append_right _ _ (by omega), Nat.sub_self]
  rfl
theorem OwnI.base {w : World} {b b' : Nat} {v : Value} {L : List IdK} (h : OwnI w b v L) (hb : b' ≤ b) : OwnI w b' v L := by
  refine ⟨h.1, ?_⟩
  rcases h.2 with q | ⟨g, cap, cur, e, hbg, rest⟩
  · exact .inl q
  · exact .inr ⟨g, cap, cur, e, Nat.le_trans hb hbg, rest⟩
/-- A node of one's own row. -/
theorem own_getN {w : World} {base g n cap : Nat} {L : List RN} (own : OwnN w base (.slice (some ⟨g, 0, none⟩) n cap) L) (ok : ∀ x ∈ L, RnOk x) : L.length = n ∧ ∀ i x, L[i]? = some x → w.rangeAt g (i * 68) (rnC x) := by
  obtain ⟨a, c, e, h2, _⟩ := own.open ok
  simp only [Value.slice.injEq] at e
  obtain ⟨rfl, rfl, _⟩ := e
  refine ⟨rfl, fun i x hx => ?_⟩
  rcases h2 with rfl | ⟨b, off, e, _, h3⟩
  · simp at hx
  · simp only [Option.some.injEq, Addr.mk.injEq] at e
    obtain ⟨rfl, rfl, _⟩ := e
    have := h3 i x hx
    rwa [Nat.zero_add, Nat.mul_comm] at this
section
variable (d : Nat) (NL : List RN) (pv : Value)
set_option maxRecDepth 100000 in
set_option maxHeartbeats 4000000 in
theorem rkids_any (k : IdK) (w : World) (h : RefAt w d NL pv) (hk : k.ok) (hn : NL.length ≤ 1300000000000) (hf : Forest (lookN NL)) :
    Calls Try.prog 36 #[.pointer (some ⟨d, 0, none⟩), k.v] w fun e w' => ∃ v L, e = .returned v ∧ OwnI w' w.heap.size v L ∧ IsKids (lookN NL) k L ∧ Below w.heap.size w w' := by
  have lt := h.lt
  have HH := hidMk (fun (W : World) (b : Below w.heap.size w W) => rhas_any d NL pv k W (h.below b) hk hn)
  obtain ⟨a, c, hc, hrow⟩ := h.cell
  obtain ⟨n, hnn⟩ : ∃ n, NL.length = n := ⟨_, rfl⟩
  have C0 : w.cell? ⟨d, 0, none⟩ = some (.slice a n c) := by rw [← hnn, cell_of_row _ _ 0 _ _ _ hc]; rfl
  have HC := hidMk (fun (W : World) (b : Below w.heap.size w W) => (b.cell (p := ⟨d, 0, none⟩) lt).trans C0)
  have HROW := hidMk hrow
  have HNn := hidMk hnn
  have hbig : n ≤ 1300000000000 := by omega
  clear hc C0 hn hnn hrow
  unfold IdK.v
  go_enter Try.func36, Try.ntmps36
  obtain ⟨hx, bx, zx⟩ := box_id w k
  have ZX := hidMk zx
  clear zx
  go_upto_region 1 with fail
  generalize w.alloc (.cells k.c.toArray 37) = W at *
  have HL := hidMk (fun (V : World) (b : Below W.heap.size W V) => load_id hk ((b.block _ (by have := ZX.out; omega)).trans hx))
  by_cases hout : k ≠ zId ∧ (lookN NL k).isSome = false
  · have hq : ∀ V : World, (binOp .neq 37 k.v zId.v).run Try.prog V = .ok (.bool true) V := fun V => by rw [neq_id k zId hk zId_ok, decide_eq_false hout.1]; rfl
    have HO := hidMk hout
    rw [hout.2] at HH
    clear hout
    go_wp2_with (first
      | (refine wpList_val rfl (exec_load (t := 37) (u := .pointer (some ⟨w.heap.size, 0, none⟩)) rfl rfl (HL.out _ (Below.refl _ _))) ?_)
      | (refine wpList_val rfl (exec_build0 rfl (build_id _)) ?_)
      | (refine wpList_val rfl (exec_binOp (xv := k.v) (yv := zId.v) rfl rfl rfl (guard_id _ _ k zId _ _) (hq _)) ?_)
      | (go_at_call 74; refine (HH.out _ bx).mono ?_; rintro e w1 ⟨rfl, b1⟩)
      | fail)
    go_ret
    refine ⟨_, [], rfl, ⟨rfl, Or.inl ⟨rfl, rfl⟩⟩, kids_no (fun y hy => ?_), bx.trans (b1.mono bx.size)⟩
    obtain ⟨m, h1, h2, h3⟩ := hy
    have := hf.under y m h1 h2 (by rw [h3]; exact HO.out.1)
    rw [h3, HO.out.2] at this
    cases this
  · have hin : k = zId ∨ (lookN NL k).isSome = true := by
      by_cases e : k = zId
      · exact Or.inl e
      · refine Or.inr ?_
        cases q : (lookN NL k).isSome with
        | true => rfl
        | false => exact absurd ⟨e, q⟩ hout
    clear hout
    have own0 : ∀ V : World, OwnN V W.heap.size (.slice none 0 0) [] := fun V => ⟨rfl, Or.inl ⟨rfl, rfl⟩⟩
    rcases hin with hin | hin
    · have hq : ∀ V : World, (binOp .neq 37 k.v zId.v).run Try.prog V = .ok (.bool false) V := fun V => by rw [neq_id k zId hk zId_ok, decide_eq_true hin]; rfl
      clear hin
      go_upto_region 4 with (first
        | (refine wpList_val rfl (exec_load (t := 37) (u := .pointer (some ⟨w.heap.size, 0, none⟩)) rfl rfl (HL.out _ (Below.refl _ _))) ?_)
        | (refine wpList_val rfl (exec_build0 rfl (build_id _)) ?_)
        | (refine wpList_val rfl (exec_binOp (xv := k.v) (yv := zId.v) rfl rfl rfl (guard_id _ _ k zId _ _) (hq _)) ?_)
        | fail)
      have b1 := Below.refl W.heap.size W
      clear hq
      go_wp2
      go_loopw [5, 6] (fun v5 v6 wr => ∃ (i : Nat) (L : List RN), v6 = .int .i64 (i : Int) ∧ i ≤ n ∧ OwnN wr W.heap.size v5 L ∧ L.Perm (selN k (NL.take i)) ∧ Srt L ∧ Below W.heap.size W wr) (fun v5 v6 wr => n - (match v6 with | .int _ i => i.toNat | _ => 0))
      case atStart => exact ⟨0, [], rfl, Nat.zero_le _, own0 _, List.Perm.refl _, List.Pairwise.nil, b1⟩
      case round =>
        clear b1
        obtain ⟨i, L, rfl, hin, own, hper, hsrt, belW⟩ := hrel
        have bw : ∀ V, Below W.heap.size W V → Below w.heap.size w V := fun V b => bx.trans (b.mono bx.size)
        have c0 := HC.out wr (bw _ belW)
        have hN := HNn.out
        have hmemL : ∀ y ∈ L, y ∈ NL.take i := fun y hy => by have := hper.mem_iff.1 hy; unfold selN at this; exact (List.mem_filter.1 this).1
        have hokL : ∀ y ∈ L, RnOk y := fun y hy => h.ok y (List.mem_of_mem_take (hmemL y hy))
        have hLl : L.length ≤ n := by
          have h1 := hper.length_eq
          have h2 : (selN k (NL.take i)).length ≤ (NL.take i).length := List.length_filter_le _ _
          rw [List.length_take] at h2
          omega
        by_cases hi : i < n
        · have hxi : NL[i]? = some NL[i] := List.getElem?_eq_getElem (by omega)
          generalize NL[i] = p at hxi
          have hpo := h.ok p (List.mem_of_getElem? hxi)
          obtain ⟨b, o, rfl, lb, hr⟩ : ∃ b o, a = some ⟨b, o, none⟩ ∧ b < w.heap.size ∧ w.rangeAt b (o + i * 68) (rnC p) := by
            rcases HROW.out with e | ⟨b, o, e, h1, h2⟩
            · rw [e] at hxi; simp at hxi
            · exact ⟨b, o, e, h1, h2 i p hxi⟩
          have HR := hidMk (fun (V : World) (bb : Below W.heap.size W V) => rangeAt_keep hr ((bw V bb).block _ lb))
          have hnx := sel_next k hxi
          have HXI := hidMk hxi
          have HOW := hidMk own
          have HPE := hidMk hper
          have HSR := hidMk hsrt
          have HML := hidMk hmemL
          clear hxi own hper hsrt hmemL hr hN
          go_upto_region 7 with fail
          clear c0
          have beld : Below wr.heap.size wr wr.drew := (Below.refl _ _).drew
          have bwr : ∀ V, Below wr.heap.size wr V → Below W.heap.size W V := fun V b => belW.trans (b.mono belW.size)
          cases hp : p.2.pr with
          | true =>
            have hnx2 : selN k (NL.take (i + 1)) = selN k (NL.take i) := by rw [hnx]; simp [selN, hp]
            have HNX := hidMk hnx2
            clear hnx hnx2
            refine rkids7p d w.heap.size b o n c i (fun V => Below wr.heap.size wr V) _ wr _ rfl rfl rfl rfl beld (fun V hV => load_ns (HC.out V (bw V (bwr V hV)))) (fun V => ix_rn hi (by omega) V) (fun V hV => by rw [← hp]; exact rn_pr hpo (HR.out V (bwr V hV))) ?_
            intro a' w' hw' ha
            subst ha
            simp only [Act.put, List.setIfInBounds_toArray, List.set_cons_zero, List.set_cons_succ]
            have own' : Hid (OwnN w' W.heap.size u5 L) := HOW.out.below hw'
            have bel' := bwr _ hw'
            go_wp2
            rw [show ((i : Int) + 1) = ((i + 1 : Nat) : Int) by omega]
            refine ⟨⟨i + 1, L, rfl, hi, own'.out, by rw [HNX.out]; exact HPE.out, HSR.out, bel'⟩, ?_⟩
            show n - ((i + 1 : Nat) : Int).toNat < n - (i : Int).toNat
            omega
          | false =>
            refine rkids7u d w.heap.size b o n c i (fun V => Below wr.heap.size wr V) p.2.u.v k.v (!decide (p.2.u = k)) _ wr _ rfl rfl rfl rfl beld (fun V hV => load_ns (HC.out V (bw V (bwr V hV)))) (fun V => ix_rn hi (by omega) V) (fun V hV => by rw [← hp]; exact rn_pr hpo (HR.out V (bwr V hV))) (fun V hV => rn_under hpo (HR.out V (bwr V hV))) (fun V hV => HL.out V (bwr V hV)) (fun V => guard_id _ _ p.2.u k V _) (fun V hV => neq_id p.2.u k hpo.u hk V) ?_
            intro a' w' hw' ha
            subst ha
            simp only [Act.put, List.setIfInBounds_toArray, List.set_cons_zero, List.set_cons_succ]
            have own' : Hid (OwnN w' W.heap.size u5 L) := HOW.out.below hw'
            have bel' := bwr _ hw'
            by_cases hu : p.2.u = k
            · have hnx2 : selN k (NL.take (i + 1)) = selN k (NL.take i) ++ [p] := by rw [hnx]; simp [selN, hp, hu]
              have HNX := hidMk hnx2
              rw [decide_eq_true hu]
              simp only [Bool.not_true]
              have hneL : ∀ y ∈ L, y.1 ≠ p.1 := fun y hy e => by
                have h1 := HML.out y hy
                have hnd := h.nd
                obtain ⟨j, hj⟩ := List.getElem?_of_mem h1
                have hjl : j < i := by have := (List.getElem?_eq_some_iff.1 hj).1; rw [List.length_take] at this; omega
                rw [List.getElem?_take, if_pos hjl] at hj
                have e1 : (NL.map (·.1))[j]? = some y.1 := by rw [List.getElem?_map, hj]; rfl
                have e2 : (NL.map (·.1))[i]? = some p.1 := by rw [List.getElem?_map, HXI.out]; rfl
                have l2 : i < (NL.map (·.1)).length := by simp; have := HNn.out; omega
                have l1 : j < (NL.map (·.1)).length := by omega
                rw [List.getElem?_eq_getElem l1] at e1
                rw [List.getElem?_eq_getElem l2] at e2
                exact (List.pairwise_iff_getElem.1 hnd j i l1 l2 hjl) (by rw [Option.some.inj e1, Option.some.inj e2, e])
              have HNE := hidMk hneL
              clear hnx hnx2 hneL
              have cN := HC.out w' (bw _ bel')
              have LP := hidMk (load_rn_at hpo (HR.out w' bel'))
              have EBS : Hid ((Instr.buildSlice 83 1 #[(0, .agg (rnC p).toArray)]).run Try.prog w' = .ok (.slice (some ⟨w'.heap.size, 0, none⟩) 1 1) (w'.alloc (.cells (rnC p).toArray 114))) := run_bsN p hpo w'
              have hlit := rns_lit w' p 114
              have bb : Below w'.heap.size w' (w'.alloc (.cells (rnC p).toArray 114)) := (Below.refl _ _).alloc (Nat.le_refl _) _
              generalize w'.alloc (.cells (rnC p).toArray 114) = w3 at *
              have own3 := own'.out.below bb
              have bel3 : Below W.heap.size W w3 := bel'.trans (bb.mono bel'.size)
              obtain ⟨v5', w4, eap, own4, g4, _⟩ := run_appN w3 W.heap.size u5 L (some ⟨w'.heap.size, 0, none⟩) [p] 1 own3 hlit (by simpa using hpo) (by simp only [List.length_cons, List.length_nil]; omega) bel3.size
              have EAP : Hid ((Builtin.append_ #[83, 83] 83 #[u5, .slice (some ⟨w'.heap.size, 0, none⟩) 1 1]).run Try.prog w3 = .ok v5' w4) := eap
              have bel4 : Below W.heap.size W w4 := bel3.trans ⟨g4.os, g4.tape, g4.output, g4.size, fun j hj => g4.block j (Nat.lt_of_lt_of_le hj bel3.size) (fun e => by have := (own3.ge j e.symm).1; omega)⟩
              obtain ⟨ln, hln⟩ : ∃ ln, L.length = ln := ⟨_, rfl⟩
              obtain ⟨g, cap, rfl⟩ : ∃ g cap, v5' = .slice (some ⟨g, 0, none⟩) (ln + 1) cap := by
                rcases own4.2 with ⟨_, e⟩ | ⟨g', cap', cur, e, _⟩
                · simp at e
                · exact ⟨g', cap', by rw [e]; simp [hln]⟩
              have HLN := hidMk hln
              have hlnn : ln ≤ n := by omega
              have HOW4 := hidMk own4
              obtain ⟨ln1, hln1⟩ : ∃ ln1, ln + 1 = ln1 := ⟨_, rfl⟩
              rw [hln1] at HOW4 EAP
              have hsubL : wrap64 ((ln1 : Int) - 1) = (ln : Int) := by unfold wrap64; omega
              have HLN1 := hidMk hln1
              have hl1n : ln < ln1 ∧ ln1 ≤ 1300000000001 := by omega
              clear eap own4 g4 own3 hlit hln hln1 bb
              go_upto_region 9 with (first
                | (refine wpList_val rfl (exec_load (t := 114) (u := .pointer (some ⟨b, o + i * 68, none⟩)) rfl rfl LP.out) ?_)
                | (refine wpList_run rfl (exec_buildSlice (t := 83) (n := 1) (xv := .agg (rnC p).toArray) (v := .slice (some ⟨w'.heap.size, 0, none⟩) 1 1) rfl rfl EBS.out) ?_)
                | (refine wpList_run rfl (exec_append (xv := u5) (yv := .slice (some ⟨w'.heap.size, 0, none⟩) 1 1) (v := .slice (some ⟨g, 0, none⟩) ln1 cap) rfl rfl rfl EAP.out) ?_)
                | fail)
              go_wp2
              have lg4 : g < w4.heap.size ∧ W.heap.size ≤ g := by
                obtain ⟨h1, q, hq⟩ := HOW4.out.ge g rfl
                exact ⟨(Array.getElem?_eq_some_iff.1 hq).1, h1⟩
              go_loopw [7] (fun v7 wq => ∃ (A B : List RN), v7 = .int .i64 (A.length : Int) ∧ OwnN wq W.heap.size (.slice (some ⟨g, 0, none⟩) ln1 cap) (A ++ p :: B) ∧ A ++ B = L ∧ (∀ y ∈ B, ltN p y) ∧ Below W.heap.size W wq) (fun v7 wq => match v7 with | .int _ z => z.toNat | _ => 0)
              case atStart =>
                refine ⟨L, [], by rw [HLN.out]; congr 1; have := HLN1.out; omega, HOW4.out, by simp, fun y hy => (by cases hy), bel4⟩
              case round =>
                clear EBS EAP LP cN lg4
                obtain ⟨A, B, rfl, ownq, hAB, hB, belq⟩ := hrel
                have hokAB : ∀ y ∈ A ++ B, RnOk y := fun y hy => hokL y (by rw [← hAB]; exact hy)
                have hokM : ∀ y ∈ A ++ p :: B, RnOk y := fun y hy => by
                  rcases List.mem_append.1 hy with hy | hy
                  · exact hokAB y (by simp [hy])
                  · rcases List.mem_cons.1 hy with rfl | hy
                    · exact hpo
                    · exact hokAB y (by simp [hy])
                obtain ⟨hlenM, hrngM⟩ := own_getN ownq hokM
                have HRM := hidMk hrngM
                have HLM := hidMk hlenM
                have HAB := hidMk hAB
                have HOQ := hidMk ownq
                have hneA : ∀ y ∈ A, y.1 ≠ p.1 := fun y hy => HNE.out y (by rw [← hAB]; simp [hy])
                have fin : ∀ (A' : List RN), A' = A → (A = [] ∨ ∃ A'' z, A = A'' ++ [z] ∧ ¬ ltN p z) → ∀ V, OwnN V W.heap.size (.slice (some ⟨g, 0, none⟩) ln1 cap) (A ++ p :: B) → Below W.heap.size W V →
                    ∃ (i' : Nat) (L' : List RN), Value.int IntKind.i64 ((i + 1 : Nat) : Int) = .int .i64 (i' : Int) ∧ i' ≤ n ∧ OwnN V W.heap.size (.slice (some ⟨g, 0, none⟩) ln1 cap) L' ∧ L'.Perm (selN k (NL.take i')) ∧ Srt L' ∧ Below W.heap.size W V := fun A' _ hcase V hV bV => by
                  refine ⟨i + 1, A ++ p :: B, rfl, hi, hV, ?_, ?_, bV⟩
                  · rw [HNX.out]
                    refine List.perm_middle.trans ?_
                    rw [HAB.out]
                    refine (List.Perm.cons p HPE.out).trans ?_
                    exact (List.perm_append_singleton p _).symm
                  · exact ins_sorted hokAB hpo (by rw [HAB.out]; exact HSR.out) hB hneA hcase
                have HFIN := hidMk (fin A rfl)
                clear fin hrngM hlenM hAB ownq
                have beldq : Below wr.heap.size wr wr.drew := (Below.refl _ _).drew
                have bwq : ∀ V, Below wr.heap.size wr V → Below W.heap.size W V := fun V b => belq.trans (b.mono belq.size)
                go_upto_region 10 with fail
                rcases List.eq_nil_or_concat A with rfl | ⟨A2, z, hA2⟩
                · refine rkids10z (.slice (some ⟨g, 0, none⟩) ln1 cap) (fun V => Below wr.heap.size wr V) _ wr _ rfl rfl rfl beldq (fun V => by go_simp) (fun V hV => by go_simp) ?_
                  intro a' w5 hw5 ha
                  subst ha
                  simp only [Act.put, List.setIfInBounds_toArray, List.set_cons_zero, List.set_cons_succ]
                  have bel5 := bwq _ hw5
                  have own5 := hidMk (HFIN.out (Or.inl rfl) w5 (HOQ.out.below hw5) bel5)
                  go_wp2
                  rw [show ((i : Int) + 1) = ((i + 1 : Nat) : Int) by omega]
                  refine ⟨own5.out, ?_⟩
                  show n - ((i + 1 : Nat) : Int).toNat < n - (i : Int).toNat
                  omega
                · subst hA2
                  obtain ⟨m, hm⟩ : ∃ m, A2.length = m := ⟨_, rfl⟩
                  obtain ⟨kk, hkk⟩ : ∃ kk, (A2.concat z).length = kk := ⟨_, rfl⟩
                  have hkm : kk = m + 1 := by rw [← hkk, List.length_concat, hm]
                  rw [hkk]
                  have HKK0 := hidMk hkk
                  have hcat : A2.concat z = A2 ++ [z] := by simp
                  have hzo : RnOk z := hokAB z (by simp)
                  have hl := HLM.out
                  rw [List.length_append, hkk, List.length_cons] at hl
                  have hxk : (A2.concat z ++ p :: B)[kk]? = some p := by rw [List.getElem?_append_right (by omega), hkk]; simp
                  have hzk : (A2.concat z ++ p :: B)[m]? = some z := by rw [List.getElem?_append_left (by omega), hcat, List.getElem?_append_right (by omega), hm]; simp
                  have rk := HRM.out kk p hxk
                  have rm := HRM.out m z hzk
                  have lg : g < wr.heap.size := by obtain ⟨_, q, hq⟩ := HOQ.out.ge g rfl; exact (Array.getElem?_eq_some_iff.1 hq).1
                  have HKK := hidMk (And.intro hkk (And.intro hkm hm))
                  have hk1 : kk < ln1 ∧ m < ln1 ∧ 0 < kk := by omega
                  have hsubk : wrap64 ((kk : Int) - 1) = (m : Int) := by unfold wrap64; omega
                  clear hxk hzk hl hkk hkm hm hcat
                  refine rkids10 g ln1 cap kk m (.agg (rnC p).toArray) (.agg (rnC z).toArray) (decide (cKid (kOf p) (kOf z) < 0)) (fun V => Below wr.heap.size wr V) _ wr _ rfl rfl rfl beldq (fun V V' h1 h2 => h1.trans (h2.mono h1.size)) (fun V hV => ahead_any p z V hpo hzo) ?_ ?_ ?_ ?_ ?_ ?_ ?_ ?_ ?_
                  · exact fun V => by go_simp
                  · exact fun V hV => gtr0 hk1.2.2 V
                  · exact fun V => ix_rn0 hk1.1 (by omega) V
                  · exact fun V hV => load_rn_at hpo (rangeAt_keep rk (hV.block _ lg))
                  · exact fun V => by go_simp
                  · exact fun V hV => sub1 hsubk V
                  · exact fun V => ix_rn0 hk1.2.1 (by omega) V
                  · exact fun V hV => load_rn_at hzo (rangeAt_keep rm (hV.block _ lg))
                  intro a' w5 hw5 ha
                  subst ha
                  simp only [Act.put, List.setIfInBounds_toArray, List.set_cons_zero, List.set_cons_succ]
                  have bel5 := bwq _ hw5
                  have ownw5 := HOQ.out.below hw5
                  by_cases hlt : cKid (kOf p) (kOf z) < 0
                  · rw [decide_eq_true hlt]
                    obtain ⟨x6, ea6, es6⟩ := rn_new w5 p hpo
                    have c6 : Below w5.heap.size w5 (w5.alloc (.cells (rnC p).toArray 114)) := (Below.refl _ _).alloc (Nat.le_refl _) _
                    have hb6 : RnAt (w5.alloc (.cells (rnC p).toArray 114)) w5.heap.size p := heap_alloc_new _ _
                    generalize w5.alloc (.cells (rnC p).toArray 114) = w6 at *
                    have own6 := ownw5.below c6
                    have hl := HLM.out
                    have hkk := HKK.out
                    obtain ⟨g7, cap7, e7, _, w7, est7, own7, t7, z7⟩ := own_setN own6 hokM (i := kk) (by rw [hl]; exact hk1.1) hzo
                    simp only [Value.slice.injEq, Option.some.injEq, Addr.mk.injEq] at e7
                    obtain ⟨⟨rfl, e71⟩, e72⟩ := e7
                    clear e71 e72
                    have hok7 : ∀ y ∈ (A2.concat z ++ p :: B).set kk z, RnOk y := fun y hy => by
                      rcases List.mem_or_eq_of_mem_set hy with hy | rfl
                      · exact hokM y hy
                      · exact hzo
                    obtain ⟨g8, cap8, e8, _, w8, est8, own8, t8, z8⟩ := own_setN own7 hok7 (i := m) (by rw [List.length_set, hl]; exact hk1.2.1) hpo
                    simp only [Value.slice.injEq, Option.some.injEq, Addr.mk.injEq] at e8
                    obtain ⟨⟨rfl, e81⟩, e82⟩ := e8
                    clear e81 e82
                    rw [hkk.2.1, set_swap hkk.2.2] at own8
                    have lg5 : g < w5.heap.size := Nat.lt_of_lt_of_le lg hw5.size
                    have bel6 := bel5.trans (c6.mono bel5.size)
                    have bel7 : Below W.heap.size W w7 := bel6.trans (t7.below bel6.size (fun j hj => (own6.ge j hj).1))
                    have bel8 : Below W.heap.size W w8 := bel7.trans (t8.below bel7.size (fun j hj => (own7.ge j hj).1))
                    have hb7 : RnAt w7 w5.heap.size p := (t7.block _ (Array.getElem?_eq_some_iff.1 hb6).1 (fun e => by simp [Value.ownBlock] at e; omega)).trans hb6
                    have LK := hidMk (load_rn_at hpo (rangeAt_keep rk (hw5.block _ lg)))
                    have LM := hidMk (load_rn_at hzo (rangeAt_keep rm ((hw5.trans (c6.mono hw5.size)).block _ lg)))
                    have LB := hidMk (load_rn_at hpo hb7.range)
                    have EA6 := hidMk ea6
                    have ES6 := hidMk es6
                    have EST7 := hidMk est7
                    have hm1 : m = kk - 1 := by omega
                    have EST8 : Hid ((Instr.storeAt 114 (.pointer (some ⟨g, (kk - 1) * 68, none⟩)) (.agg (rnC p).toArray)).run Try.prog w7 = .ok () w8) := by rw [← hm1]; exact est8
                    rw [hm1] at LM
                    clear hm1
                    have HO8 := hidMk own8
                    have hB8 : ∀ y ∈ z :: B, ltN p y := fun y hy => by
                      rcases List.mem_cons.1 hy with rfl | hy
                      · exact hlt
                      · exact hB y hy
                    have hA8 : A2 ++ z :: B = L := by rw [← HAB.out]; simp
                    have HA8 := hidMk hA8
                    have HKM := hidMk hkk.2.2
                    have HKM1 := hidMk hkk.2.1
                    have hkl := hk1
                    clear ea6 es6 est7 est8 own8 own7 own6 t7 t8 z7 z8 hl hkk hA8 hok7 ownw5 c6 rk rm HRM HLM HOQ HFIN
                    go_wp2_with (first
                      | (refine wpList_val rfl (exec_load (t := 114) (u := .pointer (some ⟨g, kk * 68, none⟩)) rfl rfl LK.out) ?_)
                      | (refine wpList_run rfl (exec_alloc (t := 114) rfl EA6.out) ?_)
                      | (refine wpList_skip rfl rfl (exec_store (t := 114) (xv := .pointer (some ⟨w5.heap.size, 0, none⟩)) (yv := .agg (rnC p).toArray) rfl rfl rfl ES6.out) ?_)
                      | (refine wpList_val rfl (exec_load (t := 114) (u := .pointer (some ⟨g, (kk - 1) * 68, none⟩)) rfl rfl LM.out) ?_)
                      | (refine wpList_skip rfl rfl (exec_store (t := 114) (xv := .pointer (some ⟨g, kk * 68, none⟩)) (yv := .agg (rnC z).toArray) rfl rfl rfl EST7.out) ?_)
                      | (refine wpList_val rfl (exec_load (t := 114) (u := .pointer (some ⟨w5.heap.size, 0, none⟩)) rfl rfl LB.out) ?_)
                      | (refine wpList_skip rfl rfl (exec_store (t := 114) (xv := .pointer (some ⟨g, (kk - 1) * 68, none⟩)) (yv := .agg (rnC p).toArray) rfl rfl rfl EST8.out) ?_)
                      | fail)
                    refine ⟨⟨A2, z :: B, by rw [HKM.out]; congr 1; have := HKM1.out; omega, HO8.out, HA8.out, hB8, bel8⟩, ?_⟩
                    have hkm1 := HKM1.out
                    have hkk0 := HKK0.out
                    simp only []
                    rw [hkk0]
                    omega
                  · rw [decide_eq_false hlt]
                    have own5 := hidMk (HFIN.out (Or.inr ⟨A2, z, by simp, hlt⟩) w5 ownw5 bel5)
                    clear ownw5 HFIN
                    go_wp2
                    rw [show ((i : Int) + 1) = ((i + 1 : Nat) : Int) by omega]
                    refine ⟨own5.out, ?_⟩
                    show n - ((i + 1 : Nat) : Int).toNat < n - (i : Int).toNat
                    omega
            · have hnx2 : selN k (NL.take (i + 1)) = selN k (NL.take i) := by rw [hnx]; simp [selN, hp, hu]
              have HNX := hidMk hnx2
              rw [decide_eq_false hu]
              simp only [Bool.not_false]
              clear hnx hnx2
              go_wp2
              rw [show ((i : Int) + 1) = ((i + 1 : Nat) : Int) by omega]
              refine ⟨⟨i + 1, L, rfl, hi, own'.out, by rw [HNX.out]; exact HPE.out, HSR.out, bel'⟩, ?_⟩
              show n - ((i + 1 : Nat) : Int).toNat < n - (i : Int).toNat
              omega
        · obtain rfl : i = n := by omega
          rw [List.take_of_length_le (by omega)] at hper
          obtain ⟨a5, c5, rfl, hra, _⟩ := own.open hokL
          have HKI := hidMk (kids_sel h.nd h.ok hper hsrt)
          obtain ⟨ln, hln⟩ : ∃ ln, L.length = ln := ⟨_, rfl⟩
          rw [hln]
          have HLN := hidMk hln
          have hlb : ln ≤ 1300000000000 := by omega
          have bel0 := bw _ belW
          have own9 : OwnI wr wr.heap.size (.slice none 0 0) [] := ⟨rfl, Or.inl ⟨rfl, rfl⟩⟩
          clear own hper hsrt hmemL hLl hln hN
          generalize wr = wx at *
          go_wp2
          clear c0
          go_loopw [9, 10] (fun v9 v10 wq => ∃ j : Nat, v10 = .int .i64 (j : Int) ∧ j ≤ ln ∧ OwnI wq wx.heap.size v9 ((L.take j).map (·.1)) ∧ Below wx.heap.size wx wq) (fun v9 v10 wq => ln - (match v10 with | .int _ z => z.toNat | _ => 0))
          case atStart => exact ⟨0, rfl, Nat.zero_le _, own9, Below.refl _ _⟩
          case round =>
            clear own9
            obtain ⟨j, rfl, hjn, own, belx⟩ := hrel
            have hLn := HLN.out
            by_cases hj : j < ln
            · have hxj : L[j]? = some L[j] := List.getElem?_eq_getElem (by omega)
              generalize L[j] = q at hxj
              have hqo := hokL q (List.mem_of_getElem? hxj)
              obtain ⟨gb, go, rfl, lgb, hrq⟩ : ∃ gb go, a5 = some ⟨gb, go, none⟩ ∧ gb < wx.heap.size ∧ wx.rangeAt gb (go + j * 68) (rnC q) := by
                rcases hra with e | ⟨b, o, e, h1, h2⟩
                · rw [e] at hxj; simp at hxj
                · exact ⟨b, o, e, h1, by rw [Nat.mul_comm]; exact h2 j q hxj⟩
              have LQ0 := rn_id hqo (rangeAt_keep hrq (belx.block _ lgb))
              rw [Nat.add_zero] at LQ0
              have LQ := hidMk LQ0
              have EBS : Hid ((Instr.buildSlice 41 1 #[(0, q.1.v)]).run Try.prog wr = .ok (.slice (some ⟨wr.heap.size, 0, none⟩) 1 1) (wr.alloc (.cells q.1.c.toArray 37))) := run_bsI q.1 hqo.k wr
              have hlit := ids_lit wr q.1 37
              have bb : Below wr.heap.size wr (wr.alloc (.cells q.1.c.toArray 37)) := (Below.refl _ _).alloc (Nat.le_refl _) _
              generalize wr.alloc (.cells q.1.c.toArray 37) = w3 at *
              have own3 := own.below bb
              have bel3 : Below wx.heap.size wx w3 := belx.trans (bb.mono belx.size)
              have htl : ((L.take j).map (·.1)).length = j := by simp; omega
              obtain ⟨v9', w4, eap, own4, g4, _⟩ := run_appI w3 wx.heap.size u9 ((L.take j).map (·.1)) (some ⟨wr.heap.size, 0, none⟩) [q.1] 1 own3 hlit (by simpa using hqo.k) (by rw [htl]; simp only [List.length_cons, List.length_nil]; omega) bel3.size
              have EAP : Hid ((Builtin.append_ #[41, 41] 41 #[u9, .slice (some ⟨wr.heap.size, 0, none⟩) 1 1]).run Try.prog w3 = .ok v9' w4) := eap
              have bel4 : Below wx.heap.size wx w4 := bel3.trans (below_grown own3 bel3.size g4)
              have hnext : (L.take j).map (·.1) ++ [q.1] = (L.take (j + 1)).map (·.1) := by rw [List.take_add_one, hxj]; simp
              rw [hnext] at own4
              have HO4 := hidMk own4
              clear eap own4 g4 own3 hlit hnext htl hxj hrq LQ0 own hLn bb
              go_wp2_with (first
                | (refine wpList_val rfl (exec_load (t := 37) (u := .pointer (some ⟨gb, go + j * 68, none⟩)) rfl rfl LQ.out) ?_)
                | (refine wpList_run rfl (exec_buildSlice (t := 41) (n := 1) (xv := q.1.v) (v := .slice (some ⟨wr.heap.size, 0, none⟩) 1 1) rfl rfl EBS.out) ?_)
                | (refine wpList_run rfl (exec_append (xv := u9) (yv := .slice (some ⟨wr.heap.size, 0, none⟩) 1 1) (v := v9') rfl rfl rfl EAP.out) ?_)
                | fail)
              rw [show ((j : Int) + 1) = ((j + 1 : Nat) : Int) by omega]
              refine ⟨⟨j + 1, rfl, hj, HO4.out, bel4⟩, ?_⟩
              show ln - ((j + 1 : Nat) : Int).toNat < ln - (j : Int).toNat
              omega
            · obtain rfl : j = ln := by omega
              rw [List.take_of_length_le (by omega)] at own
              have HO := hidMk own
              clear own hLn hjn hj
              go_wp2
              go_ret
              exact ⟨_, _, rfl, HO.out.base (Nat.le_trans bel0.size (Nat.le_refl _)), HKI.out, bel0.trans (belx.mono bel0.size)⟩
    · by_cases hz : k = zId
      · exact absurd (by rw [hz] at hin; rw [hf.zero] at hin; exact hin : (none : Option NodeV).isSome = true) (by simp)
      · have hq : ∀ V : World, (binOp .neq 37 k.v zId.v).run Try.prog V = .ok (.bool true) V := fun V => by rw [neq_id k zId hk zId_ok, decide_eq_false hz]; rfl
        rw [hin] at HH
        clear hin hz
        go_upto_region 4 with (first
          | (refine wpList_val rfl (exec_load (t := 37) (u := .pointer (some ⟨w.heap.size, 0, none⟩)) rfl rfl (HL.out _ (Below.refl _ _))) ?_)
          | (refine wpList_val rfl (exec_build0 rfl (build_id _)) ?_)
          | (refine wpList_val rfl (exec_binOp (xv := k.v) (yv := zId.v) rfl rfl rfl (guard_id _ _ k zId _ _) (hq _)) ?_)
          | (go_at_call 74; refine (HH.out _ bx).mono ?_; rintro e w1 ⟨rfl, b1⟩)
          | fail)
        clear hq
        go_wp2
        go_loopw [5, 6] (fun v5 v6 wr => ∃ (i : Nat) (L : List RN), v6 = .int .i64 (i : Int) ∧ i ≤ n ∧ OwnN wr W.heap.size v5 L ∧ L.Perm (selN k (NL.take i)) ∧ Srt L ∧ Below W.heap.size W wr) (fun v5 v6 wr => n - (match v6 with | .int _ i => i.toNat | _ => 0))
        case atStart => exact ⟨0, [], rfl, Nat.zero_le _, own0 _, List.Perm.refl _, List.Pairwise.nil, b1⟩
        case round =>
          clear b1
          obtain ⟨i, L, rfl, hin, own, hper, hsrt, belW⟩ := hrel
          have bw : ∀ V, Below W.heap.size W V → Below w.heap.size w V := fun V b => bx.trans (b.mono bx.size)
          have c0 := HC.out wr (bw _ belW)
          have hN := HNn.out
          have hmemL : ∀ y ∈ L, y ∈ NL.take i := fun y hy => by have := hper.mem_iff.1 hy; unfold selN at this; exact (List.mem_filter.1 this).1
          have hokL : ∀ y ∈ L, RnOk y := fun y hy => h.ok y (List.mem_of_mem_take (hmemL y hy))
          have hLl : L.length ≤ n := by
            have h1 := hper.length_eq
            have h2 : (selN k (NL.take i)).length ≤ (NL.take i).length := List.length_filter_le _ _
            rw [List.length_take] at h2
            omega
          by_cases hi : i < n
          · have hxi : NL[i]? = some NL[i] := List.getElem?_eq_getElem (by omega)
            generalize NL[i] = p at hxi
            have hpo := h.ok p (List.mem_of_getElem? hxi)
            obtain ⟨b, o, rfl, lb, hr⟩ : ∃ b o, a = some ⟨b, o, none⟩ ∧ b < w.heap.size ∧ w.rangeAt b (o + i * 68) (rnC p) := by
              rcases HROW.out with e | ⟨b, o, e, h1, h2⟩
              · rw [e] at hxi; simp at hxi
              · exact ⟨b, o, e, h1, h2 i p hxi⟩
            have HR := hidMk (fun (V : World) (bb : Below W.heap.size W V) => rangeAt_keep hr ((bw V bb).block _ lb))
            have hnx := sel_next k hxi
            have HXI := hidMk hxi
            have HOW := hidMk own
            have HPE := hidMk hper
            have HSR := hidMk hsrt
            have HML := hidMk hmemL
            clear hxi own hper hsrt hmemL hr hN
            go_upto_region 7 with fail
            clear c0
            have beld : Below wr.heap.size wr wr.drew := (Below.refl _ _).drew
            have bwr : ∀ V, Below wr.heap.size wr V → Below W.heap.size W V := fun V b => belW.trans (b.mono belW.size)
            cases hp : p.2.pr with
            | true =>
              have hnx2 : selN k (NL.take (i + 1)) = selN k (NL.take i) := by rw [hnx]; simp [selN, hp]
              have HNX := hidMk hnx2
              clear hnx hnx2
              refine rkids7p d w.heap.size b o n c i (fun V => Below wr.heap.size wr V) _ wr _ rfl rfl rfl rfl beld (fun V hV => load_ns (HC.out V (bw V (bwr V hV)))) (fun V => ix_rn hi (by omega) V) (fun V hV => by rw [← hp]; exact rn_pr hpo (HR.out V (bwr V hV))) ?_
              intro a' w' hw' ha
              subst ha
              simp only [Act.put, List.setIfInBounds_toArray, List.set_cons_zero, List.set_cons_succ]
              have own' : Hid (OwnN w' W.heap.size u5 L) := HOW.out.below hw'
              have bel' := bwr _ hw'
              go_wp2
              rw [show ((i : Int) + 1) = ((i + 1 : Nat) : Int) by omega]
              refine ⟨⟨i + 1, L, rfl, hi, own'.out, by rw [HNX.out]; exact HPE.out, HSR.out, bel'⟩, ?_⟩
              show n - ((i + 1 : Nat) : Int).toNat < n - (i : Int).toNat
              omega
            | false =>
              refine rkids7u d w.heap.size b o n c i (fun V => Below wr.heap.size wr V) p.2.u.v k.v (!decide (p.2.u = k)) _ wr _ rfl rfl rfl rfl beld (fun V hV => load_ns (HC.out V (bw V (bwr V hV)))) (fun V => ix_rn hi (by omega) V) (fun V hV => by rw [← hp]; exact rn_pr hpo (HR.out V (bwr V hV))) (fun V hV => rn_under hpo (HR.out V (bwr V hV))) (fun V hV => HL.out V (bwr V hV)) (fun V => guard_id _ _ p.2.u k V _) (fun V hV => neq_id p.2.u k hpo.u hk V) ?_
              intro a' w' hw' ha
              subst ha
              simp only [Act.put, List.setIfInBounds_toArray, List.set_cons_zero, List.set_cons_succ]
              have own' : Hid (OwnN w' W.heap.size u5 L) := HOW.out.below hw'
              have bel' := bwr _ hw'
              by_cases hu : p.2.u = k
              · have hnx2 : selN k (NL.take (i + 1)) = selN k (NL.take i) ++ [p] := by rw [hnx]; simp [selN, hp, hu]
                have HNX := hidMk hnx2
                rw [decide_eq_true hu]
                simp only [Bool.not_true]
                have hneL : ∀ y ∈ L, y.1 ≠ p.1 := fun y hy e => by
                  have h1 := HML.out y hy
                  have hnd := h.nd
                  obtain ⟨j, hj⟩ := List.getElem?_of_mem h1
                  have hjl : j < i := by have := (List.getElem?_eq_some_iff.1 hj).1; rw [List.length_take] at this; omega
                  rw [List.getElem?_take, if_pos hjl] at hj
                  have e1 : (NL.map (·.1))[j]? = some y.1 := by rw [List.getElem?_map, hj]; rfl
                  have e2 : (NL.map (·.1))[i]? = some p.1 := by rw [List.getElem?_map, HXI.out]; rfl
                  have l2 : i < (NL.map (·.1)).length := by simp; have := HNn.out; omega
                  have l1 : j < (NL.map (·.1)).length := by omega
                  rw [List.getElem?_eq_getElem l1] at e1
                  rw [List.getElem?_eq_getElem l2] at e2
                  exact (List.pairwise_iff_getElem.1 hnd j i l1 l2 hjl) (by rw [Option.some.inj e1, Option.some.inj e2, e])
                have HNE := hidMk hneL
                clear hnx hnx2 hneL
                have cN := HC.out w' (bw _ bel')
                have LP := hidMk (load_rn_at hpo (HR.out w' bel'))
                have EBS : Hid ((Instr.buildSlice 83 1 #[(0, .agg (rnC p).toArray)]).run Try.prog w' = .ok (.slice (some ⟨w'.heap.size, 0, none⟩) 1 1) (w'.alloc (.cells (rnC p).toArray 114))) := run_bsN p hpo w'
                have hlit := rns_lit w' p 114
                have bb : Below w'.heap.size w' (w'.alloc (.cells (rnC p).toArray 114)) := (Below.refl _ _).alloc (Nat.le_refl _) _
                generalize w'.alloc (.cells (rnC p).toArray 114) = w3 at *
                have own3 := own'.out.below bb
                have bel3 : Below W.heap.size W w3 := bel'.trans (bb.mono bel'.size)
                obtain ⟨v5', w4, eap, own4, g4, _⟩ := run_appN w3 W.heap.size u5 L (some ⟨w'.heap.size, 0, none⟩) [p] 1 own3 hlit (by simpa using hpo) (by simp only [List.length_cons, List.length_nil]; omega) bel3.size
                have EAP : Hid ((Builtin.append_ #[83, 83] 83 #[u5, .slice (some ⟨w'.heap.size, 0, none⟩) 1 1]).run Try.prog w3 = .ok v5' w4) := eap
                have bel4 : Below W.heap.size W w4 := bel3.trans ⟨g4.os, g4.tape, g4.output, g4.size, fun j hj => g4.block j (Nat.lt_of_lt_of_le hj bel3.size) (fun e => by have := (own3.ge j e.symm).1; omega)⟩
                obtain ⟨ln, hln⟩ : ∃ ln, L.length = ln := ⟨_, rfl⟩
                obtain ⟨g, cap, rfl⟩ : ∃ g cap, v5' = .slice (some ⟨g, 0, none⟩) (ln + 1) cap := by
                  rcases own4.2 with ⟨_, e⟩ | ⟨g', cap', cur, e, _⟩
                  · simp at e
                  · exact ⟨g', cap', by rw [e]; simp [hln]⟩
                have HLN := hidMk hln
                have hlnn : ln ≤ n := by omega
                have HOW4 := hidMk own4
                obtain ⟨ln1, hln1⟩ : ∃ ln1, ln + 1 = ln1 := ⟨_, rfl⟩
                rw [hln1] at HOW4 EAP
                have hsubL : wrap64 ((ln1 : Int) - 1) = (ln : Int) := by unfold wrap64; omega
                have HLN1 := hidMk hln1
                have hl1n : ln < ln1 ∧ ln1 ≤ 1300000000001 := by omega
                clear eap own4 g4 own3 hlit hln hln1 bb
                go_upto_region 9 with (first
                  | (refine wpList_val rfl (exec_load (t := 114) (u := .pointer (some ⟨b, o + i * 68, none⟩)) rfl rfl LP.out) ?_)
                  | (refine wpList_run rfl (exec_buildSlice (t := 83) (n := 1) (xv := .agg (rnC p).toArray) (v := .slice (some ⟨w'.heap.size, 0, none⟩) 1 1) rfl rfl EBS.out) ?_)
                  | (refine wpList_run rfl (exec_append (xv := u5) (yv := .slice (some ⟨w'.heap.size, 0, none⟩) 1 1) (v := .slice (some ⟨g, 0, none⟩) ln1 cap) rfl rfl rfl EAP.out) ?_)
                  | fail)
                go_wp2
                have lg4 : g < w4.heap.size ∧ W.heap.size ≤ g := by
                  obtain ⟨h1, q, hq⟩ := HOW4.out.ge g rfl
                  exact ⟨(Array.getElem?_eq_some_iff.1 hq).1, h1⟩
                go_loopw [7] (fun v7 wq => ∃ (A B : List RN), v7 = .int .i64 (A.length : Int) ∧ OwnN wq W.heap.size (.slice (some ⟨g, 0, none⟩) ln1 cap) (A ++ p :: B) ∧ A ++ B = L ∧ (∀ y ∈ B, ltN p y) ∧ Below W.heap.size W wq) (fun v7 wq => match v7 with | .int _ z => z.toNat | _ => 0)
                case atStart =>
                  refine ⟨L, [], by rw [HLN.out]; congr 1; have := HLN1.out; omega, HOW4.out, by simp, fun y hy => (by cases hy), bel4⟩
                case round =>
                  clear EBS EAP LP cN lg4
                  obtain ⟨A, B, rfl, ownq, hAB, hB, belq⟩ := hrel
                  have hokAB : ∀ y ∈ A ++ B, RnOk y := fun y hy => hokL y (by rw [← hAB]; exact hy)
                  have hokM : ∀ y ∈ A ++ p :: B, RnOk y := fun y hy => by
                    rcases List.mem_append.1 hy with hy | hy
                    · exact hokAB y (by simp [hy])
                    · rcases List.mem_cons.1 hy with rfl | hy
                      · exact hpo
                      · exact hokAB y (by simp [hy])
                  obtain ⟨hlenM, hrngM⟩ := own_getN ownq hokM
                  have HRM := hidMk hrngM
                  have HLM := hidMk hlenM
                  have HAB := hidMk hAB
                  have HOQ := hidMk ownq
                  have hneA : ∀ y ∈ A, y.1 ≠ p.1 := fun y hy => HNE.out y (by rw [← hAB]; simp [hy])
                  have fin : ∀ (A' : List RN), A' = A → (A = [] ∨ ∃ A'' z, A = A'' ++ [z] ∧ ¬ ltN p z) → ∀ V, OwnN V W.heap.size (.slice (some ⟨g, 0, none⟩) ln1 cap) (A ++ p :: B) → Below W.heap.size W V →
                      ∃ (i' : Nat) (L' : List RN), Value.int IntKind.i64 ((i + 1 : Nat) : Int) = .int .i64 (i' : Int) ∧ i' ≤ n ∧ OwnN V W.heap.size (.slice (some ⟨g, 0, none⟩) ln1 cap) L' ∧ L'.Perm (selN k (NL.take i')) ∧ Srt L' ∧ Below W.heap.size W V := fun A' _ hcase V hV bV => by
                    refine ⟨i + 1, A ++ p :: B, rfl, hi, hV, ?_, ?_, bV⟩
                    · rw [HNX.out]
                      refine List.perm_middle.trans ?_
                      rw [HAB.out]
                      refine (List.Perm.cons p HPE.out).trans ?_
                      exact (List.perm_append_singleton p _).symm
                    · exact ins_sorted hokAB hpo (by rw [HAB.out]; exact HSR.out) hB hneA hcase
                  have HFIN := hidMk (fin A rfl)
                  clear fin hrngM hlenM hAB ownq
                  have beldq : Below wr.heap.size wr wr.drew := (Below.refl _ _).drew
                  have bwq : ∀ V, Below wr.heap.size wr V → Below W.heap.size W V := fun V b => belq.trans (b.mono belq.size)
                  go_upto_region 10 with fail
                  rcases List.eq_nil_or_concat A with rfl | ⟨A2, z, hA2⟩
                  · refine rkids10z (.slice (some ⟨g, 0, none⟩) ln1 cap) (fun V => Below wr.heap.size wr V) _ wr _ rfl rfl rfl beldq (fun V => by go_simp) (fun V hV => by go_simp) ?_
                    intro a' w5 hw5 ha
                    subst ha
                    simp only [Act.put, List.setIfInBounds_toArray, List.set_cons_zero, List.set_cons_succ]
                    have bel5 := bwq _ hw5
                    have own5 := hidMk (HFIN.out (Or.inl rfl) w5 (HOQ.out.below hw5) bel5)
                    go_wp2
                    rw [show ((i : Int) + 1) = ((i + 1 : Nat) : Int) by omega]
                    refine ⟨own5.out, ?_⟩
                    show n - ((i + 1 : Nat) : Int).toNat < n - (i : Int).toNat
                    omega
                  · subst hA2
                    obtain ⟨m, hm⟩ : ∃ m, A2.length = m := ⟨_, rfl⟩
                    obtain ⟨kk, hkk⟩ : ∃ kk, (A2.concat z).length = kk := ⟨_, rfl⟩
                    have hkm : kk = m + 1 := by rw [← hkk, List.length_concat, hm]
                    rw [hkk]
                    have HKK0 := hidMk hkk
                    have hcat : A2.concat z = A2 ++ [z] := by simp
                    have hzo : RnOk z := hokAB z (by simp)
                    have hl := HLM.out
                    rw [List.length_append, hkk, List.length_cons] at hl
                    have hxk : (A2.concat z ++ p :: B)[kk]? = some p := by rw [List.getElem?_append_right (by omega), hkk]; simp
                    have hzk : (A2.concat z ++ p :: B)[m]? = some z := by rw [List.getElem?_append_left (by omega), hcat, List.getElem?_append_right (by omega), hm]; simp
                    have rk := HRM.out kk p hxk
                    have rm := HRM.out m z hzk
                    have lg : g < wr.heap.size := by obtain ⟨_, q, hq⟩ := HOQ.out.ge g rfl; exact (Array.getElem?_eq_some_iff.1 hq).1
                    have HKK := hidMk (And.intro hkk (And.intro hkm hm))
                    have hk1 : kk < ln1 ∧ m < ln1 ∧ 0 < kk := by omega
                    have hsubk : wrap64 ((kk : Int) - 1) = (m : Int) := by unfold wrap64; omega
                    clear hxk hzk hl hkk hkm hm hcat
                    refine rkids10 g ln1 cap kk m (.agg (rnC p).toArray) (.agg (rnC z).toArray) (decide (cKid (kOf p) (kOf z) < 0)) (fun V => Below wr.heap.size wr V) _ wr _ rfl rfl rfl beldq (fun V V' h1 h2 => h1.trans (h2.mono h1.size)) (fun V hV => ahead_any p z V hpo hzo) ?_ ?_ ?_ ?_ ?_ ?_ ?_ ?_ ?_
                    · exact fun V => by go_simp
                    · exact fun V hV => gtr0 hk1.2.2 V
                    · exact fun V => ix_rn0 hk1.1 (by omega) V
                    · exact fun V hV => load_rn_at hpo (rangeAt_keep rk (hV.block _ lg))
                    · exact fun V => by go_simp
                    · exact fun V hV => sub1 hsubk V
                    · exact fun V => ix_rn0 hk1.2.1 (by omega) V
                    · exact fun V hV => load_rn_at hzo (rangeAt_keep rm (hV.block _ lg))
                    intro a' w5 hw5 ha
                    subst ha
                    simp only [Act.put, List.setIfInBounds_toArray, List.set_cons_zero, List.set_cons_succ]
                    have bel5 := bwq _ hw5
                    have ownw5 := HOQ.out.below hw5
                    by_cases hlt : cKid (kOf p) (kOf z) < 0
                    · rw [decide_eq_true hlt]
                      obtain ⟨x6, ea6, es6⟩ := rn_new w5 p hpo
                      have c6 : Below w5.heap.size w5 (w5.alloc (.cells (rnC p).toArray 114)) := (Below.refl _ _).alloc (Nat.le_refl _) _
                      have hb6 : RnAt (w5.alloc (.cells (rnC p).toArray 114)) w5.heap.size p := heap_alloc_new _ _
                      generalize w5.alloc (.cells (rnC p).toArray 114) = w6 at *
                      have own6 := ownw5.below c6
                      have hl := HLM.out
                      have hkk := HKK.out
                      obtain ⟨g7, cap7, e7, _, w7, est7, own7, t7, z7⟩ := own_setN own6 hokM (i := kk) (by rw [hl]; exact hk1.1) hzo
                      simp only [Value.slice.injEq, Option.some.injEq, Addr.mk.injEq] at e7
                      obtain ⟨⟨rfl, e71⟩, e72⟩ := e7
                      clear e71 e72
                      have hok7 : ∀ y ∈ (A2.concat z ++ p :: B).set kk z, RnOk y := fun y hy => by
                        rcases List.mem_or_eq_of_mem_set hy with hy | rfl
                        · exact hokM y hy
                        · exact hzo
                      obtain ⟨g8, cap8, e8, _, w8, est8, own8, t8, z8⟩ := own_setN own7 hok7 (i := m) (by rw [List.length_set, hl]; exact hk1.2.1) hpo
                      simp only [Value.slice.injEq, Option.some.injEq, Addr.mk.injEq] at e8
                      obtain ⟨⟨rfl, e81⟩, e82⟩ := e8
                      clear e81 e82
                      rw [hkk.2.1, set_swap hkk.2.2] at own8
                      have lg5 : g < w5.heap.size := Nat.lt_of_lt_of_le lg hw5.size
                      have bel6 := bel5.trans (c6.mono bel5.size)
                      have bel7 : Below W.heap.size W w7 := bel6.trans (t7.below bel6.size (fun j hj => (own6.ge j hj).1))
                      have bel8 : Below W.heap.size W w8 := bel7.trans (t8.below bel7.size (fun j hj => (own7.ge j hj).1))
                      have hb7 : RnAt w7 w5.heap.size p := (t7.block _ (Array.getElem?_eq_some_iff.1 hb6).1 (fun e => by simp [Value.ownBlock] at e; omega)).trans hb6
                      have LK := hidMk (load_rn_at hpo (rangeAt_keep rk (hw5.block _ lg)))
                      have LM := hidMk (load_rn_at hzo (rangeAt_keep rm ((hw5.trans (c6.mono hw5.size)).block _ lg)))
                      have LB := hidMk (load_rn_at hpo hb7.range)
                      have EA6 := hidMk ea6
                      have ES6 := hidMk es6
                      have EST7 := hidMk est7
                      have hm1 : m = kk - 1 := by omega
                      have EST8 : Hid ((Instr.storeAt 114 (.pointer (some ⟨g, (kk - 1) * 68, none⟩)) (.agg (rnC p).toArray)).run Try.prog w7 = .ok () w8) := by rw [← hm1]; exact est8
                      rw [hm1] at LM
                      clear hm1
                      have HO8 := hidMk own8
                      have hB8 : ∀ y ∈ z :: B, ltN p y := fun y hy => by
                        rcases List.mem_cons.1 hy with rfl | hy
                        · exact hlt
                        · exact hB y hy
                      have hA8 : A2 ++ z :: B = L := by rw [← HAB.out]; simp
                      have HA8 := hidMk hA8
                      have HKM := hidMk hkk.2.2
                      have HKM1 := hidMk hkk.2.1
                      have hkl := hk1
                      clear ea6 es6 est7 est8 own8 own7 own6 t7 t8 z7 z8 hl hkk hA8 hok7 ownw5 c6 rk rm HRM HLM HOQ HFIN
                      go_wp2_with (first
                        | (refine wpList_val rfl (exec_load (t := 114) (u := .pointer (some ⟨g, kk * 68, none⟩)) rfl rfl LK.out) ?_)
                        | (refine wpList_run rfl (exec_alloc (t := 114) rfl EA6.out) ?_)
                        | (refine wpList_skip rfl rfl (exec_store (t := 114) (xv := .pointer (some ⟨w5.heap.size, 0, none⟩)) (yv := .agg (rnC p).toArray) rfl rfl rfl ES6.out) ?_)
                        | (refine wpList_val rfl (exec_load (t := 114) (u := .pointer (some ⟨g, (kk - 1) * 68, none⟩)) rfl rfl LM.out) ?_)
                        | (refine wpList_skip rfl rfl (exec_store (t := 114) (xv := .pointer (some ⟨g, kk * 68, none⟩)) (yv := .agg (rnC z).toArray) rfl rfl rfl EST7.out) ?_)
                        | (refine wpList_val rfl (exec_load (t := 114) (u := .pointer (some ⟨w5.heap.size, 0, none⟩)) rfl rfl LB.out) ?_)
                        | (refine wpList_skip rfl rfl (exec_store (t := 114) (xv := .pointer (some ⟨g, (kk - 1) * 68, none⟩)) (yv := .agg (rnC p).toArray) rfl rfl rfl EST8.out) ?_)
                        | fail)
                      refine ⟨⟨A2, z :: B, by rw [HKM.out]; congr 1; have := HKM1.out; omega, HO8.out, HA8.out, hB8, bel8⟩, ?_⟩
                      have hkm1 := HKM1.out
                      have hkk0 := HKK0.out
                      simp only []
                      rw [hkk0]
                      omega
                    · rw [decide_eq_false hlt]
                      have own5 := hidMk (HFIN.out (Or.inr ⟨A2, z, by simp, hlt⟩) w5 ownw5 bel5)
                      clear ownw5 HFIN
                      go_wp2
                      rw [show ((i : Int) + 1) = ((i + 1 : Nat) : Int) by omega]
                      refine ⟨own5.out, ?_⟩
                      show n - ((i + 1 : Nat) : Int).toNat < n - (i : Int).toNat
                      omega
              · have hnx2 : selN k (NL.take (i + 1)) = selN k (NL.take i) := by rw [hnx]; simp [selN, hp, hu]
                have HNX := hidMk hnx2
                rw [decide_eq_false hu]
                simp only [Bool.not_false]
                clear hnx hnx2
                go_wp2
                rw [show ((i : Int) + 1) = ((i + 1 : Nat) : Int) by omega]
                refine ⟨⟨i + 1, L, rfl, hi, own'.out, by rw [HNX.out]; exact HPE.out, HSR.out, bel'⟩, ?_⟩
                show n - ((i + 1 : Nat) : Int).toNat < n - (i : Int).toNat
                omega
          · obtain rfl : i = n := by omega
            rw [List.take_of_length_le (by omega)] at hper
            obtain ⟨a5, c5, rfl, hra, _⟩ := own.open hokL
            have HKI := hidMk (kids_sel h.nd h.ok hper hsrt)
            obtain ⟨ln, hln⟩ : ∃ ln, L.length = ln := ⟨_, rfl⟩
            rw [hln]
            have HLN := hidMk hln
            have hlb : ln ≤ 1300000000000 := by omega
            have bel0 := bw _ belW
            have own9 : OwnI wr wr.heap.size (.slice none 0 0) [] := ⟨rfl, Or.inl ⟨rfl, rfl⟩⟩
            clear own hper hsrt hmemL hLl hln hN
            generalize wr = wx at *
            go_wp2
            clear c0
            go_loopw [9, 10] (fun v9 v10 wq => ∃ j : Nat, v10 = .int .i64 (j : Int) ∧ j ≤ ln ∧ OwnI wq wx.heap.size v9 ((L.take j).map (·.1)) ∧ Below wx.heap.size wx wq) (fun v9 v10 wq => ln - (match v10 with | .int _ z => z.toNat | _ => 0))
            case atStart => exact ⟨0, rfl, Nat.zero_le _, own9, Below.refl _ _⟩
            case round =>
              clear own9
              obtain ⟨j, rfl, hjn, own, belx⟩ := hrel
              have hLn := HLN.out
              by_cases hj : j < ln
              · have hxj : L[j]? = some L[j] := List.getElem?_eq_getElem (by omega)
                generalize L[j] = q at hxj
                have hqo := hokL q (List.mem_of_getElem? hxj)
                obtain ⟨gb, go, rfl, lgb, hrq⟩ : ∃ gb go, a5 = some ⟨gb, go, none⟩ ∧ gb < wx.heap.size ∧ wx.rangeAt gb (go + j * 68) (rnC q) := by
                  rcases hra with e | ⟨b, o, e, h1, h2⟩
                  · rw [e] at hxj; simp at hxj
                  · exact ⟨b, o, e, h1, by rw [Nat.mul_comm]; exact h2 j q hxj⟩
                have LQ0 := rn_id hqo (rangeAt_keep hrq (belx.block _ lgb))
                rw [Nat.add_zero] at LQ0
                have LQ := hidMk LQ0
                have EBS : Hid ((Instr.buildSlice 41 1 #[(0, q.1.v)]).run Try.prog wr = .ok (.slice (some ⟨wr.heap.size, 0, none⟩) 1 1) (wr.alloc (.cells q.1.c.toArray 37))) := run_bsI q.1 hqo.k wr
                have hlit := ids_lit wr q.1 37
                have bb : Below wr.heap.size wr (wr.alloc (.cells q.1.c.toArray 37)) := (Below.refl _ _).alloc (Nat.le_refl _) _
                generalize wr.alloc (.cells q.1.c.toArray 37) = w3 at *
                have own3 := own.below bb
                have bel3 : Below wx.heap.size wx w3 := belx.trans (bb.mono belx.size)
                have htl : ((L.take j).map (·.1)).length = j := by simp; omega
                obtain ⟨v9', w4, eap, own4, g4, _⟩ := run_appI w3 wx.heap.size u9 ((L.take j).map (·.1)) (some ⟨wr.heap.size, 0, none⟩) [q.1] 1 own3 hlit (by simpa using hqo.k) (by rw [htl]; simp only [List.length_cons, List.length_nil]; omega) bel3.size
                have EAP : Hid ((Builtin.append_ #[41, 41] 41 #[u9, .slice (some ⟨wr.heap.size, 0, none⟩) 1 1]).run Try.prog w3 = .ok v9' w4) := eap
                have bel4 : Below wx.heap.size wx w4 := bel3.trans (below_grown own3 bel3.size g4)
                have hnext : (L.take j).map (·.1) ++ [q.1] = (L.take (j + 1)).map (·.1) := by rw [List.take_add_one, hxj]; simp
                rw [hnext] at own4
                have HO4 := hidMk own4
                clear eap own4 g4 own3 hlit hnext htl hxj hrq LQ0 own hLn bb
                go_wp2_with (first
                  | (refine wpList_val rfl (exec_load (t := 37) (u := .pointer (some ⟨gb, go + j * 68, none⟩)) rfl rfl LQ.out) ?_)
                  | (refine wpList_run rfl (exec_buildSlice (t := 41) (n := 1) (xv := q.1.v) (v := .slice (some ⟨wr.heap.size, 0, none⟩) 1 1) rfl rfl EBS.out) ?_)
                  | (refine wpList_run rfl (exec_append (xv := u9) (yv := .slice (some ⟨wr.heap.size, 0, none⟩) 1 1) (v := v9') rfl rfl rfl EAP.out) ?_)
                  | fail)
                rw [show ((j : Int) + 1) = ((j + 1 : Nat) : Int) by omega]
                refine ⟨⟨j + 1, rfl, hj, HO4.out, bel4⟩, ?_⟩
                show ln - ((j + 1 : Nat) : Int).toNat < ln - (j : Int).toNat
                omega
              · obtain rfl : j = ln := by omega
                rw [List.take_of_length_le (by omega)] at own
                have HO := hidMk own
                clear own hLn hjn hj
                go_wp2
                go_ret
                exact ⟨_, _, rfl, HO.out.base (Nat.le_trans bel0.size (Nat.le_refl _)), HKI.out, bel0.trans (belx.mono bel0.size)⟩
end
end Go.Proofs.Ytoofljkgdjjllaa

namespace Go.Proofs.Ytoofljkgdjjllaa
open Go.RowKit
set_option linter.unusedVariables false
set_option linter.unusedSimpArgs false

def slLen : Value → Nat
  | .slice _ n _ => n
  | _ => 0
/-- A row without its first one: as one sees it. -/
theorem ids_tail {w : World} {a : Option Addr} {x : IdK} {L : List IdK} (h : IdsAt w a (x :: L)) : ∃ b off, a = some ⟨b, off, none⟩ ∧ b < w.heap.size ∧ w.rangeAt b off x.c ∧ IdsAt w (some ⟨b, off + 33, none⟩) L := by
  rcases h with h | ⟨b, off, e, hl, hr⟩
  · cases h
  · refine ⟨b, off, e, hl, by have := hr 0 x rfl; simpa using this, Or.inr ⟨b, off + 33, rfl, hl, fun i y hy => ?_⟩⟩
    have := hr (i + 1) y (by simpa using hy)
    rwa [show off + 33 * (i + 1) = off + 33 + 33 * i by omega] at this
theorem IdsAt.keepT {w w' : World} {a : Option Addr} {L : List IdK} (h : IdsAt w a L) (hb : ∀ b off, a = some ⟨b, off, none⟩ → b < w.heap.size → w'.heap[b]? = w.heap[b]?) (hs : w.heap.size ≤ w'.heap.size) : IdsAt w' a L := by
  rcases h with h | ⟨b, off, e, hl, hr⟩
  · exact .inl h
  · exact .inr ⟨b, off, e, Nat.lt_of_lt_of_le hl hs, fun i x hx => rangeAt_keep (hr i x hx) (hb b off e hl)⟩
section
variable (d : Nat) (NL : List RN) (pv : Value)
theorem ref_dom {w : World} (h : RefAt w d NL pv) : Dom (lookN NL) (NL.map (·.1)) := by
  refine ⟨fun x => ⟨fun hx => ?_, fun hx => ?_⟩, h.nd, fun x hx => ?_⟩
  · obtain ⟨p, hp, rfl⟩ := List.mem_map.1 hx
    unfold lookN
    rw [M.look_of_mem h.nd hp]; rfl
  · obtain ⟨v, hv⟩ := Option.isSome_iff_exists.1 hx
    exact List.mem_map.2 ⟨_, M.look_mem hv, rfl⟩
  · obtain ⟨p, hp, rfl⟩ := List.mem_map.1 hx
    exact (h.ok p hp).k
set_option maxRecDepth 100000 in
set_option maxHeartbeats 4000000 in
theorem rwalk_any (w : World) (h : RefAt w d NL pv) (hn : NL.length ≤ 1300000000000) (hf : Forest (lookN NL)) :
    Calls Try.prog 35 #[.pointer (some ⟨d, 0, none⟩)] w fun e w' => ∃ v L, e = .returned v ∧ OwnI w' w.heap.size v L ∧ IsWalk (lookN NL) L ∧ Below w.heap.size w w' := by
  have lt := h.lt
  have hD := ref_dom d NL pv h
  obtain ⟨Wk, hWk⟩ := walk_exist hf hD
  have hWl := hWk.le hf hD
  rw [List.length_map] at hWl
  have HK := hidMk (fun (k : IdK) (hk : k.ok) (W : World) (bb : Below w.heap.size w W) => rkids_any d NL pv k W (h.below bb) hk hn hf)
  have hWk' := hWk
  obtain ⟨K0, hK0, hF0⟩ := hWk
  have hle0 : K0.length ≤ NL.length := by have := hF0.sub.length_le; omega
  have HD := hidMk hD
  go_enter Try.func35, Try.ntmps35
  go_upto_region 4 with fail
  go_wp2_with (first
    | (refine wpList_val rfl (exec_build0 rfl (build_id _)) ?_)
    | (go_at_call 36; refine (HK.out zId zId_ok _ (Below.refl _ _)).mono ?_; rintro e w1 ⟨v, L, rfl, own, hik, b1⟩; obtain rfl := hik.unique hK0; have HO := hidMk own; clear own)
    | fail)
  go_loopw [3, 4] (fun v3 v4 wr => ∃ (Lo A out : List IdK), OwnI wr w.heap.size v3 Lo ∧ (∃ a c, v4 = .slice a A.length c ∧ IdsAt wr a A ∧ A.length ≤ c) ∧ Flat (lookN NL) A out ∧ Lo ++ out = Wk ∧ (∀ a l c, v4 = .slice (some a) l c → v3.ownBlock ≠ some a.block) ∧ (∀ x ∈ A, x.ok) ∧ (∀ x ∈ Lo, x.ok) ∧ Below w.heap.size w wr) (fun v3 v4 wr => Wk.length - slLen v3)
  case atStart =>
    exact ⟨[], L, Wk, ⟨rfl, Or.inl ⟨rfl, rfl⟩⟩, HO.out.open hK0.ok, hF0, rfl, fun a l c e => (by simp [Value.ownBlock]), hK0.ok, fun x hx => (by cases hx), b1⟩
  case round =>
    clear HO b1 hF0 hle0 hK0
    obtain ⟨Lo, A, out, own3, is4, hF, hW, hap, hokA, hokL, bel⟩ := hrel
    obtain ⟨a4, c4, rfl, ia4, hlc4⟩ := is4
    have HOL := hidMk hokL
    have HU3 : Hid (∃ a c, u3 = .slice a Lo.length c) := by obtain ⟨a, c, e, _⟩ := own3.open hokL; exact ⟨a, c, e⟩
    clear hokL
    cases hF with
    | nil =>
      have HO3 := hidMk own3
      have HWk := hidMk hWk'
      rw [List.append_nil] at hW
      subst hW
      clear own3 ia4 hap hokA hWk'
      simp only [List.length_nil]
      go_wp2
      go_ret
      exact ⟨_, _, rfl, HO3.out, HWk.out, bel⟩
    | @cons x K rest out1 hK hF1 =>
      have hxo : x.ok := hokA x (by simp)
      have hokR : ∀ y ∈ rest, y.ok := fun y hy => hokA y (List.mem_cons_of_mem _ hy)
      have hWl2 := congrArg List.length hW
      rw [List.length_append, List.length_cons] at hWl2
      have hsub1 := hF1.sub.length_le
      rw [List.length_append] at hsub1
      obtain ⟨b, o, rfl, lb, hr0, ia4r⟩ := ids_tail ia4
      have hap4 := hap _ _ _ rfl
      obtain ⟨m, hm⟩ : ∃ m, rest.length = m := ⟨_, rfl⟩
      obtain ⟨n4, hn4⟩ : ∃ n4, (x :: rest).length = n4 := ⟨_, rfl⟩
      have hn4m : n4 = m + 1 := by rw [← hn4, List.length_cons, hm]
      rw [hn4]
      have hn0 : 0 < n4 := by omega
      have hn1 : 1 ≤ n4 := by omega
      have HL1 := hidMk (load_id_at hxo hr0)
      obtain ⟨wz, ea, es⟩ := id_new wr x hxo
      obtain ⟨wa, hwa⟩ : ∃ wa, wr.alloc (.cells x.c.toArray 37) = wa := ⟨_, rfl⟩
      have ba : Below wr.heap.size wr wa := by rw [← hwa]; exact (Below.refl _ _).alloc (Nat.le_refl _) _
      have za : wa.heap.size = wr.heap.size + 1 := by rw [← hwa]; simp
      have hxa : IdAt wa wr.heap.size x := by rw [← hwa]; exact heap_alloc_new _ _
      rw [hwa] at es
      have HL2 := hidMk (load_id hxo hxa)
      have ebs := run_bsI x hxo wa
      obtain ⟨wb, hwb⟩ : ∃ wb, wa.alloc (.cells x.c.toArray 37) = wb := ⟨_, rfl⟩
      have bb : Below wa.heap.size wa wb := by rw [← hwb]; exact (Below.refl _ _).alloc (Nat.le_refl _) _
      have zb : wb.heap.size = wa.heap.size + 1 := by rw [← hwb]; simp
      have hlit := ids_lit wa x 37
      rw [hwb] at ebs hlit
      have own3b := (own3.below ba).below bb
      have hl3 : ∀ j, u3.ownBlock = some j → j < wr.heap.size := fun j hj => by obtain ⟨_, c, hc⟩ := own3.ge j hj; exact (Array.getElem?_eq_some_iff.1 hc).1
      have belb : Below w.heap.size w wb := (bel.trans (ba.mono bel.size)).trans (bb.mono (by have := bel.size; omega))
      have hlo : Lo.length + 1 ≤ 5600000000000 := by omega
      obtain ⟨v3', wc, eap, own3c, gc, ob3⟩ := run_appI wb w.heap.size u3 Lo (some ⟨wa.heap.size, 0, none⟩) [x] 1 own3b hlit (by simpa using hxo) hlo belb.size
      have belc : Below w.heap.size w wc := belb.trans (below_grown own3b belb.size gc)
      have hkeep : ∀ j, j < wr.heap.size → u3.ownBlock ≠ some j → wc.heap[j]? = wr.heap[j]? := fun j hj hne => (gc.block j (by omega) (fun e => hne e.symm)).trans ((bb.block j (by omega)).trans (ba.block j hj))
      have hxc : IdAt wc wr.heap.size x := (gc.block _ (by omega) (fun e => by have := hl3 _ e.symm; omega)).trans ((bb.block _ (by omega)).trans hxa)
      have hsc : wr.heap.size ≤ wc.heap.size := by have := gc.size; omega
      have ia4c : IdsAt wc (some ⟨b, o + 33, none⟩) rest := ia4r.keepT (fun b' o' e hl => by
        simp only [Option.some.injEq, Addr.mk.injEq] at e
        obtain ⟨rfl, _⟩ := e
        exact hkeep b hl hap4) hsc
      have HL3 := hidMk (load_id hxo hxc)
      have HK2 := hidMk (HK.out x hxo wc belc)
      have HBS : Hid ((Instr.buildSlice 41 1 #[(0, x.v)]).run Try.prog wa = .ok (.slice (some ⟨wa.heap.size, 0, none⟩) 1 1) wb) := ebs
      have HAP : Hid ((Builtin.append_ #[41, 41] 41 #[u3, .slice (some ⟨wa.heap.size, 0, none⟩) 1 1]).run Try.prog wb = .ok v3' wc) := eap
      have HEA := hidMk ea
      have HES := hidMk es
      have HW := hidMk hW
      have HLR := hidMk (And.intro hm hn4m)
      have hK0 := hK
      have HWL2 := hidMk hWl2
      have HZ := hidMk (And.intro za zb)
      have hkle : K.length + rest.length ≤ 5600000000000 := by omega
      have hmn : m + 1 ≤ 5600000000000 := by omega
      have lb' : b < wc.heap.size := by omega
      clear hW hm hn4 hWl2 za zb ebs eap ea es hwa hwb hlit own3b own3 hxa hxc hsub1 hWk' hWl ia4 ia4r hr0 hap hn
      go_upto_region 7 with (first
        | (refine wpList_val rfl (exec_load (t := 37) (u := .pointer (some ⟨b, o, none⟩)) rfl rfl HL1.out) ?_)
        | (refine wpList_run rfl (exec_alloc (t := 37) rfl HEA.out) ?_)
        | (refine wpList_skip rfl rfl (exec_store (t := 37) rfl rfl rfl HES.out) ?_)
        | fail)
      simp only [Act.put, List.setIfInBounds_toArray, List.set_cons_zero, List.set_cons_succ]
      clear HL1 HEA HES
      go_upto_region 9 with (first
        | (refine wpList_val rfl (exec_load (t := 37) (u := .pointer (some ⟨wr.heap.size, 0, none⟩)) rfl rfl HL2.out) ?_)
        | (refine wpList_run rfl (exec_buildSlice (t := 41) (n := 1) (xv := x.v) (v := .slice (some ⟨wa.heap.size, 0, none⟩) 1 1) rfl rfl HBS.out) ?_)
        | (refine wpList_run rfl (exec_append (xv := u3) (yv := .slice (some ⟨wa.heap.size, 0, none⟩) 1 1) (v := v3') rfl rfl rfl HAP.out) ?_)
        | (refine wpList_val rfl (exec_load (t := 37) (u := .pointer (some ⟨wr.heap.size, 0, none⟩)) rfl rfl HL3.out) ?_)
        | (go_at_call 36; refine HK2.out.mono ?_; rintro e wd ⟨v6, K', rfl, own6, hik, bd⟩; obtain rfl := hik.unique hK0; have HO6 := hidMk own6; clear own6)
        | fail)
      clear HL2 HL3 HK2 HBS HAP
      have ia4d := ia4c.below bd
      have beld : Below w.heap.size w wd := belc.trans (bd.mono belc.size)
      have hsd := bd.size
      have HM := HLR.out.1
      have hcl : m + 1 ≤ c4 := by rw [List.length_cons, HM] at hlc4; exact hlc4
      obtain ⟨ay, cy, iay, hform⟩ : ∃ ay cy, IdsAt wd ay rest ∧ ((c4 = 1 ∧ m = 0 ∧ ay = some ⟨b, o, none⟩ ∧ cy = 0) ∨ (∃ cc, c4 = cc + 2 ∧ ay = some ⟨b, o + 33, none⟩ ∧ cy = cc + 1)) := by
        by_cases e : c4 = 1
        · have hr : rest = [] := List.eq_nil_of_length_eq_zero (by omega)
          exact ⟨some ⟨b, o, none⟩, 0, Or.inl hr, Or.inl ⟨e, by omega, rfl, rfl⟩⟩
        · exact ⟨some ⟨b, o + 33, none⟩, c4 - 1, ia4d, Or.inr ⟨c4 - 2, by omega, rfl, by omega⟩⟩
      obtain ⟨v4', w9, eap9, own9, g9, _⟩ := run_appI wd wc.heap.size v6 K' ay rest cy HO6.out iay hokR hkle hsd
      have bel9c : Below wc.heap.size wd w9 := below_grown HO6.out hsd g9
      have bel9 : Below w.heap.size w w9 := beld.trans (bel9c.mono belc.size)
      have own3d := own3c.below bd
      have l3c : ∀ j, v3'.ownBlock = some j → j < wc.heap.size := fun j hj => by obtain ⟨_, c, hc⟩ := own3c.ge j hj; exact (Array.getElem?_eq_some_iff.1 hc).1
      have own39 := own3d.keep (w' := w9) (fun j hj => bel9c.block j (l3c j hj))
      have hok' : ∀ y ∈ K' ++ rest, y.ok := fun y hy => by
        rcases List.mem_append.1 hy with hy | hy
        · exact hK0.ok y hy
        · exact hokR y hy
      have his := own9.open hok'
      have hap9 : ∀ a l c, v4' = .slice (some a) l c → v3'.ownBlock ≠ some a.block := fun a l c e q => by
        have h1 := (own9.ge a.block (by rw [e]; rfl)).1
        have h2 := l3c _ q
        omega
      have EAP9 : Hid ((Builtin.append_ #[41, 41] 41 #[v6, .slice ay m cy]).run Try.prog wd = .ok v4' w9) := by rw [← HM]; exact eap9
      have HF := hidMk own39
      have HG := hidMk his
      have HFM := hidMk HM
      have fin : (∃ (Lo' A' out' : List IdK), OwnI w9 w.heap.size v3' Lo' ∧ (∃ a c, v4' = .slice a A'.length c ∧ IdsAt w9 a A' ∧ A'.length ≤ c) ∧ Flat (lookN NL) A' out' ∧ Lo' ++ out' = Wk ∧ (∀ a l c, v4' = .slice (some a) l c → v3'.ownBlock ≠ some a.block) ∧ (∀ x ∈ A', x.ok) ∧ (∀ x ∈ Lo', x.ok) ∧ Below w.heap.size w w9) ∧
          Wk.length - slLen v3' < Wk.length - slLen u3 := by
        have hokLo : ∀ y ∈ Lo ++ [x], y.ok := fun y hy => by
          rcases List.mem_append.1 hy with hy | hy
          · exact HOL.out y hy
          · simp at hy; subst hy; exact hxo
        refine ⟨⟨Lo ++ [x], K' ++ rest, out1, HF.out, HG.out, hF1, by rw [List.append_assoc]; exact HW.out, hap9, hok', hokLo, bel9⟩, ?_⟩
        obtain ⟨a3, c3, e3, _⟩ := HF.out.open hokLo
        obtain ⟨a9, c9, e9⟩ := HU3.out
        rw [e3, e9]
        have := HWL2.out
        simp only [slLen, List.length_append, List.length_cons, List.length_nil]
        omega
      have FIN := hidMk fin
      clear fin own39 his own9 own3d own3c eap9 g9 ia4d ia4c HO6 HM hn4m hap9 hlc4 iay
      rcases hform with ⟨rfl, rfl, rfl, rfl⟩ | ⟨cc, rfl, rfl, rfl⟩
      · go_wp2_with (first
          | (refine wpList_run rfl (exec_append (xv := v6) (yv := .slice (some ⟨b, o, none⟩) 0 0) (v := v4') rfl rfl rfl EAP9.out) ?_)
          | fail)
        exact FIN.out
      · go_wp2_with (first
          | (refine wpList_run rfl (exec_append (xv := v6) (yv := .slice (some ⟨b, o + 33, none⟩) m (cc + 1)) (v := v4') rfl rfl rfl EAP9.out) ?_)
          | fail)
        exact FIN.out
/-- What the document's tree tells. -/
theorem tells_ref {w : World} (h : RefAt w d NL pv) (hf : Forest (lookN NL)) (hn : NL.length ≤ 1300000000000) :
    Tells w (.pointer (some ⟨d, 0, none⟩)) (lookN NL) (NL.map (·.1)) 34 35 36 38 40 41 := {
  len := fun W b => by rw [List.length_map]; exact rlen_any d NL pv W (h.below b)
  walk := fun W b => (rwalk_any d NL pv W (h.below b) hn hf).mono fun e w' ⟨v, L, h1, h2, h3, h4⟩ => ⟨v, L, h1, own_is h2 (walk_ok (ref_dom d NL pv h) h3), h3, h4⟩
  kids := fun k hk W b => (rkids_any d NL pv k W (h.below b) hk hn hf).mono fun e w' ⟨v, L, h1, h2, h3, h4⟩ => ⟨v, L, h1, own_is h2 h3.ok, h3, h4⟩
  under := fun k hk W b => runder_any d NL pv k W (h.below b) hk hn hf
  live := fun k hk W b => rlive_any d NL pv k W (h.below b) hk hn hf
  deep := fun k hk W b => rdeep_any d NL pv k W (h.below b) hk hn hf }
end
end Go.Proofs.Ytoofljkgdjjllaa

