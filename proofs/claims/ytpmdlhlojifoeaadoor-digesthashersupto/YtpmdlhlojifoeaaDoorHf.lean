import Derived.Test.YtpmdlhlojifoeaaDoorHe
namespace Go.Proofs.YtpmdlhlojifoeaaDoor
open Go.RowKit
set_option linter.unusedVariables false
set_option linter.unusedSimpArgs false

def ops35 : Array Oper := #[{ dst := some 136, op := Op.move (Operand.tmp 3), type := 37, pos := "law.go:85", after := #[], guard := none }, { dst := some 137, op := Op.move (Operand.tmp 10), type := 3, pos := "law.go:85", after := #[], guard := none }, { dst := some 138, op := Op.indexAddr 37 (Operand.tmp 136) (Operand.tmp 137), type := 0, pos := "law.go:85", after := #[{ on := 0, ground := Ground.data }, { on := 1, ground := Ground.data }], guard := none }, { dst := some 139, op := Op.load 35 (Operand.tmp 138), type := 35, pos := "law.go:85", after := #[{ on := 2, ground := Ground.data }], guard := none }, { dst := some 140, op := Op.binOp BinOp.eql 35 (Operand.tmp 139) (Operand.const (Value.pointer none)) 35, type := 4, pos := "law.go:85", after := #[{ on := 3, ground := Ground.data }], guard := none }, { dst := some 141, op := Op.move (Operand.tmp 4), type := 40, pos := "law.go:85", after := #[], guard := none }, { dst := some 142, op := Op.move (Operand.tmp 10), type := 3, pos := "law.go:85", after := #[], guard := none }, { dst := some 143, op := Op.indexAddr 40 (Operand.tmp 141) (Operand.tmp 142), type := 0, pos := "law.go:85", after := #[{ on := 5, ground := Ground.data }, { on := 6, ground := Ground.data }], guard := none }, { dst := some 144, op := Op.load 38 (Operand.tmp 143), type := 38, pos := "law.go:85", after := #[{ on := 7, ground := Ground.data }], guard := none }, { dst := some 145, op := Op.binOp BinOp.eql 38 (Operand.tmp 144) (Operand.const (Value.pointer none)) 38, type := 4, pos := "law.go:85", after := #[{ on := 8, ground := Ground.data }], guard := none }, { dst := some 146, op := Op.binOp BinOp.neq 4 (Operand.tmp 140) (Operand.tmp 145) 4, type := 4, pos := "law.go:85", after := #[{ on := 4, ground := Ground.data }, { on := 9, ground := Ground.data }], guard := none }]
theorem last_nil (lb lc mb mc N j : Nat) (a : Act) (w : World) (Q : Exit → Act → World → Prop) (hsz : a.tmps.size = 178)
    (h3 : a.tmps.getD 3 undef = .slice (some ⟨lb, 0, none⟩) N lc)
    (h4 : a.tmps.getD 4 undef = .slice (some ⟨mb, 0, none⟩) N mc)
    (h10 : a.tmps.getD 10 undef = .int .i64 (j : Int))
    (hj : j < N) (hj0 : (0 : Int) ≤ (j : Int)) (hj1 : (j : Int) < (N : Int)) (c1 : w.cell? ⟨lb, j, none⟩ = some (.pointer none)) (c2 : w.cell? ⟨mb, j, none⟩ = some (.pointer none))
    (h : ∀ (a' : Act) (w' : World), w' = w.drew → a' = (((((((((((a).put (some 136) (.slice (some ⟨lb, 0, none⟩) N lc)).put (some 137) (.int .i64 (j : Int))).put (some 138) (.pointer (some ⟨lb, j, none⟩))).put (some 139) (.pointer none)).put (some 140) (.bool true)).put (some 141) (.slice (some ⟨mb, 0, none⟩) N mc)).put (some 142) (.int .i64 (j : Int))).put (some 143) (.pointer (some ⟨mb, j, none⟩))).put (some 144) (.pointer none)).put (some 145) (.bool true)).put (some 146) (.bool false) → Q .normal a' w') :
    (Code.region 35 ops35 true).wp Tryd.prog Q a w := by
  refine wp_region_noPanic ?_
  refine wp_region_held_drew (S := fun w' => w'.cell? ⟨lb, j, none⟩ = some (.pointer none) ∧ w'.cell? ⟨mb, j, none⟩ = some (.pointer none)) (by kernel_rfl) (⟨c1, c2⟩) (fun hHeld => ?_)
  refine wpAnyH_take (i := 0) (oi := { dst := some 136, op := Op.move (Operand.tmp 3), type := 37, pos := "law.go:85", after := #[], guard := none }) (v := .slice (some ⟨lb, 0, none⟩) N lc) rfl (by kernel_rfl) (by kernel_rfl) (by kernel_rfl) (fun _ _ _ h => h) (Or.inl ⟨by rfl, fun w1 hw => by go_simp⟩) hHeld ?_
  obtain ⟨a1, e1⟩ : ∃ act, act = a.put (some 136) (.slice (some ⟨lb, 0, none⟩) N lc) := ⟨_, rfl⟩
  rw [← e1] at h ⊢
  have z1 : a1.tmps.size = 178 := by rw [e1, put_size]; exact hsz
  clear h3
  replace h4 : a1.tmps.getD 4 undef = .slice (some ⟨mb, 0, none⟩) N mc := by rw [e1, put_ne _ _ _ _ (by decide)]; exact h4
  replace h10 : a1.tmps.getD 10 undef = .int .i64 (j : Int) := by rw [e1, put_ne _ _ _ _ (by decide)]; exact h10
  have t136 : a1.tmps.getD 136 undef = .slice (some ⟨lb, 0, none⟩) N lc := by rw [e1]; exact put_same _ _ _ (by omega)
  clear e1 hsz
  refine wpAnyH_take (i := 1) (oi := { dst := some 137, op := Op.move (Operand.tmp 10), type := 3, pos := "law.go:85", after := #[], guard := none }) (v := .int .i64 (j : Int)) rfl (by kernel_rfl) (by kernel_rfl) (by kernel_rfl) (fun _ _ _ h => h) (Or.inl ⟨by rfl, fun w1 hw => by go_simp⟩) hHeld ?_
  obtain ⟨a2, e2⟩ : ∃ act, act = a1.put (some 137) (.int .i64 (j : Int)) := ⟨_, rfl⟩
  rw [← e2] at h ⊢
  have z2 : a2.tmps.size = 178 := by rw [e2, put_size]; exact z1
  replace h4 : a2.tmps.getD 4 undef = .slice (some ⟨mb, 0, none⟩) N mc := by rw [e2, put_ne _ _ _ _ (by decide)]; exact h4
  replace h10 : a2.tmps.getD 10 undef = .int .i64 (j : Int) := by rw [e2, put_ne _ _ _ _ (by decide)]; exact h10
  replace t136 : a2.tmps.getD 136 undef = .slice (some ⟨lb, 0, none⟩) N lc := by rw [e2, put_ne _ _ _ _ (by decide)]; exact t136
  have t137 : a2.tmps.getD 137 undef = .int .i64 (j : Int) := by rw [e2]; exact put_same _ _ _ (by omega)
  clear e2 z1
  refine wpAnyH_take (i := 2) (oi := { dst := some 138, op := Op.indexAddr 37 (Operand.tmp 136) (Operand.tmp 137), type := 0, pos := "law.go:85", after := #[{ on := 0, ground := Ground.data }, { on := 1, ground := Ground.data }], guard := none }) (v := .pointer (some ⟨lb, j, none⟩)) rfl (by kernel_rfl) (by kernel_rfl) (by kernel_rfl) (fun _ _ _ h => h) (Or.inl ⟨by rfl, fun w1 hw => by go_simp⟩) hHeld ?_
  obtain ⟨a3, e3⟩ : ∃ act, act = a2.put (some 138) (.pointer (some ⟨lb, j, none⟩)) := ⟨_, rfl⟩
  rw [← e3] at h ⊢
  have z3 : a3.tmps.size = 178 := by rw [e3, put_size]; exact z2
  replace h4 : a3.tmps.getD 4 undef = .slice (some ⟨mb, 0, none⟩) N mc := by rw [e3, put_ne _ _ _ _ (by decide)]; exact h4
  replace h10 : a3.tmps.getD 10 undef = .int .i64 (j : Int) := by rw [e3, put_ne _ _ _ _ (by decide)]; exact h10
  clear t136
  clear t137
  have t138 : a3.tmps.getD 138 undef = .pointer (some ⟨lb, j, none⟩) := by rw [e3]; exact put_same _ _ _ (by omega)
  clear e3 z2
  refine wpAnyH_take (i := 3) (oi := { dst := some 139, op := Op.load 35 (Operand.tmp 138), type := 35, pos := "law.go:85", after := #[{ on := 2, ground := Ground.data }], guard := none }) (v := .pointer none) rfl (by kernel_rfl) (by kernel_rfl) (by kernel_rfl) (fun _ _ _ h => h) (Or.inl ⟨by rfl, fun w1 hw => by obtain ⟨c1, c2⟩ := hw; go_simp⟩) hHeld ?_
  obtain ⟨a4, e4⟩ : ∃ act, act = a3.put (some 139) (.pointer none) := ⟨_, rfl⟩
  rw [← e4] at h ⊢
  have z4 : a4.tmps.size = 178 := by rw [e4, put_size]; exact z3
  replace h4 : a4.tmps.getD 4 undef = .slice (some ⟨mb, 0, none⟩) N mc := by rw [e4, put_ne _ _ _ _ (by decide)]; exact h4
  replace h10 : a4.tmps.getD 10 undef = .int .i64 (j : Int) := by rw [e4, put_ne _ _ _ _ (by decide)]; exact h10
  clear t138
  have t139 : a4.tmps.getD 139 undef = .pointer none := by rw [e4]; exact put_same _ _ _ (by omega)
  clear e4 z3
  refine wpAnyH_take (i := 4) (oi := { dst := some 140, op := Op.binOp BinOp.eql 35 (Operand.tmp 139) (Operand.const (Value.pointer none)) 35, type := 4, pos := "law.go:85", after := #[{ on := 3, ground := Ground.data }], guard := none }) (v := .bool true) rfl (by kernel_rfl) (by kernel_rfl) (by kernel_rfl) (fun _ _ _ h => h) (Or.inl ⟨by rfl, fun w1 hw => by go_simp⟩) hHeld ?_
  obtain ⟨a5, e5⟩ : ∃ act, act = a4.put (some 140) (.bool true) := ⟨_, rfl⟩
  rw [← e5] at h ⊢
  have z5 : a5.tmps.size = 178 := by rw [e5, put_size]; exact z4
  replace h4 : a5.tmps.getD 4 undef = .slice (some ⟨mb, 0, none⟩) N mc := by rw [e5, put_ne _ _ _ _ (by decide)]; exact h4
  replace h10 : a5.tmps.getD 10 undef = .int .i64 (j : Int) := by rw [e5, put_ne _ _ _ _ (by decide)]; exact h10
  clear t139
  have t140 : a5.tmps.getD 140 undef = .bool true := by rw [e5]; exact put_same _ _ _ (by omega)
  clear e5 z4
  refine wpAnyH_take (i := 5) (oi := { dst := some 141, op := Op.move (Operand.tmp 4), type := 40, pos := "law.go:85", after := #[], guard := none }) (v := .slice (some ⟨mb, 0, none⟩) N mc) rfl (by kernel_rfl) (by kernel_rfl) (by kernel_rfl) (fun _ _ _ h => h) (Or.inl ⟨by rfl, fun w1 hw => by go_simp⟩) hHeld ?_
  obtain ⟨a6, e6⟩ : ∃ act, act = a5.put (some 141) (.slice (some ⟨mb, 0, none⟩) N mc) := ⟨_, rfl⟩
  rw [← e6] at h ⊢
  have z6 : a6.tmps.size = 178 := by rw [e6, put_size]; exact z5
  clear h4
  replace h10 : a6.tmps.getD 10 undef = .int .i64 (j : Int) := by rw [e6, put_ne _ _ _ _ (by decide)]; exact h10
  replace t140 : a6.tmps.getD 140 undef = .bool true := by rw [e6, put_ne _ _ _ _ (by decide)]; exact t140
  have t141 : a6.tmps.getD 141 undef = .slice (some ⟨mb, 0, none⟩) N mc := by rw [e6]; exact put_same _ _ _ (by omega)
  clear e6 z5
  refine wpAnyH_take (i := 6) (oi := { dst := some 142, op := Op.move (Operand.tmp 10), type := 3, pos := "law.go:85", after := #[], guard := none }) (v := .int .i64 (j : Int)) rfl (by kernel_rfl) (by kernel_rfl) (by kernel_rfl) (fun _ _ _ h => h) (Or.inl ⟨by rfl, fun w1 hw => by go_simp⟩) hHeld ?_
  obtain ⟨a7, e7⟩ : ∃ act, act = a6.put (some 142) (.int .i64 (j : Int)) := ⟨_, rfl⟩
  rw [← e7] at h ⊢
  have z7 : a7.tmps.size = 178 := by rw [e7, put_size]; exact z6
  clear h10
  replace t140 : a7.tmps.getD 140 undef = .bool true := by rw [e7, put_ne _ _ _ _ (by decide)]; exact t140
  replace t141 : a7.tmps.getD 141 undef = .slice (some ⟨mb, 0, none⟩) N mc := by rw [e7, put_ne _ _ _ _ (by decide)]; exact t141
  have t142 : a7.tmps.getD 142 undef = .int .i64 (j : Int) := by rw [e7]; exact put_same _ _ _ (by omega)
  clear e7 z6
  refine wpAnyH_take (i := 7) (oi := { dst := some 143, op := Op.indexAddr 40 (Operand.tmp 141) (Operand.tmp 142), type := 0, pos := "law.go:85", after := #[{ on := 5, ground := Ground.data }, { on := 6, ground := Ground.data }], guard := none }) (v := .pointer (some ⟨mb, j, none⟩)) rfl (by kernel_rfl) (by kernel_rfl) (by kernel_rfl) (fun _ _ _ h => h) (Or.inl ⟨by rfl, fun w1 hw => by go_simp⟩) hHeld ?_
  obtain ⟨a8, e8⟩ : ∃ act, act = a7.put (some 143) (.pointer (some ⟨mb, j, none⟩)) := ⟨_, rfl⟩
  rw [← e8] at h ⊢
  have z8 : a8.tmps.size = 178 := by rw [e8, put_size]; exact z7
  replace t140 : a8.tmps.getD 140 undef = .bool true := by rw [e8, put_ne _ _ _ _ (by decide)]; exact t140
  clear t141
  clear t142
  have t143 : a8.tmps.getD 143 undef = .pointer (some ⟨mb, j, none⟩) := by rw [e8]; exact put_same _ _ _ (by omega)
  clear e8 z7
  refine wpAnyH_take (i := 8) (oi := { dst := some 144, op := Op.load 38 (Operand.tmp 143), type := 38, pos := "law.go:85", after := #[{ on := 7, ground := Ground.data }], guard := none }) (v := .pointer none) rfl (by kernel_rfl) (by kernel_rfl) (by kernel_rfl) (fun _ _ _ h => h) (Or.inl ⟨by rfl, fun w1 hw => by obtain ⟨c1, c2⟩ := hw; go_simp⟩) hHeld ?_
  obtain ⟨a9, e9⟩ : ∃ act, act = a8.put (some 144) (.pointer none) := ⟨_, rfl⟩
  rw [← e9] at h ⊢
  have z9 : a9.tmps.size = 178 := by rw [e9, put_size]; exact z8
  replace t140 : a9.tmps.getD 140 undef = .bool true := by rw [e9, put_ne _ _ _ _ (by decide)]; exact t140
  clear t143
  have t144 : a9.tmps.getD 144 undef = .pointer none := by rw [e9]; exact put_same _ _ _ (by omega)
  clear e9 z8
  refine wpAnyH_take (i := 9) (oi := { dst := some 145, op := Op.binOp BinOp.eql 38 (Operand.tmp 144) (Operand.const (Value.pointer none)) 38, type := 4, pos := "law.go:85", after := #[{ on := 8, ground := Ground.data }], guard := none }) (v := .bool true) rfl (by kernel_rfl) (by kernel_rfl) (by kernel_rfl) (fun _ _ _ h => h) (Or.inl ⟨by rfl, fun w1 hw => by go_simp⟩) hHeld ?_
  obtain ⟨a10, e10⟩ : ∃ act, act = a9.put (some 145) (.bool true) := ⟨_, rfl⟩
  rw [← e10] at h ⊢
  have z10 : a10.tmps.size = 178 := by rw [e10, put_size]; exact z9
  replace t140 : a10.tmps.getD 140 undef = .bool true := by rw [e10, put_ne _ _ _ _ (by decide)]; exact t140
  clear t144
  have t145 : a10.tmps.getD 145 undef = .bool true := by rw [e10]; exact put_same _ _ _ (by omega)
  clear e10 z9
  refine wpAnyH_take (i := 10) (oi := { dst := some 146, op := Op.binOp BinOp.neq 4 (Operand.tmp 140) (Operand.tmp 145) 4, type := 4, pos := "law.go:85", after := #[{ on := 4, ground := Ground.data }, { on := 9, ground := Ground.data }], guard := none }) (v := .bool false) rfl (by kernel_rfl) (by kernel_rfl) (by kernel_rfl) (fun _ _ _ h => h) (Or.inl ⟨by rfl, fun w1 hw => by go_simp⟩) hHeld ?_
  obtain ⟨a11, e11⟩ : ∃ act, act = a10.put (some 146) (.bool false) := ⟨_, rfl⟩
  rw [← e11] at h ⊢
  have z11 : a11.tmps.size = 178 := by rw [e11, put_size]; exact z10
  clear t140
  clear t145
  clear e11 z10
  exact wpAnyH_done (by kernel_rfl) (NoPanic.normal (h _ _ rfl rfl)) _
theorem last_some (lb lc mb mc N j : Nat) (x y : Addr) (a : Act) (w : World) (Q : Exit → Act → World → Prop) (hsz : a.tmps.size = 178)
    (h3 : a.tmps.getD 3 undef = .slice (some ⟨lb, 0, none⟩) N lc)
    (h4 : a.tmps.getD 4 undef = .slice (some ⟨mb, 0, none⟩) N mc)
    (h10 : a.tmps.getD 10 undef = .int .i64 (j : Int))
    (hj : j < N) (hj0 : (0 : Int) ≤ (j : Int)) (hj1 : (j : Int) < (N : Int)) (c1 : w.cell? ⟨lb, j, none⟩ = some (.pointer (some x))) (c2 : w.cell? ⟨mb, j, none⟩ = some (.pointer (some y)))
    (h : ∀ (a' : Act) (w' : World), w' = w.drew → a' = (((((((((((a).put (some 136) (.slice (some ⟨lb, 0, none⟩) N lc)).put (some 137) (.int .i64 (j : Int))).put (some 138) (.pointer (some ⟨lb, j, none⟩))).put (some 139) (.pointer (some x))).put (some 140) (.bool false)).put (some 141) (.slice (some ⟨mb, 0, none⟩) N mc)).put (some 142) (.int .i64 (j : Int))).put (some 143) (.pointer (some ⟨mb, j, none⟩))).put (some 144) (.pointer (some y))).put (some 145) (.bool false)).put (some 146) (.bool false) → Q .normal a' w') :
    (Code.region 35 ops35 true).wp Tryd.prog Q a w := by
  refine wp_region_noPanic ?_
  refine wp_region_held_drew (S := fun w' => w'.cell? ⟨lb, j, none⟩ = some (.pointer (some x)) ∧ w'.cell? ⟨mb, j, none⟩ = some (.pointer (some y))) (by kernel_rfl) (⟨c1, c2⟩) (fun hHeld => ?_)
  refine wpAnyH_take (i := 0) (oi := { dst := some 136, op := Op.move (Operand.tmp 3), type := 37, pos := "law.go:85", after := #[], guard := none }) (v := .slice (some ⟨lb, 0, none⟩) N lc) rfl (by kernel_rfl) (by kernel_rfl) (by kernel_rfl) (fun _ _ _ h => h) (Or.inl ⟨by rfl, fun w1 hw => by go_simp⟩) hHeld ?_
  obtain ⟨a1, e1⟩ : ∃ act, act = a.put (some 136) (.slice (some ⟨lb, 0, none⟩) N lc) := ⟨_, rfl⟩
  rw [← e1] at h ⊢
  have z1 : a1.tmps.size = 178 := by rw [e1, put_size]; exact hsz
  clear h3
  replace h4 : a1.tmps.getD 4 undef = .slice (some ⟨mb, 0, none⟩) N mc := by rw [e1, put_ne _ _ _ _ (by decide)]; exact h4
  replace h10 : a1.tmps.getD 10 undef = .int .i64 (j : Int) := by rw [e1, put_ne _ _ _ _ (by decide)]; exact h10
  have t136 : a1.tmps.getD 136 undef = .slice (some ⟨lb, 0, none⟩) N lc := by rw [e1]; exact put_same _ _ _ (by omega)
  clear e1 hsz
  refine wpAnyH_take (i := 1) (oi := { dst := some 137, op := Op.move (Operand.tmp 10), type := 3, pos := "law.go:85", after := #[], guard := none }) (v := .int .i64 (j : Int)) rfl (by kernel_rfl) (by kernel_rfl) (by kernel_rfl) (fun _ _ _ h => h) (Or.inl ⟨by rfl, fun w1 hw => by go_simp⟩) hHeld ?_
  obtain ⟨a2, e2⟩ : ∃ act, act = a1.put (some 137) (.int .i64 (j : Int)) := ⟨_, rfl⟩
  rw [← e2] at h ⊢
  have z2 : a2.tmps.size = 178 := by rw [e2, put_size]; exact z1
  replace h4 : a2.tmps.getD 4 undef = .slice (some ⟨mb, 0, none⟩) N mc := by rw [e2, put_ne _ _ _ _ (by decide)]; exact h4
  replace h10 : a2.tmps.getD 10 undef = .int .i64 (j : Int) := by rw [e2, put_ne _ _ _ _ (by decide)]; exact h10
  replace t136 : a2.tmps.getD 136 undef = .slice (some ⟨lb, 0, none⟩) N lc := by rw [e2, put_ne _ _ _ _ (by decide)]; exact t136
  have t137 : a2.tmps.getD 137 undef = .int .i64 (j : Int) := by rw [e2]; exact put_same _ _ _ (by omega)
  clear e2 z1
  refine wpAnyH_take (i := 2) (oi := { dst := some 138, op := Op.indexAddr 37 (Operand.tmp 136) (Operand.tmp 137), type := 0, pos := "law.go:85", after := #[{ on := 0, ground := Ground.data }, { on := 1, ground := Ground.data }], guard := none }) (v := .pointer (some ⟨lb, j, none⟩)) rfl (by kernel_rfl) (by kernel_rfl) (by kernel_rfl) (fun _ _ _ h => h) (Or.inl ⟨by rfl, fun w1 hw => by go_simp⟩) hHeld ?_
  obtain ⟨a3, e3⟩ : ∃ act, act = a2.put (some 138) (.pointer (some ⟨lb, j, none⟩)) := ⟨_, rfl⟩
  rw [← e3] at h ⊢
  have z3 : a3.tmps.size = 178 := by rw [e3, put_size]; exact z2
  replace h4 : a3.tmps.getD 4 undef = .slice (some ⟨mb, 0, none⟩) N mc := by rw [e3, put_ne _ _ _ _ (by decide)]; exact h4
  replace h10 : a3.tmps.getD 10 undef = .int .i64 (j : Int) := by rw [e3, put_ne _ _ _ _ (by decide)]; exact h10
  clear t136
  clear t137
  have t138 : a3.tmps.getD 138 undef = .pointer (some ⟨lb, j, none⟩) := by rw [e3]; exact put_same _ _ _ (by omega)
  clear e3 z2
  refine wpAnyH_take (i := 3) (oi := { dst := some 139, op := Op.load 35 (Operand.tmp 138), type := 35, pos := "law.go:85", after := #[{ on := 2, ground := Ground.data }], guard := none }) (v := .pointer (some x)) rfl (by kernel_rfl) (by kernel_rfl) (by kernel_rfl) (fun _ _ _ h => h) (Or.inl ⟨by rfl, fun w1 hw => by obtain ⟨c1, c2⟩ := hw; go_simp⟩) hHeld ?_
  obtain ⟨a4, e4⟩ : ∃ act, act = a3.put (some 139) (.pointer (some x)) := ⟨_, rfl⟩
  rw [← e4] at h ⊢
  have z4 : a4.tmps.size = 178 := by rw [e4, put_size]; exact z3
  replace h4 : a4.tmps.getD 4 undef = .slice (some ⟨mb, 0, none⟩) N mc := by rw [e4, put_ne _ _ _ _ (by decide)]; exact h4
  replace h10 : a4.tmps.getD 10 undef = .int .i64 (j : Int) := by rw [e4, put_ne _ _ _ _ (by decide)]; exact h10
  clear t138
  have t139 : a4.tmps.getD 139 undef = .pointer (some x) := by rw [e4]; exact put_same _ _ _ (by omega)
  clear e4 z3
  refine wpAnyH_take (i := 4) (oi := { dst := some 140, op := Op.binOp BinOp.eql 35 (Operand.tmp 139) (Operand.const (Value.pointer none)) 35, type := 4, pos := "law.go:85", after := #[{ on := 3, ground := Ground.data }], guard := none }) (v := .bool false) rfl (by kernel_rfl) (by kernel_rfl) (by kernel_rfl) (fun _ _ _ h => h) (Or.inl ⟨by rfl, fun w1 hw => by go_simp⟩) hHeld ?_
  obtain ⟨a5, e5⟩ : ∃ act, act = a4.put (some 140) (.bool false) := ⟨_, rfl⟩
  rw [← e5] at h ⊢
  have z5 : a5.tmps.size = 178 := by rw [e5, put_size]; exact z4
  replace h4 : a5.tmps.getD 4 undef = .slice (some ⟨mb, 0, none⟩) N mc := by rw [e5, put_ne _ _ _ _ (by decide)]; exact h4
  replace h10 : a5.tmps.getD 10 undef = .int .i64 (j : Int) := by rw [e5, put_ne _ _ _ _ (by decide)]; exact h10
  clear t139
  have t140 : a5.tmps.getD 140 undef = .bool false := by rw [e5]; exact put_same _ _ _ (by omega)
  clear e5 z4
  refine wpAnyH_take (i := 5) (oi := { dst := some 141, op := Op.move (Operand.tmp 4), type := 40, pos := "law.go:85", after := #[], guard := none }) (v := .slice (some ⟨mb, 0, none⟩) N mc) rfl (by kernel_rfl) (by kernel_rfl) (by kernel_rfl) (fun _ _ _ h => h) (Or.inl ⟨by rfl, fun w1 hw => by go_simp⟩) hHeld ?_
  obtain ⟨a6, e6⟩ : ∃ act, act = a5.put (some 141) (.slice (some ⟨mb, 0, none⟩) N mc) := ⟨_, rfl⟩
  rw [← e6] at h ⊢
  have z6 : a6.tmps.size = 178 := by rw [e6, put_size]; exact z5
  clear h4
  replace h10 : a6.tmps.getD 10 undef = .int .i64 (j : Int) := by rw [e6, put_ne _ _ _ _ (by decide)]; exact h10
  replace t140 : a6.tmps.getD 140 undef = .bool false := by rw [e6, put_ne _ _ _ _ (by decide)]; exact t140
  have t141 : a6.tmps.getD 141 undef = .slice (some ⟨mb, 0, none⟩) N mc := by rw [e6]; exact put_same _ _ _ (by omega)
  clear e6 z5
  refine wpAnyH_take (i := 6) (oi := { dst := some 142, op := Op.move (Operand.tmp 10), type := 3, pos := "law.go:85", after := #[], guard := none }) (v := .int .i64 (j : Int)) rfl (by kernel_rfl) (by kernel_rfl) (by kernel_rfl) (fun _ _ _ h => h) (Or.inl ⟨by rfl, fun w1 hw => by go_simp⟩) hHeld ?_
  obtain ⟨a7, e7⟩ : ∃ act, act = a6.put (some 142) (.int .i64 (j : Int)) := ⟨_, rfl⟩
  rw [← e7] at h ⊢
  have z7 : a7.tmps.size = 178 := by rw [e7, put_size]; exact z6
  clear h10
  replace t140 : a7.tmps.getD 140 undef = .bool false := by rw [e7, put_ne _ _ _ _ (by decide)]; exact t140
  replace t141 : a7.tmps.getD 141 undef = .slice (some ⟨mb, 0, none⟩) N mc := by rw [e7, put_ne _ _ _ _ (by decide)]; exact t141
  have t142 : a7.tmps.getD 142 undef = .int .i64 (j : Int) := by rw [e7]; exact put_same _ _ _ (by omega)
  clear e7 z6
  refine wpAnyH_take (i := 7) (oi := { dst := some 143, op := Op.indexAddr 40 (Operand.tmp 141) (Operand.tmp 142), type := 0, pos := "law.go:85", after := #[{ on := 5, ground := Ground.data }, { on := 6, ground := Ground.data }], guard := none }) (v := .pointer (some ⟨mb, j, none⟩)) rfl (by kernel_rfl) (by kernel_rfl) (by kernel_rfl) (fun _ _ _ h => h) (Or.inl ⟨by rfl, fun w1 hw => by go_simp⟩) hHeld ?_
  obtain ⟨a8, e8⟩ : ∃ act, act = a7.put (some 143) (.pointer (some ⟨mb, j, none⟩)) := ⟨_, rfl⟩
  rw [← e8] at h ⊢
  have z8 : a8.tmps.size = 178 := by rw [e8, put_size]; exact z7
  replace t140 : a8.tmps.getD 140 undef = .bool false := by rw [e8, put_ne _ _ _ _ (by decide)]; exact t140
  clear t141
  clear t142
  have t143 : a8.tmps.getD 143 undef = .pointer (some ⟨mb, j, none⟩) := by rw [e8]; exact put_same _ _ _ (by omega)
  clear e8 z7
  refine wpAnyH_take (i := 8) (oi := { dst := some 144, op := Op.load 38 (Operand.tmp 143), type := 38, pos := "law.go:85", after := #[{ on := 7, ground := Ground.data }], guard := none }) (v := .pointer (some y)) rfl (by kernel_rfl) (by kernel_rfl) (by kernel_rfl) (fun _ _ _ h => h) (Or.inl ⟨by rfl, fun w1 hw => by obtain ⟨c1, c2⟩ := hw; go_simp⟩) hHeld ?_
  obtain ⟨a9, e9⟩ : ∃ act, act = a8.put (some 144) (.pointer (some y)) := ⟨_, rfl⟩
  rw [← e9] at h ⊢
  have z9 : a9.tmps.size = 178 := by rw [e9, put_size]; exact z8
  replace t140 : a9.tmps.getD 140 undef = .bool false := by rw [e9, put_ne _ _ _ _ (by decide)]; exact t140
  clear t143
  have t144 : a9.tmps.getD 144 undef = .pointer (some y) := by rw [e9]; exact put_same _ _ _ (by omega)
  clear e9 z8
  refine wpAnyH_take (i := 9) (oi := { dst := some 145, op := Op.binOp BinOp.eql 38 (Operand.tmp 144) (Operand.const (Value.pointer none)) 38, type := 4, pos := "law.go:85", after := #[{ on := 8, ground := Ground.data }], guard := none }) (v := .bool false) rfl (by kernel_rfl) (by kernel_rfl) (by kernel_rfl) (fun _ _ _ h => h) (Or.inl ⟨by rfl, fun w1 hw => by go_simp⟩) hHeld ?_
  obtain ⟨a10, e10⟩ : ∃ act, act = a9.put (some 145) (.bool false) := ⟨_, rfl⟩
  rw [← e10] at h ⊢
  have z10 : a10.tmps.size = 178 := by rw [e10, put_size]; exact z9
  replace t140 : a10.tmps.getD 140 undef = .bool false := by rw [e10, put_ne _ _ _ _ (by decide)]; exact t140
  clear t144
  have t145 : a10.tmps.getD 145 undef = .bool false := by rw [e10]; exact put_same _ _ _ (by omega)
  clear e10 z9
  refine wpAnyH_take (i := 10) (oi := { dst := some 146, op := Op.binOp BinOp.neq 4 (Operand.tmp 140) (Operand.tmp 145) 4, type := 4, pos := "law.go:85", after := #[{ on := 4, ground := Ground.data }, { on := 9, ground := Ground.data }], guard := none }) (v := .bool false) rfl (by kernel_rfl) (by kernel_rfl) (by kernel_rfl) (fun _ _ _ h => h) (Or.inl ⟨by rfl, fun w1 hw => by go_simp⟩) hHeld ?_
  obtain ⟨a11, e11⟩ : ∃ act, act = a10.put (some 146) (.bool false) := ⟨_, rfl⟩
  rw [← e11] at h ⊢
  have z11 : a11.tmps.size = 178 := by rw [e11, put_size]; exact z10
  clear t140
  clear t145
  clear e11 z10
  exact wpAnyH_done (by kernel_rfl) (NoPanic.normal (h _ _ rfl rfl)) _
def ops27 : Array Oper := #[{ dst := some 88, op := Op.move (Operand.tmp 3), type := 37, pos := "law.go:72", after := #[], guard := none }, { dst := some 89, op := Op.move (Operand.tmp 7), type := 3, pos := "law.go:72", after := #[], guard := none }, { dst := some 90, op := Op.indexAddr 37 (Operand.tmp 88) (Operand.tmp 89), type := 0, pos := "law.go:72", after := #[{ on := 0, ground := Ground.data }, { on := 1, ground := Ground.data }], guard := none }, { dst := some 91, op := Op.load 35 (Operand.tmp 90), type := 35, pos := "law.go:72", after := #[{ on := 2, ground := Ground.data }], guard := none }, { dst := some 92, op := Op.call { callee := Callee.value (Operand.func 23), args := #[Operand.tmp 91], argTypes := #[35] }, type := 3, pos := "law.go:72", after := #[{ on := 3, ground := Ground.data }], guard := none }, { dst := some 93, op := Op.move (Operand.tmp 4), type := 40, pos := "law.go:72", after := #[], guard := none }, { dst := some 94, op := Op.move (Operand.tmp 7), type := 3, pos := "law.go:72", after := #[], guard := none }, { dst := some 95, op := Op.indexAddr 40 (Operand.tmp 93) (Operand.tmp 94), type := 0, pos := "law.go:72", after := #[{ on := 5, ground := Ground.data }, { on := 6, ground := Ground.data }], guard := none }, { dst := some 96, op := Op.load 38 (Operand.tmp 95), type := 38, pos := "law.go:72", after := #[{ on := 7, ground := Ground.data }], guard := none }, { dst := some 97, op := Op.call { callee := Callee.value (Operand.func 24), args := #[Operand.tmp 96], argTypes := #[38] }, type := 3, pos := "law.go:72", after := #[{ on := 8, ground := Ground.data }, { on := 4, ground := Ground.chain }], guard := none }, { dst := some 98, op := Op.binOp BinOp.neq 3 (Operand.tmp 92) (Operand.tmp 97) 3, type := 4, pos := "law.go:72", after := #[{ on := 4, ground := Ground.data }, { on := 9, ground := Ground.data }], guard := none }]
theorem lens27 (lb lc mb mc N j : Nat) (p q : Option Addr) (L : Int) (a : Act) (w : World) (Q : Exit → Act → World → Prop) (hsz : a.tmps.size = 178)
    (h3 : a.tmps.getD 3 undef = .slice (some ⟨lb, 0, none⟩) N lc)
    (h4 : a.tmps.getD 4 undef = .slice (some ⟨mb, 0, none⟩) N mc)
    (h7 : a.tmps.getD 7 undef = .int .i64 (j : Int))
    (hj : j < N) (hj0 : (0 : Int) ≤ (j : Int)) (hj1 : (j : Int) < (N : Int))
    (CL : ∀ wx, Below w.heap.size w wx → wx.cell? ⟨lb, j, none⟩ = some (.pointer p) ∧ wx.cell? ⟨mb, j, none⟩ = some (.pointer q))
    (C1 : ∀ wx, Below w.heap.size w wx → Calls Tryd.prog 23 #[.pointer p] wx fun e w' => e = .returned (.int .i64 L) ∧ Below w.heap.size w w')
    (C2 : ∀ wx, Below w.heap.size w wx → Calls Tryd.prog 24 #[.pointer q] wx fun e w' => e = .returned (.int .i64 L) ∧ Below w.heap.size w w')
    (h : ∀ (a' : Act) (w' : World), Below w.heap.size w w' → a' = (((((((((((a).put (some 88) (.slice (some ⟨lb, 0, none⟩) N lc)).put (some 89) (.int .i64 (j : Int))).put (some 90) (.pointer (some ⟨lb, j, none⟩))).put (some 91) (.pointer p)).put (some 93) (.slice (some ⟨mb, 0, none⟩) N mc)).put (some 94) (.int .i64 (j : Int))).put (some 95) (.pointer (some ⟨mb, j, none⟩))).put (some 96) (.pointer q)).put (some 92) (.int .i64 L)).put (some 97) (.int .i64 L)).put (some 98) (.bool false) → Q .normal a' w') :
    (Code.region 27 ops27 true).wp Tryd.prog Q a w := by
  refine wp_region_noPanic ?_
  refine wp_region_held_drew (S := fun w' => Below w.heap.size w w') (by kernel_rfl) ((Below.refl _ _).drew) (fun hHeld => ?_)
  refine wpAnyH_take (i := 0) (oi := { dst := some 88, op := Op.move (Operand.tmp 3), type := 37, pos := "law.go:72", after := #[], guard := none }) (v := .slice (some ⟨lb, 0, none⟩) N lc) rfl (by kernel_rfl) (by kernel_rfl) (by kernel_rfl) (fun _ _ _ h => h) (Or.inl ⟨by rfl, fun w1 hw => by go_simp⟩) hHeld ?_
  obtain ⟨a1, e1⟩ : ∃ act, act = a.put (some 88) (.slice (some ⟨lb, 0, none⟩) N lc) := ⟨_, rfl⟩
  rw [← e1] at h ⊢
  have z1 : a1.tmps.size = 178 := by rw [e1, put_size]; exact hsz
  clear h3
  replace h4 : a1.tmps.getD 4 undef = .slice (some ⟨mb, 0, none⟩) N mc := by rw [e1, put_ne _ _ _ _ (by decide)]; exact h4
  replace h7 : a1.tmps.getD 7 undef = .int .i64 (j : Int) := by rw [e1, put_ne _ _ _ _ (by decide)]; exact h7
  have t88 : a1.tmps.getD 88 undef = .slice (some ⟨lb, 0, none⟩) N lc := by rw [e1]; exact put_same _ _ _ (by omega)
  clear e1 hsz
  refine wpAnyH_take (i := 1) (oi := { dst := some 89, op := Op.move (Operand.tmp 7), type := 3, pos := "law.go:72", after := #[], guard := none }) (v := .int .i64 (j : Int)) rfl (by kernel_rfl) (by kernel_rfl) (by kernel_rfl) (fun _ _ _ h => h) (Or.inl ⟨by rfl, fun w1 hw => by go_simp⟩) hHeld ?_
  obtain ⟨a2, e2⟩ : ∃ act, act = a1.put (some 89) (.int .i64 (j : Int)) := ⟨_, rfl⟩
  rw [← e2] at h ⊢
  have z2 : a2.tmps.size = 178 := by rw [e2, put_size]; exact z1
  replace h4 : a2.tmps.getD 4 undef = .slice (some ⟨mb, 0, none⟩) N mc := by rw [e2, put_ne _ _ _ _ (by decide)]; exact h4
  replace h7 : a2.tmps.getD 7 undef = .int .i64 (j : Int) := by rw [e2, put_ne _ _ _ _ (by decide)]; exact h7
  replace t88 : a2.tmps.getD 88 undef = .slice (some ⟨lb, 0, none⟩) N lc := by rw [e2, put_ne _ _ _ _ (by decide)]; exact t88
  have t89 : a2.tmps.getD 89 undef = .int .i64 (j : Int) := by rw [e2]; exact put_same _ _ _ (by omega)
  clear e2 z1
  refine wpAnyH_take (i := 2) (oi := { dst := some 90, op := Op.indexAddr 37 (Operand.tmp 88) (Operand.tmp 89), type := 0, pos := "law.go:72", after := #[{ on := 0, ground := Ground.data }, { on := 1, ground := Ground.data }], guard := none }) (v := .pointer (some ⟨lb, j, none⟩)) rfl (by kernel_rfl) (by kernel_rfl) (by kernel_rfl) (fun _ _ _ h => h) (Or.inl ⟨by rfl, fun w1 hw => by go_simp⟩) hHeld ?_
  obtain ⟨a3, e3⟩ : ∃ act, act = a2.put (some 90) (.pointer (some ⟨lb, j, none⟩)) := ⟨_, rfl⟩
  rw [← e3] at h ⊢
  have z3 : a3.tmps.size = 178 := by rw [e3, put_size]; exact z2
  replace h4 : a3.tmps.getD 4 undef = .slice (some ⟨mb, 0, none⟩) N mc := by rw [e3, put_ne _ _ _ _ (by decide)]; exact h4
  replace h7 : a3.tmps.getD 7 undef = .int .i64 (j : Int) := by rw [e3, put_ne _ _ _ _ (by decide)]; exact h7
  clear t88
  clear t89
  have t90 : a3.tmps.getD 90 undef = .pointer (some ⟨lb, j, none⟩) := by rw [e3]; exact put_same _ _ _ (by omega)
  clear e3 z2
  refine wpAnyH_take (i := 3) (oi := { dst := some 91, op := Op.load 35 (Operand.tmp 90), type := 35, pos := "law.go:72", after := #[{ on := 2, ground := Ground.data }], guard := none }) (v := .pointer p) rfl (by kernel_rfl) (by kernel_rfl) (by kernel_rfl) (fun _ _ _ h => h) (Or.inl ⟨by rfl, fun w1 hw => by obtain ⟨c1, c2⟩ := CL _ hw; go_simp⟩) hHeld ?_
  obtain ⟨a4, e4⟩ : ∃ act, act = a3.put (some 91) (.pointer p) := ⟨_, rfl⟩
  rw [← e4] at h ⊢
  have z4 : a4.tmps.size = 178 := by rw [e4, put_size]; exact z3
  replace h4 : a4.tmps.getD 4 undef = .slice (some ⟨mb, 0, none⟩) N mc := by rw [e4, put_ne _ _ _ _ (by decide)]; exact h4
  replace h7 : a4.tmps.getD 7 undef = .int .i64 (j : Int) := by rw [e4, put_ne _ _ _ _ (by decide)]; exact h7
  clear t90
  have t91 : a4.tmps.getD 91 undef = .pointer p := by rw [e4]; exact put_same _ _ _ (by omega)
  clear e4 z3
  refine wpAnyH_take (i := 5) (oi := { dst := some 93, op := Op.move (Operand.tmp 4), type := 40, pos := "law.go:72", after := #[], guard := none }) (v := .slice (some ⟨mb, 0, none⟩) N mc) rfl (by kernel_rfl) (by kernel_rfl) (by kernel_rfl) (fun _ _ _ h => h) (Or.inl ⟨by rfl, fun w1 hw => by go_simp⟩) hHeld ?_
  obtain ⟨a5, e5⟩ : ∃ act, act = a4.put (some 93) (.slice (some ⟨mb, 0, none⟩) N mc) := ⟨_, rfl⟩
  rw [← e5] at h ⊢
  have z5 : a5.tmps.size = 178 := by rw [e5, put_size]; exact z4
  clear h4
  replace h7 : a5.tmps.getD 7 undef = .int .i64 (j : Int) := by rw [e5, put_ne _ _ _ _ (by decide)]; exact h7
  replace t91 : a5.tmps.getD 91 undef = .pointer p := by rw [e5, put_ne _ _ _ _ (by decide)]; exact t91
  have t93 : a5.tmps.getD 93 undef = .slice (some ⟨mb, 0, none⟩) N mc := by rw [e5]; exact put_same _ _ _ (by omega)
  clear e5 z4
  refine wpAnyH_take (i := 6) (oi := { dst := some 94, op := Op.move (Operand.tmp 7), type := 3, pos := "law.go:72", after := #[], guard := none }) (v := .int .i64 (j : Int)) rfl (by kernel_rfl) (by kernel_rfl) (by kernel_rfl) (fun _ _ _ h => h) (Or.inl ⟨by rfl, fun w1 hw => by go_simp⟩) hHeld ?_
  obtain ⟨a6, e6⟩ : ∃ act, act = a5.put (some 94) (.int .i64 (j : Int)) := ⟨_, rfl⟩
  rw [← e6] at h ⊢
  have z6 : a6.tmps.size = 178 := by rw [e6, put_size]; exact z5
  clear h7
  replace t91 : a6.tmps.getD 91 undef = .pointer p := by rw [e6, put_ne _ _ _ _ (by decide)]; exact t91
  replace t93 : a6.tmps.getD 93 undef = .slice (some ⟨mb, 0, none⟩) N mc := by rw [e6, put_ne _ _ _ _ (by decide)]; exact t93
  have t94 : a6.tmps.getD 94 undef = .int .i64 (j : Int) := by rw [e6]; exact put_same _ _ _ (by omega)
  clear e6 z5
  refine wpAnyH_take (i := 7) (oi := { dst := some 95, op := Op.indexAddr 40 (Operand.tmp 93) (Operand.tmp 94), type := 0, pos := "law.go:72", after := #[{ on := 5, ground := Ground.data }, { on := 6, ground := Ground.data }], guard := none }) (v := .pointer (some ⟨mb, j, none⟩)) rfl (by kernel_rfl) (by kernel_rfl) (by kernel_rfl) (fun _ _ _ h => h) (Or.inl ⟨by rfl, fun w1 hw => by go_simp⟩) hHeld ?_
  obtain ⟨a7, e7⟩ : ∃ act, act = a6.put (some 95) (.pointer (some ⟨mb, j, none⟩)) := ⟨_, rfl⟩
  rw [← e7] at h ⊢
  have z7 : a7.tmps.size = 178 := by rw [e7, put_size]; exact z6
  replace t91 : a7.tmps.getD 91 undef = .pointer p := by rw [e7, put_ne _ _ _ _ (by decide)]; exact t91
  clear t93
  clear t94
  have t95 : a7.tmps.getD 95 undef = .pointer (some ⟨mb, j, none⟩) := by rw [e7]; exact put_same _ _ _ (by omega)
  clear e7 z6
  refine wpAnyH_take (i := 8) (oi := { dst := some 96, op := Op.load 38 (Operand.tmp 95), type := 38, pos := "law.go:72", after := #[{ on := 7, ground := Ground.data }], guard := none }) (v := .pointer q) rfl (by kernel_rfl) (by kernel_rfl) (by kernel_rfl) (fun _ _ _ h => h) (Or.inl ⟨by rfl, fun w1 hw => by obtain ⟨c1, c2⟩ := CL _ hw; go_simp⟩) hHeld ?_
  obtain ⟨a8, e8⟩ : ∃ act, act = a7.put (some 96) (.pointer q) := ⟨_, rfl⟩
  rw [← e8] at h ⊢
  have z8 : a8.tmps.size = 178 := by rw [e8, put_size]; exact z7
  replace t91 : a8.tmps.getD 91 undef = .pointer p := by rw [e8, put_ne _ _ _ _ (by decide)]; exact t91
  clear t95
  have t96 : a8.tmps.getD 96 undef = .pointer q := by rw [e8]; exact put_same _ _ _ (by omega)
  clear e8 z7
  refine wpAnyH_ready (rs := [4]) (by kernel_rfl) (by simp) ?_
  refine AllReadyH.cons (o := { dst := some 92, op := Op.call { callee := Callee.value (Operand.func 23), args := #[Operand.tmp 91], argTypes := #[35] }, type := 3, pos := "law.go:72", after := #[{ on := 3, ground := Ground.data }], guard := none }) rfl (fun K hK => ?_) AllReadyH.nil
  rw [if_pos (by rfl)]
  go_simp
  refine (C1 _ hHeld).mono ?_
  rintro e x9 ⟨rfl, bx9⟩
  try go_wp2_with fail
  refine hK.out _ _ (bx9) (fun hHeld => ?_)
  clear hK K
  change wpAnyH _ _ _ _ _ _ _ (a8.put (some 92) (.int .i64 L)) _
  obtain ⟨a9, e9⟩ : ∃ act, act = a8.put (some 92) (.int .i64 L) := ⟨_, rfl⟩
  rw [← e9] at h ⊢
  have z9 : a9.tmps.size = 178 := by rw [e9, put_size]; exact z8
  clear t91
  replace t96 : a9.tmps.getD 96 undef = .pointer q := by rw [e9, put_ne _ _ _ _ (by decide)]; exact t96
  have t92 : a9.tmps.getD 92 undef = .int .i64 L := by rw [e9]; exact put_same _ _ _ (by omega)
  clear e9 z8
  refine wpAnyH_ready (rs := [9]) (by kernel_rfl) (by simp) ?_
  refine AllReadyH.cons (o := { dst := some 97, op := Op.call { callee := Callee.value (Operand.func 24), args := #[Operand.tmp 96], argTypes := #[38] }, type := 3, pos := "law.go:72", after := #[{ on := 8, ground := Ground.data }, { on := 4, ground := Ground.chain }], guard := none }) rfl (fun K hK => ?_) AllReadyH.nil
  rw [if_pos (by rfl)]
  go_simp
  refine (C2 _ hHeld).mono ?_
  rintro e x10 ⟨rfl, bx10⟩
  try go_wp2_with fail
  refine hK.out _ _ (bx10) (fun hHeld => ?_)
  clear hK K
  change wpAnyH _ _ _ _ _ _ _ (a9.put (some 97) (.int .i64 L)) _
  obtain ⟨a10, e10⟩ : ∃ act, act = a9.put (some 97) (.int .i64 L) := ⟨_, rfl⟩
  rw [← e10] at h ⊢
  have z10 : a10.tmps.size = 178 := by rw [e10, put_size]; exact z9
  clear t96
  replace t92 : a10.tmps.getD 92 undef = .int .i64 L := by rw [e10, put_ne _ _ _ _ (by decide)]; exact t92
  have t97 : a10.tmps.getD 97 undef = .int .i64 L := by rw [e10]; exact put_same _ _ _ (by omega)
  clear e10 z9
  refine wpAnyH_take (i := 10) (oi := { dst := some 98, op := Op.binOp BinOp.neq 3 (Operand.tmp 92) (Operand.tmp 97) 3, type := 4, pos := "law.go:72", after := #[{ on := 4, ground := Ground.data }, { on := 9, ground := Ground.data }], guard := none }) (v := .bool false) rfl (by kernel_rfl) (by kernel_rfl) (by kernel_rfl) (fun _ _ _ h => h) (Or.inl ⟨by rfl, fun w1 hw => by go_simp⟩) hHeld ?_
  obtain ⟨a11, e11⟩ : ∃ act, act = a10.put (some 98) (.bool false) := ⟨_, rfl⟩
  rw [← e11] at h ⊢
  have z11 : a11.tmps.size = 178 := by rw [e11, put_size]; exact z10
  clear t92
  clear t97
  clear e11 z10
  exact wpAnyH_done (by kernel_rfl) (NoPanic.normal (h _ _ (hHeld) rfl)) _
theorem sums32 (lb lc mb mc N j : Nat) (p q : Option Addr) (g : Nat) (H : List UInt8) (a : Act) (w : World) (Q : Exit → Act → World → Prop) (hsz : a.tmps.size = 178)
    (h3 : a.tmps.getD 3 undef = .slice (some ⟨lb, 0, none⟩) N lc)
    (h4 : a.tmps.getD 4 undef = .slice (some ⟨mb, 0, none⟩) N mc)
    (h6 : a.tmps.getD 6 undef = .pointer (some ⟨g, 0, none⟩))
    (h7 : a.tmps.getD 7 undef = .int .i64 (j : Int))
    (hj : j < N) (hj0 : (0 : Int) ≤ (j : Int)) (hj1 : (j : Int) < (N : Int))
    (CL : ∀ wx, Below w.heap.size w wx → wx.cell? ⟨lb, j, none⟩ = some (.pointer p) ∧ wx.cell? ⟨mb, j, none⟩ = some (.pointer q))
    (C0 : ∀ wx, Below w.heap.size w wx → wx.cell? ⟨g, 0, none⟩ = some (.int .i64 2))
    (HQ : ∀ wx, (Op.equalIn 10000 24 (.agg (bs H)) (.agg (bs H))).run Tryd.prog wx = .ok true wx)
    (C1 : ∀ wx, Below w.heap.size w wx → Calls Tryd.prog 27 #[.pointer p] wx fun e w' => e = .returned (.agg (bs H)) ∧ Below w.heap.size w w')
    (C2 : ∀ wx, Below w.heap.size w wx → Calls Tryd.prog 28 #[.pointer q] wx fun e w' => e = .returned (.agg (bs H)) ∧ Below w.heap.size w w')
    (h : ∀ (a' : Act) (w' : World), Below w.heap.size w w' → a' = ((((((((((((((((a).put (some 117) (.pointer (some ⟨g, 0, none⟩))).put (some 118) (.int .i64 2)).put (some 119) (.bool true)).put (some 120) (.bool true)).put (some 121) (.slice (some ⟨lb, 0, none⟩) N lc)).put (some 122) (.int .i64 (j : Int))).put (some 123) (.pointer (some ⟨lb, j, none⟩))).put (some 124) (.pointer p)).put (some 126) (.slice (some ⟨mb, 0, none⟩) N mc)).put (some 127) (.int .i64 (j : Int))).put (some 128) (.pointer (some ⟨mb, j, none⟩))).put (some 129) (.pointer q)).put (some 125) (.agg (bs H))).put (some 130) (.agg (bs H))).put (some 131) (.bool false)).put (some 132) (.bool false) → Q .normal a' w') :
    (Code.region 32 ops32 true).wp Tryd.prog Q a w := by
  refine wp_region_noPanic ?_
  refine wp_region_held_drew (S := fun w' => Below w.heap.size w w') (by kernel_rfl) ((Below.refl _ _).drew) (fun hHeld => ?_)
  refine wpAnyH_take (i := 0) (oi := { dst := some 117, op := Op.fieldAddr 42 (Operand.tmp 6) 0, type := 0, pos := "law.go:82", after := #[], guard := none }) (v := .pointer (some ⟨g, 0, none⟩)) rfl (by kernel_rfl) (by kernel_rfl) (by kernel_rfl) (fun _ _ _ h => h) (Or.inl ⟨by rfl, fun w1 hw => by go_simp⟩) hHeld ?_
  obtain ⟨a1, e1⟩ : ∃ act, act = a.put (some 117) (.pointer (some ⟨g, 0, none⟩)) := ⟨_, rfl⟩
  rw [← e1] at h ⊢
  have z1 : a1.tmps.size = 178 := by rw [e1, put_size]; exact hsz
  replace h3 : a1.tmps.getD 3 undef = .slice (some ⟨lb, 0, none⟩) N lc := by rw [e1, put_ne _ _ _ _ (by decide)]; exact h3
  replace h4 : a1.tmps.getD 4 undef = .slice (some ⟨mb, 0, none⟩) N mc := by rw [e1, put_ne _ _ _ _ (by decide)]; exact h4
  clear h6
  replace h7 : a1.tmps.getD 7 undef = .int .i64 (j : Int) := by rw [e1, put_ne _ _ _ _ (by decide)]; exact h7
  have t117 : a1.tmps.getD 117 undef = .pointer (some ⟨g, 0, none⟩) := by rw [e1]; exact put_same _ _ _ (by omega)
  clear e1 hsz
  refine wpAnyH_take (i := 1) (oi := { dst := some 118, op := Op.load 3 (Operand.tmp 117), type := 3, pos := "law.go:82", after := #[{ on := 0, ground := Ground.data }], guard := none }) (v := .int .i64 2) rfl (by kernel_rfl) (by kernel_rfl) (by kernel_rfl) (fun _ _ _ h => h) (Or.inl ⟨by rfl, fun w1 hw => by have c0 := C0 _ hw; go_simp⟩) hHeld ?_
  obtain ⟨a2, e2⟩ : ∃ act, act = a1.put (some 118) (.int .i64 2) := ⟨_, rfl⟩
  rw [← e2] at h ⊢
  have z2 : a2.tmps.size = 178 := by rw [e2, put_size]; exact z1
  replace h3 : a2.tmps.getD 3 undef = .slice (some ⟨lb, 0, none⟩) N lc := by rw [e2, put_ne _ _ _ _ (by decide)]; exact h3
  replace h4 : a2.tmps.getD 4 undef = .slice (some ⟨mb, 0, none⟩) N mc := by rw [e2, put_ne _ _ _ _ (by decide)]; exact h4
  replace h7 : a2.tmps.getD 7 undef = .int .i64 (j : Int) := by rw [e2, put_ne _ _ _ _ (by decide)]; exact h7
  clear t117
  have t118 : a2.tmps.getD 118 undef = .int .i64 2 := by rw [e2]; exact put_same _ _ _ (by omega)
  clear e2 z1
  refine wpAnyH_take (i := 2) (oi := { dst := some 119, op := Op.binOp BinOp.eql 3 (Operand.tmp 118) (Operand.const (Value.int IntKind.i64 2)) 3, type := 4, pos := "law.go:82", after := #[{ on := 1, ground := Ground.data }], guard := none }) (v := .bool true) rfl (by kernel_rfl) (by kernel_rfl) (by kernel_rfl) (fun _ _ _ h => h) (Or.inl ⟨by rfl, fun w1 hw => by go_simp⟩) hHeld ?_
  obtain ⟨a3, e3⟩ : ∃ act, act = a2.put (some 119) (.bool true) := ⟨_, rfl⟩
  rw [← e3] at h ⊢
  have z3 : a3.tmps.size = 178 := by rw [e3, put_size]; exact z2
  replace h3 : a3.tmps.getD 3 undef = .slice (some ⟨lb, 0, none⟩) N lc := by rw [e3, put_ne _ _ _ _ (by decide)]; exact h3
  replace h4 : a3.tmps.getD 4 undef = .slice (some ⟨mb, 0, none⟩) N mc := by rw [e3, put_ne _ _ _ _ (by decide)]; exact h4
  replace h7 : a3.tmps.getD 7 undef = .int .i64 (j : Int) := by rw [e3, put_ne _ _ _ _ (by decide)]; exact h7
  clear t118
  have t119 : a3.tmps.getD 119 undef = .bool true := by rw [e3]; exact put_same _ _ _ (by omega)
  clear e3 z2
  refine wpAnyH_take (i := 3) (oi := { dst := some 120, op := Op.move (Operand.tmp 119), type := 4, pos := "law.go:82", after := #[{ on := 2, ground := Ground.data }], guard := none }) (v := .bool true) rfl (by kernel_rfl) (by kernel_rfl) (by kernel_rfl) (fun _ _ _ h => h) (Or.inl ⟨by rfl, fun w1 hw => by go_simp⟩) hHeld ?_
  obtain ⟨a4, e4⟩ : ∃ act, act = a3.put (some 120) (.bool true) := ⟨_, rfl⟩
  rw [← e4] at h ⊢
  have z4 : a4.tmps.size = 178 := by rw [e4, put_size]; exact z3
  replace h3 : a4.tmps.getD 3 undef = .slice (some ⟨lb, 0, none⟩) N lc := by rw [e4, put_ne _ _ _ _ (by decide)]; exact h3
  replace h4 : a4.tmps.getD 4 undef = .slice (some ⟨mb, 0, none⟩) N mc := by rw [e4, put_ne _ _ _ _ (by decide)]; exact h4
  replace h7 : a4.tmps.getD 7 undef = .int .i64 (j : Int) := by rw [e4, put_ne _ _ _ _ (by decide)]; exact h7
  clear t119
  have t120 : a4.tmps.getD 120 undef = .bool true := by rw [e4]; exact put_same _ _ _ (by omega)
  clear e4 z3
  refine wpAnyH_take (i := 4) (oi := { dst := some 121, op := Op.move (Operand.tmp 3), type := 37, pos := "law.go:82", after := #[{ on := 3, ground := Ground.guard }], guard := some (3, true) }) (v := .slice (some ⟨lb, 0, none⟩) N lc) rfl (by kernel_rfl) (by kernel_rfl) (by kernel_rfl) (fun _ _ _ h => h) (Or.inl ⟨by simp [Region.wanted, yielded, ops32, tget z4 (by decide) t120], fun w1 hw => by go_simp⟩) hHeld ?_
  obtain ⟨a5, e5⟩ : ∃ act, act = a4.put (some 121) (.slice (some ⟨lb, 0, none⟩) N lc) := ⟨_, rfl⟩
  rw [← e5] at h ⊢
  have z5 : a5.tmps.size = 178 := by rw [e5, put_size]; exact z4
  clear h3
  replace h4 : a5.tmps.getD 4 undef = .slice (some ⟨mb, 0, none⟩) N mc := by rw [e5, put_ne _ _ _ _ (by decide)]; exact h4
  replace h7 : a5.tmps.getD 7 undef = .int .i64 (j : Int) := by rw [e5, put_ne _ _ _ _ (by decide)]; exact h7
  replace t120 : a5.tmps.getD 120 undef = .bool true := by rw [e5, put_ne _ _ _ _ (by decide)]; exact t120
  have t121 : a5.tmps.getD 121 undef = .slice (some ⟨lb, 0, none⟩) N lc := by rw [e5]; exact put_same _ _ _ (by omega)
  clear e5 z4
  refine wpAnyH_take (i := 5) (oi := { dst := some 122, op := Op.move (Operand.tmp 7), type := 3, pos := "law.go:82", after := #[{ on := 3, ground := Ground.guard }], guard := some (3, true) }) (v := .int .i64 (j : Int)) rfl (by kernel_rfl) (by kernel_rfl) (by kernel_rfl) (fun _ _ _ h => h) (Or.inl ⟨by simp [Region.wanted, yielded, ops32, tget z5 (by decide) t120], fun w1 hw => by go_simp⟩) hHeld ?_
  obtain ⟨a6, e6⟩ : ∃ act, act = a5.put (some 122) (.int .i64 (j : Int)) := ⟨_, rfl⟩
  rw [← e6] at h ⊢
  have z6 : a6.tmps.size = 178 := by rw [e6, put_size]; exact z5
  replace h4 : a6.tmps.getD 4 undef = .slice (some ⟨mb, 0, none⟩) N mc := by rw [e6, put_ne _ _ _ _ (by decide)]; exact h4
  replace h7 : a6.tmps.getD 7 undef = .int .i64 (j : Int) := by rw [e6, put_ne _ _ _ _ (by decide)]; exact h7
  replace t120 : a6.tmps.getD 120 undef = .bool true := by rw [e6, put_ne _ _ _ _ (by decide)]; exact t120
  replace t121 : a6.tmps.getD 121 undef = .slice (some ⟨lb, 0, none⟩) N lc := by rw [e6, put_ne _ _ _ _ (by decide)]; exact t121
  have t122 : a6.tmps.getD 122 undef = .int .i64 (j : Int) := by rw [e6]; exact put_same _ _ _ (by omega)
  clear e6 z5
  refine wpAnyH_take (i := 6) (oi := { dst := some 123, op := Op.indexAddr 37 (Operand.tmp 121) (Operand.tmp 122), type := 0, pos := "law.go:82", after := #[{ on := 4, ground := Ground.data }, { on := 5, ground := Ground.data }, { on := 3, ground := Ground.guard }], guard := some (3, true) }) (v := .pointer (some ⟨lb, j, none⟩)) rfl (by kernel_rfl) (by kernel_rfl) (by kernel_rfl) (fun _ _ _ h => h) (Or.inl ⟨by simp [Region.wanted, yielded, ops32, tget z6 (by decide) t120], fun w1 hw => by go_simp⟩) hHeld ?_
  obtain ⟨a7, e7⟩ : ∃ act, act = a6.put (some 123) (.pointer (some ⟨lb, j, none⟩)) := ⟨_, rfl⟩
  rw [← e7] at h ⊢
  have z7 : a7.tmps.size = 178 := by rw [e7, put_size]; exact z6
  replace h4 : a7.tmps.getD 4 undef = .slice (some ⟨mb, 0, none⟩) N mc := by rw [e7, put_ne _ _ _ _ (by decide)]; exact h4
  replace h7 : a7.tmps.getD 7 undef = .int .i64 (j : Int) := by rw [e7, put_ne _ _ _ _ (by decide)]; exact h7
  replace t120 : a7.tmps.getD 120 undef = .bool true := by rw [e7, put_ne _ _ _ _ (by decide)]; exact t120
  clear t121
  clear t122
  have t123 : a7.tmps.getD 123 undef = .pointer (some ⟨lb, j, none⟩) := by rw [e7]; exact put_same _ _ _ (by omega)
  clear e7 z6
  refine wpAnyH_take (i := 7) (oi := { dst := some 124, op := Op.load 35 (Operand.tmp 123), type := 35, pos := "law.go:82", after := #[{ on := 6, ground := Ground.data }, { on := 3, ground := Ground.guard }], guard := some (3, true) }) (v := .pointer p) rfl (by kernel_rfl) (by kernel_rfl) (by kernel_rfl) (fun _ _ _ h => h) (Or.inl ⟨by simp [Region.wanted, yielded, ops32, tget z7 (by decide) t120], fun w1 hw => by obtain ⟨c1, c2⟩ := CL _ hw; go_simp⟩) hHeld ?_
  obtain ⟨a8, e8⟩ : ∃ act, act = a7.put (some 124) (.pointer p) := ⟨_, rfl⟩
  rw [← e8] at h ⊢
  have z8 : a8.tmps.size = 178 := by rw [e8, put_size]; exact z7
  replace h4 : a8.tmps.getD 4 undef = .slice (some ⟨mb, 0, none⟩) N mc := by rw [e8, put_ne _ _ _ _ (by decide)]; exact h4
  replace h7 : a8.tmps.getD 7 undef = .int .i64 (j : Int) := by rw [e8, put_ne _ _ _ _ (by decide)]; exact h7
  replace t120 : a8.tmps.getD 120 undef = .bool true := by rw [e8, put_ne _ _ _ _ (by decide)]; exact t120
  clear t123
  have t124 : a8.tmps.getD 124 undef = .pointer p := by rw [e8]; exact put_same _ _ _ (by omega)
  clear e8 z7
  refine wpAnyH_take (i := 9) (oi := { dst := some 126, op := Op.move (Operand.tmp 4), type := 40, pos := "law.go:82", after := #[{ on := 3, ground := Ground.guard }], guard := some (3, true) }) (v := .slice (some ⟨mb, 0, none⟩) N mc) rfl (by kernel_rfl) (by kernel_rfl) (by kernel_rfl) (fun _ _ _ h => h) (Or.inl ⟨by simp [Region.wanted, yielded, ops32, tget z8 (by decide) t120], fun w1 hw => by go_simp⟩) hHeld ?_
  obtain ⟨a9, e9⟩ : ∃ act, act = a8.put (some 126) (.slice (some ⟨mb, 0, none⟩) N mc) := ⟨_, rfl⟩
  rw [← e9] at h ⊢
  have z9 : a9.tmps.size = 178 := by rw [e9, put_size]; exact z8
  clear h4
  replace h7 : a9.tmps.getD 7 undef = .int .i64 (j : Int) := by rw [e9, put_ne _ _ _ _ (by decide)]; exact h7
  replace t120 : a9.tmps.getD 120 undef = .bool true := by rw [e9, put_ne _ _ _ _ (by decide)]; exact t120
  replace t124 : a9.tmps.getD 124 undef = .pointer p := by rw [e9, put_ne _ _ _ _ (by decide)]; exact t124
  have t126 : a9.tmps.getD 126 undef = .slice (some ⟨mb, 0, none⟩) N mc := by rw [e9]; exact put_same _ _ _ (by omega)
  clear e9 z8
  refine wpAnyH_take (i := 10) (oi := { dst := some 127, op := Op.move (Operand.tmp 7), type := 3, pos := "law.go:82", after := #[{ on := 3, ground := Ground.guard }], guard := some (3, true) }) (v := .int .i64 (j : Int)) rfl (by kernel_rfl) (by kernel_rfl) (by kernel_rfl) (fun _ _ _ h => h) (Or.inl ⟨by simp [Region.wanted, yielded, ops32, tget z9 (by decide) t120], fun w1 hw => by go_simp⟩) hHeld ?_
  obtain ⟨a10, e10⟩ : ∃ act, act = a9.put (some 127) (.int .i64 (j : Int)) := ⟨_, rfl⟩
  rw [← e10] at h ⊢
  have z10 : a10.tmps.size = 178 := by rw [e10, put_size]; exact z9
  clear h7
  replace t120 : a10.tmps.getD 120 undef = .bool true := by rw [e10, put_ne _ _ _ _ (by decide)]; exact t120
  replace t124 : a10.tmps.getD 124 undef = .pointer p := by rw [e10, put_ne _ _ _ _ (by decide)]; exact t124
  replace t126 : a10.tmps.getD 126 undef = .slice (some ⟨mb, 0, none⟩) N mc := by rw [e10, put_ne _ _ _ _ (by decide)]; exact t126
  have t127 : a10.tmps.getD 127 undef = .int .i64 (j : Int) := by rw [e10]; exact put_same _ _ _ (by omega)
  clear e10 z9
  refine wpAnyH_take (i := 11) (oi := { dst := some 128, op := Op.indexAddr 40 (Operand.tmp 126) (Operand.tmp 127), type := 0, pos := "law.go:82", after := #[{ on := 9, ground := Ground.data }, { on := 10, ground := Ground.data }, { on := 3, ground := Ground.guard }], guard := some (3, true) }) (v := .pointer (some ⟨mb, j, none⟩)) rfl (by kernel_rfl) (by kernel_rfl) (by kernel_rfl) (fun _ _ _ h => h) (Or.inl ⟨by simp [Region.wanted, yielded, ops32, tget z10 (by decide) t120], fun w1 hw => by go_simp⟩) hHeld ?_
  obtain ⟨a11, e11⟩ : ∃ act, act = a10.put (some 128) (.pointer (some ⟨mb, j, none⟩)) := ⟨_, rfl⟩
  rw [← e11] at h ⊢
  have z11 : a11.tmps.size = 178 := by rw [e11, put_size]; exact z10
  replace t120 : a11.tmps.getD 120 undef = .bool true := by rw [e11, put_ne _ _ _ _ (by decide)]; exact t120
  replace t124 : a11.tmps.getD 124 undef = .pointer p := by rw [e11, put_ne _ _ _ _ (by decide)]; exact t124
  clear t126
  clear t127
  have t128 : a11.tmps.getD 128 undef = .pointer (some ⟨mb, j, none⟩) := by rw [e11]; exact put_same _ _ _ (by omega)
  clear e11 z10
  refine wpAnyH_take (i := 12) (oi := { dst := some 129, op := Op.load 38 (Operand.tmp 128), type := 38, pos := "law.go:82", after := #[{ on := 11, ground := Ground.data }, { on := 3, ground := Ground.guard }], guard := some (3, true) }) (v := .pointer q) rfl (by kernel_rfl) (by kernel_rfl) (by kernel_rfl) (fun _ _ _ h => h) (Or.inl ⟨by simp [Region.wanted, yielded, ops32, tget z11 (by decide) t120], fun w1 hw => by obtain ⟨c1, c2⟩ := CL _ hw; go_simp⟩) hHeld ?_
  obtain ⟨a12, e12⟩ : ∃ act, act = a11.put (some 129) (.pointer q) := ⟨_, rfl⟩
  rw [← e12] at h ⊢
  have z12 : a12.tmps.size = 178 := by rw [e12, put_size]; exact z11
  replace t120 : a12.tmps.getD 120 undef = .bool true := by rw [e12, put_ne _ _ _ _ (by decide)]; exact t120
  replace t124 : a12.tmps.getD 124 undef = .pointer p := by rw [e12, put_ne _ _ _ _ (by decide)]; exact t124
  clear t128
  have t129 : a12.tmps.getD 129 undef = .pointer q := by rw [e12]; exact put_same _ _ _ (by omega)
  clear e12 z11
  refine wpAnyH_ready (rs := [8]) (by kernel_rfl) (by simp) ?_
  refine AllReadyH.cons (o := { dst := some 125, op := Op.call { callee := Callee.value (Operand.func 27), args := #[Operand.tmp 124], argTypes := #[35] }, type := 24, pos := "law.go:82", after := #[{ on := 7, ground := Ground.data }, { on := 3, ground := Ground.chain }, { on := 3, ground := Ground.guard }], guard := some (3, true) }) rfl (fun K hK => ?_) AllReadyH.nil
  rw [if_pos (by simp [Region.wanted, yielded, ops32, tget z12 (by decide) t120])]
  go_simp
  refine (C1 _ hHeld).mono ?_
  rintro e x13 ⟨rfl, bx13⟩
  try go_wp2_with fail
  refine hK.out _ _ (bx13) (fun hHeld => ?_)
  clear hK K
  change wpAnyH _ _ _ _ _ _ _ (a12.put (some 125) (.agg (bs H))) _
  obtain ⟨a13, e13⟩ : ∃ act, act = a12.put (some 125) (.agg (bs H)) := ⟨_, rfl⟩
  rw [← e13] at h ⊢
  have z13 : a13.tmps.size = 178 := by rw [e13, put_size]; exact z12
  replace t120 : a13.tmps.getD 120 undef = .bool true := by rw [e13, put_ne _ _ _ _ (by decide)]; exact t120
  clear t124
  replace t129 : a13.tmps.getD 129 undef = .pointer q := by rw [e13, put_ne _ _ _ _ (by decide)]; exact t129
  have t125 : a13.tmps.getD 125 undef = .agg (bs H) := by rw [e13]; exact put_same _ _ _ (by omega)
  clear e13 z12
  refine wpAnyH_ready (rs := [13]) (by kernel_rfl) (by simp) ?_
  refine AllReadyH.cons (o := { dst := some 130, op := Op.call { callee := Callee.value (Operand.func 28), args := #[Operand.tmp 129], argTypes := #[38] }, type := 24, pos := "law.go:82", after := #[{ on := 12, ground := Ground.data }, { on := 8, ground := Ground.chain }, { on := 3, ground := Ground.guard }], guard := some (3, true) }) rfl (fun K hK => ?_) AllReadyH.nil
  rw [if_pos (by simp [Region.wanted, yielded, ops32, tget z13 (by decide) t120])]
  go_simp
  refine (C2 _ hHeld).mono ?_
  rintro e x14 ⟨rfl, bx14⟩
  try go_wp2_with fail
  refine hK.out _ _ (bx14) (fun hHeld => ?_)
  clear hK K
  change wpAnyH _ _ _ _ _ _ _ (a13.put (some 130) (.agg (bs H))) _
  obtain ⟨a14, e14⟩ : ∃ act, act = a13.put (some 130) (.agg (bs H)) := ⟨_, rfl⟩
  rw [← e14] at h ⊢
  have z14 : a14.tmps.size = 178 := by rw [e14, put_size]; exact z13
  replace t120 : a14.tmps.getD 120 undef = .bool true := by rw [e14, put_ne _ _ _ _ (by decide)]; exact t120
  clear t129
  replace t125 : a14.tmps.getD 125 undef = .agg (bs H) := by rw [e14, put_ne _ _ _ _ (by decide)]; exact t125
  have t130 : a14.tmps.getD 130 undef = .agg (bs H) := by rw [e14]; exact put_same _ _ _ (by omega)
  clear e14 z13
  refine wpAnyH_take (i := 14) (oi := { dst := some 131, op := Op.binOp BinOp.neq 24 (Operand.tmp 125) (Operand.tmp 130) 24, type := 4, pos := "law.go:82", after := #[{ on := 8, ground := Ground.data }, { on := 13, ground := Ground.data }, { on := 3, ground := Ground.guard }], guard := some (3, true) }) (v := .bool false) rfl (by kernel_rfl) (by kernel_rfl) (by kernel_rfl) (fun _ _ _ h => h) (Or.inl ⟨by simp [Region.wanted, yielded, ops32, tget z14 (by decide) t120], fun w1 hw => by go_simp⟩) hHeld ?_
  obtain ⟨a15, e15⟩ : ∃ act, act = a14.put (some 131) (.bool false) := ⟨_, rfl⟩
  rw [← e15] at h ⊢
  have z15 : a15.tmps.size = 178 := by rw [e15, put_size]; exact z14
  replace t120 : a15.tmps.getD 120 undef = .bool true := by rw [e15, put_ne _ _ _ _ (by decide)]; exact t120
  clear t125
  clear t130
  have t131 : a15.tmps.getD 131 undef = .bool false := by rw [e15]; exact put_same _ _ _ (by omega)
  clear e15 z14
  refine wpAnyH_take (i := 15) (oi := { dst := some 132, op := Op.pick (Operand.tmp 120) (Operand.tmp 131) (Operand.const (Value.bool false)), type := 4, pos := "law.go:82", after := #[{ on := 3, ground := Ground.data }, { on := 14, ground := Ground.data }], guard := none }) (v := .bool false) rfl (by kernel_rfl) (by kernel_rfl) (by kernel_rfl) (fun _ _ _ h => h) (Or.inl ⟨by rfl, fun w1 hw => by go_simp⟩) hHeld ?_
  obtain ⟨a16, e16⟩ : ∃ act, act = a15.put (some 132) (.bool false) := ⟨_, rfl⟩
  rw [← e16] at h ⊢
  have z16 : a16.tmps.size = 178 := by rw [e16, put_size]; exact z15
  clear t120
  clear t131
  clear e16 z15
  exact wpAnyH_done (by kernel_rfl) (NoPanic.normal (h _ _ (hHeld) rfl)) _
def ops41 : Array Oper := #[{ dst := some 154, op := Op.move (Operand.tmp 3), type := 37, pos := "law.go:90", after := #[], guard := none }, { dst := some 155, op := Op.move (Operand.tmp 11), type := 3, pos := "law.go:90", after := #[], guard := none }, { dst := some 156, op := Op.indexAddr 37 (Operand.tmp 154) (Operand.tmp 155), type := 0, pos := "law.go:90", after := #[{ on := 0, ground := Ground.data }, { on := 1, ground := Ground.data }], guard := none }, { dst := some 157, op := Op.load 35 (Operand.tmp 156), type := 35, pos := "law.go:90", after := #[{ on := 2, ground := Ground.data }], guard := none }, { dst := some 158, op := Op.call { callee := Callee.value (Operand.func 27), args := #[Operand.tmp 157], argTypes := #[35] }, type := 24, pos := "law.go:90", after := #[{ on := 3, ground := Ground.data }], guard := none }, { dst := some 159, op := Op.move (Operand.tmp 4), type := 40, pos := "law.go:90", after := #[], guard := none }, { dst := some 160, op := Op.move (Operand.tmp 11), type := 3, pos := "law.go:90", after := #[], guard := none }, { dst := some 161, op := Op.indexAddr 40 (Operand.tmp 159) (Operand.tmp 160), type := 0, pos := "law.go:90", after := #[{ on := 5, ground := Ground.data }, { on := 6, ground := Ground.data }], guard := none }, { dst := some 162, op := Op.load 38 (Operand.tmp 161), type := 38, pos := "law.go:90", after := #[{ on := 7, ground := Ground.data }], guard := none }, { dst := some 163, op := Op.call { callee := Callee.value (Operand.func 28), args := #[Operand.tmp 162], argTypes := #[38] }, type := 24, pos := "law.go:90", after := #[{ on := 8, ground := Ground.data }, { on := 4, ground := Ground.chain }], guard := none }, { dst := some 164, op := Op.binOp BinOp.neq 24 (Operand.tmp 158) (Operand.tmp 163) 24, type := 4, pos := "law.go:90", after := #[{ on := 4, ground := Ground.data }, { on := 9, ground := Ground.data }], guard := none }, { dst := some 165, op := Op.move (Operand.tmp 164), type := 4, pos := "law.go:90", after := #[{ on := 10, ground := Ground.data }, { on := 9, ground := Ground.chain }], guard := none }, { dst := some 166, op := Op.move (Operand.tmp 3), type := 37, pos := "law.go:90", after := #[{ on := 11, ground := Ground.guard }], guard := some (11, false) }, { dst := some 167, op := Op.move (Operand.tmp 11), type := 3, pos := "law.go:90", after := #[{ on := 11, ground := Ground.guard }], guard := some (11, false) }, { dst := some 168, op := Op.indexAddr 37 (Operand.tmp 166) (Operand.tmp 167), type := 0, pos := "law.go:90", after := #[{ on := 12, ground := Ground.data }, { on := 13, ground := Ground.data }, { on := 11, ground := Ground.guard }], guard := some (11, false) }, { dst := some 169, op := Op.load 35 (Operand.tmp 168), type := 35, pos := "law.go:90", after := #[{ on := 14, ground := Ground.data }, { on := 11, ground := Ground.guard }], guard := some (11, false) }, { dst := some 170, op := Op.call { callee := Callee.value (Operand.func 23), args := #[Operand.tmp 169], argTypes := #[35] }, type := 3, pos := "law.go:90", after := #[{ on := 15, ground := Ground.data }, { on := 11, ground := Ground.chain }, { on := 11, ground := Ground.guard }], guard := some (11, false) }, { dst := some 171, op := Op.move (Operand.tmp 4), type := 40, pos := "law.go:90", after := #[{ on := 11, ground := Ground.guard }], guard := some (11, false) }, { dst := some 172, op := Op.move (Operand.tmp 11), type := 3, pos := "law.go:90", after := #[{ on := 11, ground := Ground.guard }], guard := some (11, false) }, { dst := some 173, op := Op.indexAddr 40 (Operand.tmp 171) (Operand.tmp 172), type := 0, pos := "law.go:90", after := #[{ on := 17, ground := Ground.data }, { on := 18, ground := Ground.data }, { on := 11, ground := Ground.guard }], guard := some (11, false) }, { dst := some 174, op := Op.load 38 (Operand.tmp 173), type := 38, pos := "law.go:90", after := #[{ on := 19, ground := Ground.data }, { on := 11, ground := Ground.guard }], guard := some (11, false) }, { dst := some 175, op := Op.call { callee := Callee.value (Operand.func 24), args := #[Operand.tmp 174], argTypes := #[38] }, type := 3, pos := "law.go:90", after := #[{ on := 20, ground := Ground.data }, { on := 16, ground := Ground.chain }, { on := 11, ground := Ground.guard }], guard := some (11, false) }, { dst := some 176, op := Op.binOp BinOp.neq 3 (Operand.tmp 170) (Operand.tmp 175) 3, type := 4, pos := "law.go:90", after := #[{ on := 16, ground := Ground.data }, { on := 21, ground := Ground.data }, { on := 11, ground := Ground.guard }], guard := some (11, false) }, { dst := some 177, op := Op.pick (Operand.tmp 165) (Operand.const (Value.bool true)) (Operand.tmp 176), type := 4, pos := "law.go:90", after := #[{ on := 11, ground := Ground.data }, { on := 22, ground := Ground.data }], guard := none }]
theorem both41 (lb lc mb mc N j : Nat) (p q : Option Addr) (L : Int) (H : List UInt8) (a : Act) (w : World) (Q : Exit → Act → World → Prop) (hsz : a.tmps.size = 178)
    (h3 : a.tmps.getD 3 undef = .slice (some ⟨lb, 0, none⟩) N lc)
    (h4 : a.tmps.getD 4 undef = .slice (some ⟨mb, 0, none⟩) N mc)
    (h11 : a.tmps.getD 11 undef = .int .i64 (j : Int))
    (hj : j < N) (hj0 : (0 : Int) ≤ (j : Int)) (hj1 : (j : Int) < (N : Int))
    (CL : ∀ wx, Below w.heap.size w wx → wx.cell? ⟨lb, j, none⟩ = some (.pointer p) ∧ wx.cell? ⟨mb, j, none⟩ = some (.pointer q))
    (HQ : ∀ wx, (Op.equalIn 10000 24 (.agg (bs H)) (.agg (bs H))).run Tryd.prog wx = .ok true wx)
    (C1 : ∀ wx, Below w.heap.size w wx → Calls Tryd.prog 27 #[.pointer p] wx fun e w' => e = .returned (.agg (bs H)) ∧ Below w.heap.size w w')
    (C2 : ∀ wx, Below w.heap.size w wx → Calls Tryd.prog 28 #[.pointer q] wx fun e w' => e = .returned (.agg (bs H)) ∧ Below w.heap.size w w')
    (C3 : ∀ wx, Below w.heap.size w wx → Calls Tryd.prog 23 #[.pointer p] wx fun e w' => e = .returned (.int .i64 L) ∧ Below w.heap.size w w')
    (C4 : ∀ wx, Below w.heap.size w wx → Calls Tryd.prog 24 #[.pointer q] wx fun e w' => e = .returned (.int .i64 L) ∧ Below w.heap.size w w')
    (h : ∀ (a' : Act) (w' : World), Below w.heap.size w w' → a' = ((((((((((((((((((((((((a).put (some 154) (.slice (some ⟨lb, 0, none⟩) N lc)).put (some 155) (.int .i64 (j : Int))).put (some 156) (.pointer (some ⟨lb, j, none⟩))).put (some 157) (.pointer p)).put (some 159) (.slice (some ⟨mb, 0, none⟩) N mc)).put (some 160) (.int .i64 (j : Int))).put (some 161) (.pointer (some ⟨mb, j, none⟩))).put (some 162) (.pointer q)).put (some 158) (.agg (bs H))).put (some 163) (.agg (bs H))).put (some 164) (.bool false)).put (some 165) (.bool false)).put (some 166) (.slice (some ⟨lb, 0, none⟩) N lc)).put (some 167) (.int .i64 (j : Int))).put (some 168) (.pointer (some ⟨lb, j, none⟩))).put (some 169) (.pointer p)).put (some 171) (.slice (some ⟨mb, 0, none⟩) N mc)).put (some 172) (.int .i64 (j : Int))).put (some 173) (.pointer (some ⟨mb, j, none⟩))).put (some 174) (.pointer q)).put (some 170) (.int .i64 L)).put (some 175) (.int .i64 L)).put (some 176) (.bool false)).put (some 177) (.bool false) → Q .normal a' w') :
    (Code.region 41 ops41 true).wp Tryd.prog Q a w := by
  refine wp_region_noPanic ?_
  refine wp_region_held_drew (S := fun w' => Below w.heap.size w w') (by kernel_rfl) ((Below.refl _ _).drew) (fun hHeld => ?_)
  refine wpAnyH_take (i := 0) (oi := { dst := some 154, op := Op.move (Operand.tmp 3), type := 37, pos := "law.go:90", after := #[], guard := none }) (v := .slice (some ⟨lb, 0, none⟩) N lc) rfl (by kernel_rfl) (by kernel_rfl) (by kernel_rfl) (fun _ _ _ h => h) (Or.inl ⟨by rfl, fun w1 hw => by go_simp⟩) hHeld ?_
  obtain ⟨a1, e1⟩ : ∃ act, act = a.put (some 154) (.slice (some ⟨lb, 0, none⟩) N lc) := ⟨_, rfl⟩
  rw [← e1] at h ⊢
  have z1 : a1.tmps.size = 178 := by rw [e1, put_size]; exact hsz
  replace h3 : a1.tmps.getD 3 undef = .slice (some ⟨lb, 0, none⟩) N lc := by rw [e1, put_ne _ _ _ _ (by decide)]; exact h3
  replace h4 : a1.tmps.getD 4 undef = .slice (some ⟨mb, 0, none⟩) N mc := by rw [e1, put_ne _ _ _ _ (by decide)]; exact h4
  replace h11 : a1.tmps.getD 11 undef = .int .i64 (j : Int) := by rw [e1, put_ne _ _ _ _ (by decide)]; exact h11
  have t154 : a1.tmps.getD 154 undef = .slice (some ⟨lb, 0, none⟩) N lc := by rw [e1]; exact put_same _ _ _ (by omega)
  clear e1 hsz
  refine wpAnyH_take (i := 1) (oi := { dst := some 155, op := Op.move (Operand.tmp 11), type := 3, pos := "law.go:90", after := #[], guard := none }) (v := .int .i64 (j : Int)) rfl (by kernel_rfl) (by kernel_rfl) (by kernel_rfl) (fun _ _ _ h => h) (Or.inl ⟨by rfl, fun w1 hw => by go_simp⟩) hHeld ?_
  obtain ⟨a2, e2⟩ : ∃ act, act = a1.put (some 155) (.int .i64 (j : Int)) := ⟨_, rfl⟩
  rw [← e2] at h ⊢
  have z2 : a2.tmps.size = 178 := by rw [e2, put_size]; exact z1
  replace h3 : a2.tmps.getD 3 undef = .slice (some ⟨lb, 0, none⟩) N lc := by rw [e2, put_ne _ _ _ _ (by decide)]; exact h3
  replace h4 : a2.tmps.getD 4 undef = .slice (some ⟨mb, 0, none⟩) N mc := by rw [e2, put_ne _ _ _ _ (by decide)]; exact h4
  replace h11 : a2.tmps.getD 11 undef = .int .i64 (j : Int) := by rw [e2, put_ne _ _ _ _ (by decide)]; exact h11
  replace t154 : a2.tmps.getD 154 undef = .slice (some ⟨lb, 0, none⟩) N lc := by rw [e2, put_ne _ _ _ _ (by decide)]; exact t154
  have t155 : a2.tmps.getD 155 undef = .int .i64 (j : Int) := by rw [e2]; exact put_same _ _ _ (by omega)
  clear e2 z1
  refine wpAnyH_take (i := 2) (oi := { dst := some 156, op := Op.indexAddr 37 (Operand.tmp 154) (Operand.tmp 155), type := 0, pos := "law.go:90", after := #[{ on := 0, ground := Ground.data }, { on := 1, ground := Ground.data }], guard := none }) (v := .pointer (some ⟨lb, j, none⟩)) rfl (by kernel_rfl) (by kernel_rfl) (by kernel_rfl) (fun _ _ _ h => h) (Or.inl ⟨by rfl, fun w1 hw => by go_simp⟩) hHeld ?_
  obtain ⟨a3, e3⟩ : ∃ act, act = a2.put (some 156) (.pointer (some ⟨lb, j, none⟩)) := ⟨_, rfl⟩
  rw [← e3] at h ⊢
  have z3 : a3.tmps.size = 178 := by rw [e3, put_size]; exact z2
  replace h3 : a3.tmps.getD 3 undef = .slice (some ⟨lb, 0, none⟩) N lc := by rw [e3, put_ne _ _ _ _ (by decide)]; exact h3
  replace h4 : a3.tmps.getD 4 undef = .slice (some ⟨mb, 0, none⟩) N mc := by rw [e3, put_ne _ _ _ _ (by decide)]; exact h4
  replace h11 : a3.tmps.getD 11 undef = .int .i64 (j : Int) := by rw [e3, put_ne _ _ _ _ (by decide)]; exact h11
  clear t154
  clear t155
  have t156 : a3.tmps.getD 156 undef = .pointer (some ⟨lb, j, none⟩) := by rw [e3]; exact put_same _ _ _ (by omega)
  clear e3 z2
  refine wpAnyH_take (i := 3) (oi := { dst := some 157, op := Op.load 35 (Operand.tmp 156), type := 35, pos := "law.go:90", after := #[{ on := 2, ground := Ground.data }], guard := none }) (v := .pointer p) rfl (by kernel_rfl) (by kernel_rfl) (by kernel_rfl) (fun _ _ _ h => h) (Or.inl ⟨by rfl, fun w1 hw => by obtain ⟨c1, c2⟩ := CL _ hw; go_simp⟩) hHeld ?_
  obtain ⟨a4, e4⟩ : ∃ act, act = a3.put (some 157) (.pointer p) := ⟨_, rfl⟩
  rw [← e4] at h ⊢
  have z4 : a4.tmps.size = 178 := by rw [e4, put_size]; exact z3
  replace h3 : a4.tmps.getD 3 undef = .slice (some ⟨lb, 0, none⟩) N lc := by rw [e4, put_ne _ _ _ _ (by decide)]; exact h3
  replace h4 : a4.tmps.getD 4 undef = .slice (some ⟨mb, 0, none⟩) N mc := by rw [e4, put_ne _ _ _ _ (by decide)]; exact h4
  replace h11 : a4.tmps.getD 11 undef = .int .i64 (j : Int) := by rw [e4, put_ne _ _ _ _ (by decide)]; exact h11
  clear t156
  have t157 : a4.tmps.getD 157 undef = .pointer p := by rw [e4]; exact put_same _ _ _ (by omega)
  clear e4 z3
  refine wpAnyH_take (i := 5) (oi := { dst := some 159, op := Op.move (Operand.tmp 4), type := 40, pos := "law.go:90", after := #[], guard := none }) (v := .slice (some ⟨mb, 0, none⟩) N mc) rfl (by kernel_rfl) (by kernel_rfl) (by kernel_rfl) (fun _ _ _ h => h) (Or.inl ⟨by rfl, fun w1 hw => by go_simp⟩) hHeld ?_
  obtain ⟨a5, e5⟩ : ∃ act, act = a4.put (some 159) (.slice (some ⟨mb, 0, none⟩) N mc) := ⟨_, rfl⟩
  rw [← e5] at h ⊢
  have z5 : a5.tmps.size = 178 := by rw [e5, put_size]; exact z4
  replace h3 : a5.tmps.getD 3 undef = .slice (some ⟨lb, 0, none⟩) N lc := by rw [e5, put_ne _ _ _ _ (by decide)]; exact h3
  replace h4 : a5.tmps.getD 4 undef = .slice (some ⟨mb, 0, none⟩) N mc := by rw [e5, put_ne _ _ _ _ (by decide)]; exact h4
  replace h11 : a5.tmps.getD 11 undef = .int .i64 (j : Int) := by rw [e5, put_ne _ _ _ _ (by decide)]; exact h11
  replace t157 : a5.tmps.getD 157 undef = .pointer p := by rw [e5, put_ne _ _ _ _ (by decide)]; exact t157
  have t159 : a5.tmps.getD 159 undef = .slice (some ⟨mb, 0, none⟩) N mc := by rw [e5]; exact put_same _ _ _ (by omega)
  clear e5 z4
  refine wpAnyH_take (i := 6) (oi := { dst := some 160, op := Op.move (Operand.tmp 11), type := 3, pos := "law.go:90", after := #[], guard := none }) (v := .int .i64 (j : Int)) rfl (by kernel_rfl) (by kernel_rfl) (by kernel_rfl) (fun _ _ _ h => h) (Or.inl ⟨by rfl, fun w1 hw => by go_simp⟩) hHeld ?_
  obtain ⟨a6, e6⟩ : ∃ act, act = a5.put (some 160) (.int .i64 (j : Int)) := ⟨_, rfl⟩
  rw [← e6] at h ⊢
  have z6 : a6.tmps.size = 178 := by rw [e6, put_size]; exact z5
  replace h3 : a6.tmps.getD 3 undef = .slice (some ⟨lb, 0, none⟩) N lc := by rw [e6, put_ne _ _ _ _ (by decide)]; exact h3
  replace h4 : a6.tmps.getD 4 undef = .slice (some ⟨mb, 0, none⟩) N mc := by rw [e6, put_ne _ _ _ _ (by decide)]; exact h4
  replace h11 : a6.tmps.getD 11 undef = .int .i64 (j : Int) := by rw [e6, put_ne _ _ _ _ (by decide)]; exact h11
  replace t157 : a6.tmps.getD 157 undef = .pointer p := by rw [e6, put_ne _ _ _ _ (by decide)]; exact t157
  replace t159 : a6.tmps.getD 159 undef = .slice (some ⟨mb, 0, none⟩) N mc := by rw [e6, put_ne _ _ _ _ (by decide)]; exact t159
  have t160 : a6.tmps.getD 160 undef = .int .i64 (j : Int) := by rw [e6]; exact put_same _ _ _ (by omega)
  clear e6 z5
  refine wpAnyH_take (i := 7) (oi := { dst := some 161, op := Op.indexAddr 40 (Operand.tmp 159) (Operand.tmp 160), type := 0, pos := "law.go:90", after := #[{ on := 5, ground := Ground.data }, { on := 6, ground := Ground.data }], guard := none }) (v := .pointer (some ⟨mb, j, none⟩)) rfl (by kernel_rfl) (by kernel_rfl) (by kernel_rfl) (fun _ _ _ h => h) (Or.inl ⟨by rfl, fun w1 hw => by go_simp⟩) hHeld ?_
  obtain ⟨a7, e7⟩ : ∃ act, act = a6.put (some 161) (.pointer (some ⟨mb, j, none⟩)) := ⟨_, rfl⟩
  rw [← e7] at h ⊢
  have z7 : a7.tmps.size = 178 := by rw [e7, put_size]; exact z6
  replace h3 : a7.tmps.getD 3 undef = .slice (some ⟨lb, 0, none⟩) N lc := by rw [e7, put_ne _ _ _ _ (by decide)]; exact h3
  replace h4 : a7.tmps.getD 4 undef = .slice (some ⟨mb, 0, none⟩) N mc := by rw [e7, put_ne _ _ _ _ (by decide)]; exact h4
  replace h11 : a7.tmps.getD 11 undef = .int .i64 (j : Int) := by rw [e7, put_ne _ _ _ _ (by decide)]; exact h11
  replace t157 : a7.tmps.getD 157 undef = .pointer p := by rw [e7, put_ne _ _ _ _ (by decide)]; exact t157
  clear t159
  clear t160
  have t161 : a7.tmps.getD 161 undef = .pointer (some ⟨mb, j, none⟩) := by rw [e7]; exact put_same _ _ _ (by omega)
  clear e7 z6
  refine wpAnyH_take (i := 8) (oi := { dst := some 162, op := Op.load 38 (Operand.tmp 161), type := 38, pos := "law.go:90", after := #[{ on := 7, ground := Ground.data }], guard := none }) (v := .pointer q) rfl (by kernel_rfl) (by kernel_rfl) (by kernel_rfl) (fun _ _ _ h => h) (Or.inl ⟨by rfl, fun w1 hw => by obtain ⟨c1, c2⟩ := CL _ hw; go_simp⟩) hHeld ?_
  obtain ⟨a8, e8⟩ : ∃ act, act = a7.put (some 162) (.pointer q) := ⟨_, rfl⟩
  rw [← e8] at h ⊢
  have z8 : a8.tmps.size = 178 := by rw [e8, put_size]; exact z7
  replace h3 : a8.tmps.getD 3 undef = .slice (some ⟨lb, 0, none⟩) N lc := by rw [e8, put_ne _ _ _ _ (by decide)]; exact h3
  replace h4 : a8.tmps.getD 4 undef = .slice (some ⟨mb, 0, none⟩) N mc := by rw [e8, put_ne _ _ _ _ (by decide)]; exact h4
  replace h11 : a8.tmps.getD 11 undef = .int .i64 (j : Int) := by rw [e8, put_ne _ _ _ _ (by decide)]; exact h11
  replace t157 : a8.tmps.getD 157 undef = .pointer p := by rw [e8, put_ne _ _ _ _ (by decide)]; exact t157
  clear t161
  have t162 : a8.tmps.getD 162 undef = .pointer q := by rw [e8]; exact put_same _ _ _ (by omega)
  clear e8 z7
  refine wpAnyH_ready (rs := [4]) (by kernel_rfl) (by simp) ?_
  refine AllReadyH.cons (o := { dst := some 158, op := Op.call { callee := Callee.value (Operand.func 27), args := #[Operand.tmp 157], argTypes := #[35] }, type := 24, pos := "law.go:90", after := #[{ on := 3, ground := Ground.data }], guard := none }) rfl (fun K hK => ?_) AllReadyH.nil
  rw [if_pos (by rfl)]
  go_simp
  refine (C1 _ hHeld).mono ?_
  rintro e x9 ⟨rfl, bx9⟩
  try go_wp2_with fail
  refine hK.out _ _ (bx9) (fun hHeld => ?_)
  clear hK K
  change wpAnyH _ _ _ _ _ _ _ (a8.put (some 158) (.agg (bs H))) _
  obtain ⟨a9, e9⟩ : ∃ act, act = a8.put (some 158) (.agg (bs H)) := ⟨_, rfl⟩
  rw [← e9] at h ⊢
  have z9 : a9.tmps.size = 178 := by rw [e9, put_size]; exact z8
  replace h3 : a9.tmps.getD 3 undef = .slice (some ⟨lb, 0, none⟩) N lc := by rw [e9, put_ne _ _ _ _ (by decide)]; exact h3
  replace h4 : a9.tmps.getD 4 undef = .slice (some ⟨mb, 0, none⟩) N mc := by rw [e9, put_ne _ _ _ _ (by decide)]; exact h4
  replace h11 : a9.tmps.getD 11 undef = .int .i64 (j : Int) := by rw [e9, put_ne _ _ _ _ (by decide)]; exact h11
  clear t157
  replace t162 : a9.tmps.getD 162 undef = .pointer q := by rw [e9, put_ne _ _ _ _ (by decide)]; exact t162
  have t158 : a9.tmps.getD 158 undef = .agg (bs H) := by rw [e9]; exact put_same _ _ _ (by omega)
  clear e9 z8
  refine wpAnyH_ready (rs := [9]) (by kernel_rfl) (by simp) ?_
  refine AllReadyH.cons (o := { dst := some 163, op := Op.call { callee := Callee.value (Operand.func 28), args := #[Operand.tmp 162], argTypes := #[38] }, type := 24, pos := "law.go:90", after := #[{ on := 8, ground := Ground.data }, { on := 4, ground := Ground.chain }], guard := none }) rfl (fun K hK => ?_) AllReadyH.nil
  rw [if_pos (by rfl)]
  go_simp
  refine (C2 _ hHeld).mono ?_
  rintro e x10 ⟨rfl, bx10⟩
  try go_wp2_with fail
  refine hK.out _ _ (bx10) (fun hHeld => ?_)
  clear hK K
  change wpAnyH _ _ _ _ _ _ _ (a9.put (some 163) (.agg (bs H))) _
  obtain ⟨a10, e10⟩ : ∃ act, act = a9.put (some 163) (.agg (bs H)) := ⟨_, rfl⟩
  rw [← e10] at h ⊢
  have z10 : a10.tmps.size = 178 := by rw [e10, put_size]; exact z9
  replace h3 : a10.tmps.getD 3 undef = .slice (some ⟨lb, 0, none⟩) N lc := by rw [e10, put_ne _ _ _ _ (by decide)]; exact h3
  replace h4 : a10.tmps.getD 4 undef = .slice (some ⟨mb, 0, none⟩) N mc := by rw [e10, put_ne _ _ _ _ (by decide)]; exact h4
  replace h11 : a10.tmps.getD 11 undef = .int .i64 (j : Int) := by rw [e10, put_ne _ _ _ _ (by decide)]; exact h11
  clear t162
  replace t158 : a10.tmps.getD 158 undef = .agg (bs H) := by rw [e10, put_ne _ _ _ _ (by decide)]; exact t158
  have t163 : a10.tmps.getD 163 undef = .agg (bs H) := by rw [e10]; exact put_same _ _ _ (by omega)
  clear e10 z9
  refine wpAnyH_take (i := 10) (oi := { dst := some 164, op := Op.binOp BinOp.neq 24 (Operand.tmp 158) (Operand.tmp 163) 24, type := 4, pos := "law.go:90", after := #[{ on := 4, ground := Ground.data }, { on := 9, ground := Ground.data }], guard := none }) (v := .bool false) rfl (by kernel_rfl) (by kernel_rfl) (by kernel_rfl) (fun _ _ _ h => h) (Or.inl ⟨by rfl, fun w1 hw => by go_simp⟩) hHeld ?_
  obtain ⟨a11, e11⟩ : ∃ act, act = a10.put (some 164) (.bool false) := ⟨_, rfl⟩
  rw [← e11] at h ⊢
  have z11 : a11.tmps.size = 178 := by rw [e11, put_size]; exact z10
  replace h3 : a11.tmps.getD 3 undef = .slice (some ⟨lb, 0, none⟩) N lc := by rw [e11, put_ne _ _ _ _ (by decide)]; exact h3
  replace h4 : a11.tmps.getD 4 undef = .slice (some ⟨mb, 0, none⟩) N mc := by rw [e11, put_ne _ _ _ _ (by decide)]; exact h4
  replace h11 : a11.tmps.getD 11 undef = .int .i64 (j : Int) := by rw [e11, put_ne _ _ _ _ (by decide)]; exact h11
  clear t158
  clear t163
  have t164 : a11.tmps.getD 164 undef = .bool false := by rw [e11]; exact put_same _ _ _ (by omega)
  clear e11 z10
  refine wpAnyH_take (i := 11) (oi := { dst := some 165, op := Op.move (Operand.tmp 164), type := 4, pos := "law.go:90", after := #[{ on := 10, ground := Ground.data }, { on := 9, ground := Ground.chain }], guard := none }) (v := .bool false) rfl (by kernel_rfl) (by kernel_rfl) (by kernel_rfl) (fun _ _ _ h => h) (Or.inl ⟨by rfl, fun w1 hw => by go_simp⟩) hHeld ?_
  obtain ⟨a12, e12⟩ : ∃ act, act = a11.put (some 165) (.bool false) := ⟨_, rfl⟩
  rw [← e12] at h ⊢
  have z12 : a12.tmps.size = 178 := by rw [e12, put_size]; exact z11
  replace h3 : a12.tmps.getD 3 undef = .slice (some ⟨lb, 0, none⟩) N lc := by rw [e12, put_ne _ _ _ _ (by decide)]; exact h3
  replace h4 : a12.tmps.getD 4 undef = .slice (some ⟨mb, 0, none⟩) N mc := by rw [e12, put_ne _ _ _ _ (by decide)]; exact h4
  replace h11 : a12.tmps.getD 11 undef = .int .i64 (j : Int) := by rw [e12, put_ne _ _ _ _ (by decide)]; exact h11
  clear t164
  have t165 : a12.tmps.getD 165 undef = .bool false := by rw [e12]; exact put_same _ _ _ (by omega)
  clear e12 z11
  refine wpAnyH_take (i := 12) (oi := { dst := some 166, op := Op.move (Operand.tmp 3), type := 37, pos := "law.go:90", after := #[{ on := 11, ground := Ground.guard }], guard := some (11, false) }) (v := .slice (some ⟨lb, 0, none⟩) N lc) rfl (by kernel_rfl) (by kernel_rfl) (by kernel_rfl) (fun _ _ _ h => h) (Or.inl ⟨by simp [Region.wanted, yielded, ops41, tget z12 (by decide) t165], fun w1 hw => by go_simp⟩) hHeld ?_
  obtain ⟨a13, e13⟩ : ∃ act, act = a12.put (some 166) (.slice (some ⟨lb, 0, none⟩) N lc) := ⟨_, rfl⟩
  rw [← e13] at h ⊢
  have z13 : a13.tmps.size = 178 := by rw [e13, put_size]; exact z12
  clear h3
  replace h4 : a13.tmps.getD 4 undef = .slice (some ⟨mb, 0, none⟩) N mc := by rw [e13, put_ne _ _ _ _ (by decide)]; exact h4
  replace h11 : a13.tmps.getD 11 undef = .int .i64 (j : Int) := by rw [e13, put_ne _ _ _ _ (by decide)]; exact h11
  replace t165 : a13.tmps.getD 165 undef = .bool false := by rw [e13, put_ne _ _ _ _ (by decide)]; exact t165
  have t166 : a13.tmps.getD 166 undef = .slice (some ⟨lb, 0, none⟩) N lc := by rw [e13]; exact put_same _ _ _ (by omega)
  clear e13 z12
  refine wpAnyH_take (i := 13) (oi := { dst := some 167, op := Op.move (Operand.tmp 11), type := 3, pos := "law.go:90", after := #[{ on := 11, ground := Ground.guard }], guard := some (11, false) }) (v := .int .i64 (j : Int)) rfl (by kernel_rfl) (by kernel_rfl) (by kernel_rfl) (fun _ _ _ h => h) (Or.inl ⟨by simp [Region.wanted, yielded, ops41, tget z13 (by decide) t165], fun w1 hw => by go_simp⟩) hHeld ?_
  obtain ⟨a14, e14⟩ : ∃ act, act = a13.put (some 167) (.int .i64 (j : Int)) := ⟨_, rfl⟩
  rw [← e14] at h ⊢
  have z14 : a14.tmps.size = 178 := by rw [e14, put_size]; exact z13
  replace h4 : a14.tmps.getD 4 undef = .slice (some ⟨mb, 0, none⟩) N mc := by rw [e14, put_ne _ _ _ _ (by decide)]; exact h4
  replace h11 : a14.tmps.getD 11 undef = .int .i64 (j : Int) := by rw [e14, put_ne _ _ _ _ (by decide)]; exact h11
  replace t165 : a14.tmps.getD 165 undef = .bool false := by rw [e14, put_ne _ _ _ _ (by decide)]; exact t165
  replace t166 : a14.tmps.getD 166 undef = .slice (some ⟨lb, 0, none⟩) N lc := by rw [e14, put_ne _ _ _ _ (by decide)]; exact t166
  have t167 : a14.tmps.getD 167 undef = .int .i64 (j : Int) := by rw [e14]; exact put_same _ _ _ (by omega)
  clear e14 z13
  refine wpAnyH_take (i := 14) (oi := { dst := some 168, op := Op.indexAddr 37 (Operand.tmp 166) (Operand.tmp 167), type := 0, pos := "law.go:90", after := #[{ on := 12, ground := Ground.data }, { on := 13, ground := Ground.data }, { on := 11, ground := Ground.guard }], guard := some (11, false) }) (v := .pointer (some ⟨lb, j, none⟩)) rfl (by kernel_rfl) (by kernel_rfl) (by kernel_rfl) (fun _ _ _ h => h) (Or.inl ⟨by simp [Region.wanted, yielded, ops41, tget z14 (by decide) t165], fun w1 hw => by go_simp⟩) hHeld ?_
  obtain ⟨a15, e15⟩ : ∃ act, act = a14.put (some 168) (.pointer (some ⟨lb, j, none⟩)) := ⟨_, rfl⟩
  rw [← e15] at h ⊢
  have z15 : a15.tmps.size = 178 := by rw [e15, put_size]; exact z14
  replace h4 : a15.tmps.getD 4 undef = .slice (some ⟨mb, 0, none⟩) N mc := by rw [e15, put_ne _ _ _ _ (by decide)]; exact h4
  replace h11 : a15.tmps.getD 11 undef = .int .i64 (j : Int) := by rw [e15, put_ne _ _ _ _ (by decide)]; exact h11
  replace t165 : a15.tmps.getD 165 undef = .bool false := by rw [e15, put_ne _ _ _ _ (by decide)]; exact t165
  clear t166
  clear t167
  have t168 : a15.tmps.getD 168 undef = .pointer (some ⟨lb, j, none⟩) := by rw [e15]; exact put_same _ _ _ (by omega)
  clear e15 z14
  refine wpAnyH_take (i := 15) (oi := { dst := some 169, op := Op.load 35 (Operand.tmp 168), type := 35, pos := "law.go:90", after := #[{ on := 14, ground := Ground.data }, { on := 11, ground := Ground.guard }], guard := some (11, false) }) (v := .pointer p) rfl (by kernel_rfl) (by kernel_rfl) (by kernel_rfl) (fun _ _ _ h => h) (Or.inl ⟨by simp [Region.wanted, yielded, ops41, tget z15 (by decide) t165], fun w1 hw => by obtain ⟨c1, c2⟩ := CL _ hw; go_simp⟩) hHeld ?_
  obtain ⟨a16, e16⟩ : ∃ act, act = a15.put (some 169) (.pointer p) := ⟨_, rfl⟩
  rw [← e16] at h ⊢
  have z16 : a16.tmps.size = 178 := by rw [e16, put_size]; exact z15
  replace h4 : a16.tmps.getD 4 undef = .slice (some ⟨mb, 0, none⟩) N mc := by rw [e16, put_ne _ _ _ _ (by decide)]; exact h4
  replace h11 : a16.tmps.getD 11 undef = .int .i64 (j : Int) := by rw [e16, put_ne _ _ _ _ (by decide)]; exact h11
  replace t165 : a16.tmps.getD 165 undef = .bool false := by rw [e16, put_ne _ _ _ _ (by decide)]; exact t165
  clear t168
  have t169 : a16.tmps.getD 169 undef = .pointer p := by rw [e16]; exact put_same _ _ _ (by omega)
  clear e16 z15
  refine wpAnyH_take (i := 17) (oi := { dst := some 171, op := Op.move (Operand.tmp 4), type := 40, pos := "law.go:90", after := #[{ on := 11, ground := Ground.guard }], guard := some (11, false) }) (v := .slice (some ⟨mb, 0, none⟩) N mc) rfl (by kernel_rfl) (by kernel_rfl) (by kernel_rfl) (fun _ _ _ h => h) (Or.inl ⟨by simp [Region.wanted, yielded, ops41, tget z16 (by decide) t165], fun w1 hw => by go_simp⟩) hHeld ?_
  obtain ⟨a17, e17⟩ : ∃ act, act = a16.put (some 171) (.slice (some ⟨mb, 0, none⟩) N mc) := ⟨_, rfl⟩
  rw [← e17] at h ⊢
  have z17 : a17.tmps.size = 178 := by rw [e17, put_size]; exact z16
  clear h4
  replace h11 : a17.tmps.getD 11 undef = .int .i64 (j : Int) := by rw [e17, put_ne _ _ _ _ (by decide)]; exact h11
  replace t165 : a17.tmps.getD 165 undef = .bool false := by rw [e17, put_ne _ _ _ _ (by decide)]; exact t165
  replace t169 : a17.tmps.getD 169 undef = .pointer p := by rw [e17, put_ne _ _ _ _ (by decide)]; exact t169
  have t171 : a17.tmps.getD 171 undef = .slice (some ⟨mb, 0, none⟩) N mc := by rw [e17]; exact put_same _ _ _ (by omega)
  clear e17 z16
  refine wpAnyH_take (i := 18) (oi := { dst := some 172, op := Op.move (Operand.tmp 11), type := 3, pos := "law.go:90", after := #[{ on := 11, ground := Ground.guard }], guard := some (11, false) }) (v := .int .i64 (j : Int)) rfl (by kernel_rfl) (by kernel_rfl) (by kernel_rfl) (fun _ _ _ h => h) (Or.inl ⟨by simp [Region.wanted, yielded, ops41, tget z17 (by decide) t165], fun w1 hw => by go_simp⟩) hHeld ?_
  obtain ⟨a18, e18⟩ : ∃ act, act = a17.put (some 172) (.int .i64 (j : Int)) := ⟨_, rfl⟩
  rw [← e18] at h ⊢
  have z18 : a18.tmps.size = 178 := by rw [e18, put_size]; exact z17
  clear h11
  replace t165 : a18.tmps.getD 165 undef = .bool false := by rw [e18, put_ne _ _ _ _ (by decide)]; exact t165
  replace t169 : a18.tmps.getD 169 undef = .pointer p := by rw [e18, put_ne _ _ _ _ (by decide)]; exact t169
  replace t171 : a18.tmps.getD 171 undef = .slice (some ⟨mb, 0, none⟩) N mc := by rw [e18, put_ne _ _ _ _ (by decide)]; exact t171
  have t172 : a18.tmps.getD 172 undef = .int .i64 (j : Int) := by rw [e18]; exact put_same _ _ _ (by omega)
  clear e18 z17
  refine wpAnyH_take (i := 19) (oi := { dst := some 173, op := Op.indexAddr 40 (Operand.tmp 171) (Operand.tmp 172), type := 0, pos := "law.go:90", after := #[{ on := 17, ground := Ground.data }, { on := 18, ground := Ground.data }, { on := 11, ground := Ground.guard }], guard := some (11, false) }) (v := .pointer (some ⟨mb, j, none⟩)) rfl (by kernel_rfl) (by kernel_rfl) (by kernel_rfl) (fun _ _ _ h => h) (Or.inl ⟨by simp [Region.wanted, yielded, ops41, tget z18 (by decide) t165], fun w1 hw => by go_simp⟩) hHeld ?_
  obtain ⟨a19, e19⟩ : ∃ act, act = a18.put (some 173) (.pointer (some ⟨mb, j, none⟩)) := ⟨_, rfl⟩
  rw [← e19] at h ⊢
  have z19 : a19.tmps.size = 178 := by rw [e19, put_size]; exact z18
  replace t165 : a19.tmps.getD 165 undef = .bool false := by rw [e19, put_ne _ _ _ _ (by decide)]; exact t165
  replace t169 : a19.tmps.getD 169 undef = .pointer p := by rw [e19, put_ne _ _ _ _ (by decide)]; exact t169
  clear t171
  clear t172
  have t173 : a19.tmps.getD 173 undef = .pointer (some ⟨mb, j, none⟩) := by rw [e19]; exact put_same _ _ _ (by omega)
  clear e19 z18
  refine wpAnyH_take (i := 20) (oi := { dst := some 174, op := Op.load 38 (Operand.tmp 173), type := 38, pos := "law.go:90", after := #[{ on := 19, ground := Ground.data }, { on := 11, ground := Ground.guard }], guard := some (11, false) }) (v := .pointer q) rfl (by kernel_rfl) (by kernel_rfl) (by kernel_rfl) (fun _ _ _ h => h) (Or.inl ⟨by simp [Region.wanted, yielded, ops41, tget z19 (by decide) t165], fun w1 hw => by obtain ⟨c1, c2⟩ := CL _ hw; go_simp⟩) hHeld ?_
  obtain ⟨a20, e20⟩ : ∃ act, act = a19.put (some 174) (.pointer q) := ⟨_, rfl⟩
  rw [← e20] at h ⊢
  have z20 : a20.tmps.size = 178 := by rw [e20, put_size]; exact z19
  replace t165 : a20.tmps.getD 165 undef = .bool false := by rw [e20, put_ne _ _ _ _ (by decide)]; exact t165
  replace t169 : a20.tmps.getD 169 undef = .pointer p := by rw [e20, put_ne _ _ _ _ (by decide)]; exact t169
  clear t173
  have t174 : a20.tmps.getD 174 undef = .pointer q := by rw [e20]; exact put_same _ _ _ (by omega)
  clear e20 z19
  refine wpAnyH_ready (rs := [16]) (by kernel_rfl) (by simp) ?_
  refine AllReadyH.cons (o := { dst := some 170, op := Op.call { callee := Callee.value (Operand.func 23), args := #[Operand.tmp 169], argTypes := #[35] }, type := 3, pos := "law.go:90", after := #[{ on := 15, ground := Ground.data }, { on := 11, ground := Ground.chain }, { on := 11, ground := Ground.guard }], guard := some (11, false) }) rfl (fun K hK => ?_) AllReadyH.nil
  rw [if_pos (by simp [Region.wanted, yielded, ops41, tget z20 (by decide) t165])]
  go_simp
  refine (C3 _ hHeld).mono ?_
  rintro e x21 ⟨rfl, bx21⟩
  try go_wp2_with fail
  refine hK.out _ _ (bx21) (fun hHeld => ?_)
  clear hK K
  change wpAnyH _ _ _ _ _ _ _ (a20.put (some 170) (.int .i64 L)) _
  obtain ⟨a21, e21⟩ : ∃ act, act = a20.put (some 170) (.int .i64 L) := ⟨_, rfl⟩
  rw [← e21] at h ⊢
  have z21 : a21.tmps.size = 178 := by rw [e21, put_size]; exact z20
  replace t165 : a21.tmps.getD 165 undef = .bool false := by rw [e21, put_ne _ _ _ _ (by decide)]; exact t165
  clear t169
  replace t174 : a21.tmps.getD 174 undef = .pointer q := by rw [e21, put_ne _ _ _ _ (by decide)]; exact t174
  have t170 : a21.tmps.getD 170 undef = .int .i64 L := by rw [e21]; exact put_same _ _ _ (by omega)
  clear e21 z20
  refine wpAnyH_ready (rs := [21]) (by kernel_rfl) (by simp) ?_
  refine AllReadyH.cons (o := { dst := some 175, op := Op.call { callee := Callee.value (Operand.func 24), args := #[Operand.tmp 174], argTypes := #[38] }, type := 3, pos := "law.go:90", after := #[{ on := 20, ground := Ground.data }, { on := 16, ground := Ground.chain }, { on := 11, ground := Ground.guard }], guard := some (11, false) }) rfl (fun K hK => ?_) AllReadyH.nil
  rw [if_pos (by simp [Region.wanted, yielded, ops41, tget z21 (by decide) t165])]
  go_simp
  refine (C4 _ hHeld).mono ?_
  rintro e x22 ⟨rfl, bx22⟩
  try go_wp2_with fail
  refine hK.out _ _ (bx22) (fun hHeld => ?_)
  clear hK K
  change wpAnyH _ _ _ _ _ _ _ (a21.put (some 175) (.int .i64 L)) _
  obtain ⟨a22, e22⟩ : ∃ act, act = a21.put (some 175) (.int .i64 L) := ⟨_, rfl⟩
  rw [← e22] at h ⊢
  have z22 : a22.tmps.size = 178 := by rw [e22, put_size]; exact z21
  replace t165 : a22.tmps.getD 165 undef = .bool false := by rw [e22, put_ne _ _ _ _ (by decide)]; exact t165
  clear t174
  replace t170 : a22.tmps.getD 170 undef = .int .i64 L := by rw [e22, put_ne _ _ _ _ (by decide)]; exact t170
  have t175 : a22.tmps.getD 175 undef = .int .i64 L := by rw [e22]; exact put_same _ _ _ (by omega)
  clear e22 z21
  refine wpAnyH_take (i := 22) (oi := { dst := some 176, op := Op.binOp BinOp.neq 3 (Operand.tmp 170) (Operand.tmp 175) 3, type := 4, pos := "law.go:90", after := #[{ on := 16, ground := Ground.data }, { on := 21, ground := Ground.data }, { on := 11, ground := Ground.guard }], guard := some (11, false) }) (v := .bool false) rfl (by kernel_rfl) (by kernel_rfl) (by kernel_rfl) (fun _ _ _ h => h) (Or.inl ⟨by simp [Region.wanted, yielded, ops41, tget z22 (by decide) t165], fun w1 hw => by go_simp⟩) hHeld ?_
  obtain ⟨a23, e23⟩ : ∃ act, act = a22.put (some 176) (.bool false) := ⟨_, rfl⟩
  rw [← e23] at h ⊢
  have z23 : a23.tmps.size = 178 := by rw [e23, put_size]; exact z22
  replace t165 : a23.tmps.getD 165 undef = .bool false := by rw [e23, put_ne _ _ _ _ (by decide)]; exact t165
  clear t170
  clear t175
  have t176 : a23.tmps.getD 176 undef = .bool false := by rw [e23]; exact put_same _ _ _ (by omega)
  clear e23 z22
  refine wpAnyH_take (i := 23) (oi := { dst := some 177, op := Op.pick (Operand.tmp 165) (Operand.const (Value.bool true)) (Operand.tmp 176), type := 4, pos := "law.go:90", after := #[{ on := 11, ground := Ground.data }, { on := 22, ground := Ground.data }], guard := none }) (v := .bool false) rfl (by kernel_rfl) (by kernel_rfl) (by kernel_rfl) (fun _ _ _ h => h) (Or.inl ⟨by rfl, fun w1 hw => by go_simp⟩) hHeld ?_
  obtain ⟨a24, e24⟩ : ∃ act, act = a23.put (some 177) (.bool false) := ⟨_, rfl⟩
  rw [← e24] at h ⊢
  have z24 : a24.tmps.size = 178 := by rw [e24, put_size]; exact z23
  clear t165
  clear t176
  clear e24 z23
  exact wpAnyH_done (by kernel_rfl) (NoPanic.normal (h _ _ (hHeld) rfl)) _
def ops24 : Array Oper := #[{ dst := some 77, op := Op.move (Operand.tmp 4), type := 40, pos := "law.go:69", after := #[], guard := none }, { dst := some 78, op := Op.move (Operand.tmp 7), type := 3, pos := "law.go:69", after := #[], guard := none }, { dst := some 79, op := Op.indexAddr 40 (Operand.tmp 77) (Operand.tmp 78), type := 0, pos := "law.go:69", after := #[{ on := 0, ground := Ground.data }, { on := 1, ground := Ground.data }], guard := none }, { dst := some 80, op := Op.load 38 (Operand.tmp 79), type := 38, pos := "law.go:69", after := #[{ on := 2, ground := Ground.data }], guard := none }, { dst := some 81, op := Op.fieldAddr 42 (Operand.tmp 6) 2, type := 0, pos := "law.go:69", after := #[], guard := none }, { dst := some 82, op := Op.load 26 (Operand.tmp 81), type := 26, pos := "law.go:69", after := #[{ on := 4, ground := Ground.data }], guard := none }, { dst := some 83, op := Op.call { callee := Callee.value (Operand.func 22), args := #[Operand.tmp 80, Operand.tmp 82], argTypes := #[38, 26] }, type := 0, pos := "law.go:69", after := #[{ on := 3, ground := Ground.data }, { on := 5, ground := Ground.data }], guard := none }]
theorem write24 (mb mc N j g n ck : Nat) (q ak : Option Addr) (Post : World → Prop) (a : Act) (w : World) (Q : Exit → Act → World → Prop) (hsz : a.tmps.size = 178)
    (h4 : a.tmps.getD 4 undef = .slice (some ⟨mb, 0, none⟩) N mc)
    (h6 : a.tmps.getD 6 undef = .pointer (some ⟨g, 0, none⟩))
    (h7 : a.tmps.getD 7 undef = .int .i64 (j : Int))
    (hj : j < N) (hj0 : (0 : Int) ≤ (j : Int)) (hj1 : (j : Int) < (N : Int))
    (c1 : w.cell? ⟨mb, j, none⟩ = some (.pointer q)) (c2 : w.cell? ⟨g, 2, none⟩ = some (.slice ak n ck))
    (C1 : Calls Tryd.prog 22 #[.pointer q, .slice ak n ck] w.drew fun e w' => e = .returned (.tuple #[]) ∧ (w'.cell? ⟨mb, j, none⟩ = some (.pointer q) ∧ w'.cell? ⟨g, 2, none⟩ = some (.slice ak n ck)) ∧ Post w')
    (h : ∀ (a' : Act) (w' : World), Post w' → a' = (((((((a).put (some 77) (.slice (some ⟨mb, 0, none⟩) N mc)).put (some 78) (.int .i64 (j : Int))).put (some 79) (.pointer (some ⟨mb, j, none⟩))).put (some 80) (.pointer q)).put (some 81) (.pointer (some ⟨g, 2, none⟩))).put (some 82) (.slice ak n ck)).put (some 83) (.tuple #[]) → Q .normal a' w') :
    (Code.region 24 ops24 true).wp Tryd.prog Q a w := by
  refine wp_region_noPanic ?_
  refine wp_region_held_drew (S := fun w' => w'.cell? ⟨mb, j, none⟩ = some (.pointer q) ∧ w'.cell? ⟨g, 2, none⟩ = some (.slice ak n ck)) (by kernel_rfl) (⟨c1, c2⟩) (fun hHeld => ?_)
  refine wpAnyH_take (i := 0) (oi := { dst := some 77, op := Op.move (Operand.tmp 4), type := 40, pos := "law.go:69", after := #[], guard := none }) (v := .slice (some ⟨mb, 0, none⟩) N mc) rfl (by kernel_rfl) (by kernel_rfl) (by kernel_rfl) (fun _ _ _ h => h) (Or.inl ⟨by rfl, fun w1 hw => by go_simp⟩) hHeld ?_
  obtain ⟨a1, e1⟩ : ∃ act, act = a.put (some 77) (.slice (some ⟨mb, 0, none⟩) N mc) := ⟨_, rfl⟩
  rw [← e1] at h ⊢
  have z1 : a1.tmps.size = 178 := by rw [e1, put_size]; exact hsz
  clear h4
  replace h6 : a1.tmps.getD 6 undef = .pointer (some ⟨g, 0, none⟩) := by rw [e1, put_ne _ _ _ _ (by decide)]; exact h6
  replace h7 : a1.tmps.getD 7 undef = .int .i64 (j : Int) := by rw [e1, put_ne _ _ _ _ (by decide)]; exact h7
  have t77 : a1.tmps.getD 77 undef = .slice (some ⟨mb, 0, none⟩) N mc := by rw [e1]; exact put_same _ _ _ (by omega)
  clear e1 hsz
  refine wpAnyH_take (i := 1) (oi := { dst := some 78, op := Op.move (Operand.tmp 7), type := 3, pos := "law.go:69", after := #[], guard := none }) (v := .int .i64 (j : Int)) rfl (by kernel_rfl) (by kernel_rfl) (by kernel_rfl) (fun _ _ _ h => h) (Or.inl ⟨by rfl, fun w1 hw => by go_simp⟩) hHeld ?_
  obtain ⟨a2, e2⟩ : ∃ act, act = a1.put (some 78) (.int .i64 (j : Int)) := ⟨_, rfl⟩
  rw [← e2] at h ⊢
  have z2 : a2.tmps.size = 178 := by rw [e2, put_size]; exact z1
  replace h6 : a2.tmps.getD 6 undef = .pointer (some ⟨g, 0, none⟩) := by rw [e2, put_ne _ _ _ _ (by decide)]; exact h6
  clear h7
  replace t77 : a2.tmps.getD 77 undef = .slice (some ⟨mb, 0, none⟩) N mc := by rw [e2, put_ne _ _ _ _ (by decide)]; exact t77
  have t78 : a2.tmps.getD 78 undef = .int .i64 (j : Int) := by rw [e2]; exact put_same _ _ _ (by omega)
  clear e2 z1
  refine wpAnyH_take (i := 2) (oi := { dst := some 79, op := Op.indexAddr 40 (Operand.tmp 77) (Operand.tmp 78), type := 0, pos := "law.go:69", after := #[{ on := 0, ground := Ground.data }, { on := 1, ground := Ground.data }], guard := none }) (v := .pointer (some ⟨mb, j, none⟩)) rfl (by kernel_rfl) (by kernel_rfl) (by kernel_rfl) (fun _ _ _ h => h) (Or.inl ⟨by rfl, fun w1 hw => by go_simp⟩) hHeld ?_
  obtain ⟨a3, e3⟩ : ∃ act, act = a2.put (some 79) (.pointer (some ⟨mb, j, none⟩)) := ⟨_, rfl⟩
  rw [← e3] at h ⊢
  have z3 : a3.tmps.size = 178 := by rw [e3, put_size]; exact z2
  replace h6 : a3.tmps.getD 6 undef = .pointer (some ⟨g, 0, none⟩) := by rw [e3, put_ne _ _ _ _ (by decide)]; exact h6
  clear t77
  clear t78
  have t79 : a3.tmps.getD 79 undef = .pointer (some ⟨mb, j, none⟩) := by rw [e3]; exact put_same _ _ _ (by omega)
  clear e3 z2
  refine wpAnyH_take (i := 3) (oi := { dst := some 80, op := Op.load 38 (Operand.tmp 79), type := 38, pos := "law.go:69", after := #[{ on := 2, ground := Ground.data }], guard := none }) (v := .pointer q) rfl (by kernel_rfl) (by kernel_rfl) (by kernel_rfl) (fun _ _ _ h => h) (Or.inl ⟨by rfl, fun w1 hw => by obtain ⟨c1, c2⟩ := hw; go_simp⟩) hHeld ?_
  obtain ⟨a4, e4⟩ : ∃ act, act = a3.put (some 80) (.pointer q) := ⟨_, rfl⟩
  rw [← e4] at h ⊢
  have z4 : a4.tmps.size = 178 := by rw [e4, put_size]; exact z3
  replace h6 : a4.tmps.getD 6 undef = .pointer (some ⟨g, 0, none⟩) := by rw [e4, put_ne _ _ _ _ (by decide)]; exact h6
  clear t79
  have t80 : a4.tmps.getD 80 undef = .pointer q := by rw [e4]; exact put_same _ _ _ (by omega)
  clear e4 z3
  refine wpAnyH_take (i := 4) (oi := { dst := some 81, op := Op.fieldAddr 42 (Operand.tmp 6) 2, type := 0, pos := "law.go:69", after := #[], guard := none }) (v := .pointer (some ⟨g, 2, none⟩)) rfl (by kernel_rfl) (by kernel_rfl) (by kernel_rfl) (fun _ _ _ h => h) (Or.inl ⟨by rfl, fun w1 hw => by go_simp⟩) hHeld ?_
  obtain ⟨a5, e5⟩ : ∃ act, act = a4.put (some 81) (.pointer (some ⟨g, 2, none⟩)) := ⟨_, rfl⟩
  rw [← e5] at h ⊢
  have z5 : a5.tmps.size = 178 := by rw [e5, put_size]; exact z4
  clear h6
  replace t80 : a5.tmps.getD 80 undef = .pointer q := by rw [e5, put_ne _ _ _ _ (by decide)]; exact t80
  have t81 : a5.tmps.getD 81 undef = .pointer (some ⟨g, 2, none⟩) := by rw [e5]; exact put_same _ _ _ (by omega)
  clear e5 z4
  refine wpAnyH_take (i := 5) (oi := { dst := some 82, op := Op.load 26 (Operand.tmp 81), type := 26, pos := "law.go:69", after := #[{ on := 4, ground := Ground.data }], guard := none }) (v := .slice ak n ck) rfl (by kernel_rfl) (by kernel_rfl) (by kernel_rfl) (fun _ _ _ h => h) (Or.inl ⟨by rfl, fun w1 hw => by obtain ⟨c1, c2⟩ := hw; go_simp⟩) hHeld ?_
  obtain ⟨a6, e6⟩ : ∃ act, act = a5.put (some 82) (.slice ak n ck) := ⟨_, rfl⟩
  rw [← e6] at h ⊢
  have z6 : a6.tmps.size = 178 := by rw [e6, put_size]; exact z5
  replace t80 : a6.tmps.getD 80 undef = .pointer q := by rw [e6, put_ne _ _ _ _ (by decide)]; exact t80
  clear t81
  have t82 : a6.tmps.getD 82 undef = .slice ak n ck := by rw [e6]; exact put_same _ _ _ (by omega)
  clear e6 z5
  refine wpAnyH_ready (rs := [6]) (by kernel_rfl) (by simp) ?_
  refine AllReadyH.cons (o := { dst := some 83, op := Op.call { callee := Callee.value (Operand.func 22), args := #[Operand.tmp 80, Operand.tmp 82], argTypes := #[38, 26] }, type := 0, pos := "law.go:69", after := #[{ on := 3, ground := Ground.data }, { on := 5, ground := Ground.data }], guard := none }) rfl (fun K hK => ?_) AllReadyH.nil
  rw [if_pos (by rfl)]
  go_simp
  refine (C1).mono ?_
  rintro e x7 ⟨rfl, sx7, px7⟩
  try go_wp2_with fail
  refine hK.out _ _ (sx7) (fun hHeld => ?_)
  clear hK K
  change wpAnyH _ _ _ _ _ _ _ (a6.put (some 83) (.tuple #[])) _
  obtain ⟨a7, e7⟩ : ∃ act, act = a6.put (some 83) (.tuple #[]) := ⟨_, rfl⟩
  rw [← e7] at h ⊢
  have z7 : a7.tmps.size = 178 := by rw [e7, put_size]; exact z6
  clear t80
  clear t82
  clear e7 z6
  exact wpAnyH_done (by kernel_rfl) (NoPanic.normal (h _ _ px7 rfl)) _
end Go.Proofs.YtpmdlhlojifoeaaDoor
