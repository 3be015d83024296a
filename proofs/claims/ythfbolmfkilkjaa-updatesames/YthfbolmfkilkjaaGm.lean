import Derived.Test.YthfbolmfkilkjaaGl
namespace Go.Proofs.Ythfbolmfkilkjaa
open Go.RowKit
set_option linter.unusedVariables false
set_option linter.unusedSimpArgs false

def ops3 : Array Oper := #[{ dst := some 13, op := Op.load 25 (Operand.tmp 5), type := 25, pos := "law.go:51", after := #[], guard := none }, { dst := some 14, op := Op.load 25 (Operand.tmp 3), type := 25, pos := "law.go:51", after := #[], guard := none }, { dst := some 15, op := Op.call { callee := Callee.value (Operand.func 6), args := #[Operand.tmp 13, Operand.tmp 14], argTypes := #[25, 25] }, type := 4, pos := "law.go:51", after := #[{ on := 0, ground := Ground.data }, { on := 1, ground := Ground.data }], guard := none }, { dst := some 16, op := Op.load 25 (Operand.tmp 2), type := 25, pos := "law.go:51", after := #[], guard := none }, { dst := some 17, op := Op.load 25 (Operand.tmp 3), type := 25, pos := "law.go:51", after := #[], guard := none }, { dst := some 18, op := Op.call { callee := Callee.value (Operand.func 7), args := #[Operand.tmp 16, Operand.tmp 17], argTypes := #[25, 25] }, type := 4, pos := "law.go:51", after := #[{ on := 3, ground := Ground.data }, { on := 4, ground := Ground.data }, { on := 2, ground := Ground.chain }], guard := none }, { dst := some 19, op := Op.binOp BinOp.neq 4 (Operand.tmp 15) (Operand.tmp 18) 4, type := 4, pos := "law.go:51", after := #[{ on := 2, ground := Ground.data }, { on := 5, ground := Ground.data }], guard := none }, { dst := some 20, op := Op.move (Operand.tmp 19), type := 4, pos := "law.go:51", after := #[{ on := 6, ground := Ground.data }, { on := 5, ground := Ground.chain }], guard := none }, { dst := some 21, op := Op.load 25 (Operand.tmp 6), type := 25, pos := "law.go:51", after := #[{ on := 7, ground := Ground.guard }], guard := some (7, false) }, { dst := some 22, op := Op.load 25 (Operand.tmp 2), type := 25, pos := "law.go:51", after := #[{ on := 7, ground := Ground.guard }], guard := some (7, false) }, { dst := some 23, op := Op.call { callee := Callee.value (Operand.func 7), args := #[Operand.tmp 21, Operand.tmp 22], argTypes := #[25, 25] }, type := 4, pos := "law.go:51", after := #[{ on := 8, ground := Ground.data }, { on := 9, ground := Ground.data }, { on := 7, ground := Ground.chain }, { on := 7, ground := Ground.guard }], guard := some (7, false) }, { dst := some 24, op := Op.unOp UnOp.not 4 (Operand.tmp 23), type := 4, pos := "law.go:51", after := #[{ on := 10, ground := Ground.data }, { on := 7, ground := Ground.guard }], guard := some (7, false) }, { dst := some 25, op := Op.pick (Operand.tmp 20) (Operand.const (Value.bool true)) (Operand.tmp 24), type := 4, pos := "law.go:51", after := #[{ on := 7, ground := Ground.data }, { on := 11, ground := Ground.data }], guard := none }, { dst := some 26, op := Op.move (Operand.tmp 25), type := 4, pos := "law.go:51", after := #[{ on := 12, ground := Ground.data }, { on := 10, ground := Ground.chain }], guard := none }, { dst := some 27, op := Op.load 25 (Operand.tmp 5), type := 25, pos := "law.go:51", after := #[{ on := 13, ground := Ground.guard }], guard := some (13, false) }, { dst := some 28, op := Op.load 25 (Operand.tmp 6), type := 25, pos := "law.go:51", after := #[{ on := 13, ground := Ground.guard }], guard := some (13, false) }, { dst := some 29, op := Op.call { callee := Callee.value (Operand.func 6), args := #[Operand.tmp 27, Operand.tmp 28], argTypes := #[25, 25] }, type := 4, pos := "law.go:51", after := #[{ on := 14, ground := Ground.data }, { on := 15, ground := Ground.data }, { on := 13, ground := Ground.chain }, { on := 13, ground := Ground.guard }], guard := some (13, false) }, { dst := some 30, op := Op.unOp UnOp.not 4 (Operand.tmp 29), type := 4, pos := "law.go:51", after := #[{ on := 16, ground := Ground.data }, { on := 13, ground := Ground.guard }], guard := some (13, false) }, { dst := some 31, op := Op.pick (Operand.tmp 26) (Operand.const (Value.bool true)) (Operand.tmp 30), type := 4, pos := "law.go:51", after := #[{ on := 13, ground := Ground.data }, { on := 17, ground := Ground.data }], guard := none }, { dst := some 32, op := Op.move (Operand.tmp 31), type := 4, pos := "law.go:51", after := #[{ on := 18, ground := Ground.data }, { on := 16, ground := Ground.chain }], guard := none }, { dst := some 33, op := Op.load 25 (Operand.tmp 2), type := 25, pos := "law.go:51", after := #[{ on := 19, ground := Ground.guard }], guard := some (19, false) }, { dst := some 34, op := Op.load 25 (Operand.tmp 2), type := 25, pos := "law.go:51", after := #[{ on := 19, ground := Ground.guard }], guard := some (19, false) }, { dst := some 35, op := Op.call { callee := Callee.value (Operand.func 6), args := #[Operand.tmp 33, Operand.tmp 34], argTypes := #[25, 25] }, type := 4, pos := "law.go:51", after := #[{ on := 20, ground := Ground.data }, { on := 21, ground := Ground.data }, { on := 19, ground := Ground.chain }, { on := 19, ground := Ground.guard }], guard := some (19, false) }, { dst := some 36, op := Op.unOp UnOp.not 4 (Operand.tmp 35), type := 4, pos := "law.go:51", after := #[{ on := 22, ground := Ground.data }, { on := 19, ground := Ground.guard }], guard := some (19, false) }, { dst := some 37, op := Op.pick (Operand.tmp 32) (Operand.const (Value.bool true)) (Operand.tmp 36), type := 4, pos := "law.go:51", after := #[{ on := 19, ground := Ground.data }, { on := 23, ground := Ground.data }], guard := none }]
theorem same3 (s s1 o c : Nat) (A B O X : Array Value) (r : Bool) (a : Act) (w : World) (Q : Exit → Act → World → Prop) (hsz : a.tmps.size = 85)
    (h2 : a.tmps.getD 2 undef = .pointer (some ⟨s, 0, none⟩))
    (h3 : a.tmps.getD 3 undef = .pointer (some ⟨s1, 0, none⟩))
    (h5 : a.tmps.getD 5 undef = .pointer (some ⟨o, 0, none⟩))
    (h6 : a.tmps.getD 6 undef = .pointer (some ⟨c, 0, none⟩))
    (La : ∀ wx, Below w.heap.size w wx → (Instr.loadAt 25 (.pointer (some ⟨s, 0, none⟩))).run Try.prog wx = .ok (.agg A) wx)
    (Lb : ∀ wx, Below w.heap.size w wx → (Instr.loadAt 25 (.pointer (some ⟨s1, 0, none⟩))).run Try.prog wx = .ok (.agg B) wx)
    (Lo : ∀ wx, Below w.heap.size w wx → (Instr.loadAt 25 (.pointer (some ⟨o, 0, none⟩))).run Try.prog wx = .ok (.agg O) wx)
    (Lc : ∀ wx, Below w.heap.size w wx → (Instr.loadAt 25 (.pointer (some ⟨c, 0, none⟩))).run Try.prog wx = .ok (.agg X) wx)
    (C1 : ∀ wx, Below w.heap.size w wx → Calls Try.prog 6 #[.agg O, .agg B] wx fun e w' => e = .returned (.bool r) ∧ Below w.heap.size w w')
    (C2 : ∀ wx, Below w.heap.size w wx → Calls Try.prog 7 #[.agg A, .agg B] wx fun e w' => e = .returned (.bool r) ∧ Below w.heap.size w w')
    (C3 : ∀ wx, Below w.heap.size w wx → Calls Try.prog 7 #[.agg X, .agg A] wx fun e w' => e = .returned (.bool true) ∧ Below w.heap.size w w')
    (C4 : ∀ wx, Below w.heap.size w wx → Calls Try.prog 6 #[.agg O, .agg X] wx fun e w' => e = .returned (.bool true) ∧ Below w.heap.size w w')
    (C5 : ∀ wx, Below w.heap.size w wx → Calls Try.prog 6 #[.agg A, .agg A] wx fun e w' => e = .returned (.bool true) ∧ Below w.heap.size w w')
    (h : ∀ (a' : Act) (w' : World), Below w.heap.size w w' → a' = (((((((((((((((((((((((((a).put (some 13) (.agg O)).put (some 14) (.agg B)).put (some 16) (.agg A)).put (some 17) (.agg B)).put (some 15) (.bool r)).put (some 18) (.bool r)).put (some 19) (.bool false)).put (some 20) (.bool false)).put (some 21) (.agg X)).put (some 22) (.agg A)).put (some 23) (.bool true)).put (some 24) (.bool false)).put (some 25) (.bool false)).put (some 26) (.bool false)).put (some 27) (.agg O)).put (some 28) (.agg X)).put (some 29) (.bool true)).put (some 30) (.bool false)).put (some 31) (.bool false)).put (some 32) (.bool false)).put (some 33) (.agg A)).put (some 34) (.agg A)).put (some 35) (.bool true)).put (some 36) (.bool false)).put (some 37) (.bool false) → Q .normal a' w') :
    (Code.region 3 ops3 true).wp Try.prog Q a w := by
  refine wp_region_noPanic ?_
  refine wp_region_held_drew (S := fun w' => Below w.heap.size w w') (by kernel_rfl) ((Below.refl _ _).drew) (fun hHeld => ?_)
  refine wpAnyH_take (i := 0) (oi := { dst := some 13, op := Op.load 25 (Operand.tmp 5), type := 25, pos := "law.go:51", after := #[], guard := none }) (v := .agg O) rfl (by kernel_rfl) (by kernel_rfl) (by kernel_rfl) (fun _ _ _ h => h) (Or.inl ⟨by rfl, fun w1 hw => by exact exec_load rfl (by first | exact h5 | rfl) (Lo _ hw)⟩) hHeld ?_
  obtain ⟨a1, e1⟩ : ∃ act, act = a.put (some 13) (.agg O) := ⟨_, rfl⟩
  rw [← e1] at h ⊢
  have z1 : a1.tmps.size = 85 := by rw [e1, put_size]; exact hsz
  replace h2 : a1.tmps.getD 2 undef = .pointer (some ⟨s, 0, none⟩) := by rw [e1, put_ne _ _ _ _ (by decide)]; exact h2
  replace h3 : a1.tmps.getD 3 undef = .pointer (some ⟨s1, 0, none⟩) := by rw [e1, put_ne _ _ _ _ (by decide)]; exact h3
  replace h5 : a1.tmps.getD 5 undef = .pointer (some ⟨o, 0, none⟩) := by rw [e1, put_ne _ _ _ _ (by decide)]; exact h5
  replace h6 : a1.tmps.getD 6 undef = .pointer (some ⟨c, 0, none⟩) := by rw [e1, put_ne _ _ _ _ (by decide)]; exact h6
  have t13 : a1.tmps.getD 13 undef = .agg O := by rw [e1]; exact put_same _ _ _ (by omega)
  clear e1 hsz
  refine wpAnyH_take (i := 1) (oi := { dst := some 14, op := Op.load 25 (Operand.tmp 3), type := 25, pos := "law.go:51", after := #[], guard := none }) (v := .agg B) rfl (by kernel_rfl) (by kernel_rfl) (by kernel_rfl) (fun _ _ _ h => h) (Or.inl ⟨by rfl, fun w1 hw => by exact exec_load rfl (by first | exact h3 | rfl) (Lb _ hw)⟩) hHeld ?_
  obtain ⟨a2, e2⟩ : ∃ act, act = a1.put (some 14) (.agg B) := ⟨_, rfl⟩
  rw [← e2] at h ⊢
  have z2 : a2.tmps.size = 85 := by rw [e2, put_size]; exact z1
  replace h2 : a2.tmps.getD 2 undef = .pointer (some ⟨s, 0, none⟩) := by rw [e2, put_ne _ _ _ _ (by decide)]; exact h2
  replace h3 : a2.tmps.getD 3 undef = .pointer (some ⟨s1, 0, none⟩) := by rw [e2, put_ne _ _ _ _ (by decide)]; exact h3
  replace h5 : a2.tmps.getD 5 undef = .pointer (some ⟨o, 0, none⟩) := by rw [e2, put_ne _ _ _ _ (by decide)]; exact h5
  replace h6 : a2.tmps.getD 6 undef = .pointer (some ⟨c, 0, none⟩) := by rw [e2, put_ne _ _ _ _ (by decide)]; exact h6
  replace t13 : a2.tmps.getD 13 undef = .agg O := by rw [e2, put_ne _ _ _ _ (by decide)]; exact t13
  have t14 : a2.tmps.getD 14 undef = .agg B := by rw [e2]; exact put_same _ _ _ (by omega)
  clear e2 z1
  refine wpAnyH_take (i := 3) (oi := { dst := some 16, op := Op.load 25 (Operand.tmp 2), type := 25, pos := "law.go:51", after := #[], guard := none }) (v := .agg A) rfl (by kernel_rfl) (by kernel_rfl) (by kernel_rfl) (fun _ _ _ h => h) (Or.inl ⟨by rfl, fun w1 hw => by exact exec_load rfl (by first | exact h2 | rfl) (La _ hw)⟩) hHeld ?_
  obtain ⟨a3, e3⟩ : ∃ act, act = a2.put (some 16) (.agg A) := ⟨_, rfl⟩
  rw [← e3] at h ⊢
  have z3 : a3.tmps.size = 85 := by rw [e3, put_size]; exact z2
  replace h2 : a3.tmps.getD 2 undef = .pointer (some ⟨s, 0, none⟩) := by rw [e3, put_ne _ _ _ _ (by decide)]; exact h2
  replace h3 : a3.tmps.getD 3 undef = .pointer (some ⟨s1, 0, none⟩) := by rw [e3, put_ne _ _ _ _ (by decide)]; exact h3
  replace h5 : a3.tmps.getD 5 undef = .pointer (some ⟨o, 0, none⟩) := by rw [e3, put_ne _ _ _ _ (by decide)]; exact h5
  replace h6 : a3.tmps.getD 6 undef = .pointer (some ⟨c, 0, none⟩) := by rw [e3, put_ne _ _ _ _ (by decide)]; exact h6
  replace t13 : a3.tmps.getD 13 undef = .agg O := by rw [e3, put_ne _ _ _ _ (by decide)]; exact t13
  replace t14 : a3.tmps.getD 14 undef = .agg B := by rw [e3, put_ne _ _ _ _ (by decide)]; exact t14
  have t16 : a3.tmps.getD 16 undef = .agg A := by rw [e3]; exact put_same _ _ _ (by omega)
  clear e3 z2
  refine wpAnyH_take (i := 4) (oi := { dst := some 17, op := Op.load 25 (Operand.tmp 3), type := 25, pos := "law.go:51", after := #[], guard := none }) (v := .agg B) rfl (by kernel_rfl) (by kernel_rfl) (by kernel_rfl) (fun _ _ _ h => h) (Or.inl ⟨by rfl, fun w1 hw => by exact exec_load rfl (by first | exact h3 | rfl) (Lb _ hw)⟩) hHeld ?_
  obtain ⟨a4, e4⟩ : ∃ act, act = a3.put (some 17) (.agg B) := ⟨_, rfl⟩
  rw [← e4] at h ⊢
  have z4 : a4.tmps.size = 85 := by rw [e4, put_size]; exact z3
  replace h2 : a4.tmps.getD 2 undef = .pointer (some ⟨s, 0, none⟩) := by rw [e4, put_ne _ _ _ _ (by decide)]; exact h2
  clear h3
  replace h5 : a4.tmps.getD 5 undef = .pointer (some ⟨o, 0, none⟩) := by rw [e4, put_ne _ _ _ _ (by decide)]; exact h5
  replace h6 : a4.tmps.getD 6 undef = .pointer (some ⟨c, 0, none⟩) := by rw [e4, put_ne _ _ _ _ (by decide)]; exact h6
  replace t13 : a4.tmps.getD 13 undef = .agg O := by rw [e4, put_ne _ _ _ _ (by decide)]; exact t13
  replace t14 : a4.tmps.getD 14 undef = .agg B := by rw [e4, put_ne _ _ _ _ (by decide)]; exact t14
  replace t16 : a4.tmps.getD 16 undef = .agg A := by rw [e4, put_ne _ _ _ _ (by decide)]; exact t16
  have t17 : a4.tmps.getD 17 undef = .agg B := by rw [e4]; exact put_same _ _ _ (by omega)
  clear e4 z3
  refine wpAnyH_ready (rs := [2]) (by kernel_rfl) (by simp) ?_
  refine AllReadyH.cons (o := { dst := some 15, op := Op.call { callee := Callee.value (Operand.func 6), args := #[Operand.tmp 13, Operand.tmp 14], argTypes := #[25, 25] }, type := 4, pos := "law.go:51", after := #[{ on := 0, ground := Ground.data }, { on := 1, ground := Ground.data }], guard := none }) rfl (fun K hK => ?_) AllReadyH.nil
  rw [if_pos (by rfl)]
  go_simp
  refine (C1 _ hHeld).mono ?_
  rintro e x5 ⟨rfl, bx5⟩
  try go_wp2_with fail
  refine hK.out _ _ (bx5) (fun hHeld => ?_)
  clear hK K
  change wpAnyH _ _ _ _ _ _ _ (a4.put (some 15) (.bool r)) _
  obtain ⟨a5, e5⟩ : ∃ act, act = a4.put (some 15) (.bool r) := ⟨_, rfl⟩
  rw [← e5] at h ⊢
  have z5 : a5.tmps.size = 85 := by rw [e5, put_size]; exact z4
  replace h2 : a5.tmps.getD 2 undef = .pointer (some ⟨s, 0, none⟩) := by rw [e5, put_ne _ _ _ _ (by decide)]; exact h2
  replace h5 : a5.tmps.getD 5 undef = .pointer (some ⟨o, 0, none⟩) := by rw [e5, put_ne _ _ _ _ (by decide)]; exact h5
  replace h6 : a5.tmps.getD 6 undef = .pointer (some ⟨c, 0, none⟩) := by rw [e5, put_ne _ _ _ _ (by decide)]; exact h6
  clear t13
  clear t14
  replace t16 : a5.tmps.getD 16 undef = .agg A := by rw [e5, put_ne _ _ _ _ (by decide)]; exact t16
  replace t17 : a5.tmps.getD 17 undef = .agg B := by rw [e5, put_ne _ _ _ _ (by decide)]; exact t17
  have t15 : a5.tmps.getD 15 undef = .bool r := by rw [e5]; exact put_same _ _ _ (by omega)
  clear e5 z4
  refine wpAnyH_ready (rs := [5]) (by kernel_rfl) (by simp) ?_
  refine AllReadyH.cons (o := { dst := some 18, op := Op.call { callee := Callee.value (Operand.func 7), args := #[Operand.tmp 16, Operand.tmp 17], argTypes := #[25, 25] }, type := 4, pos := "law.go:51", after := #[{ on := 3, ground := Ground.data }, { on := 4, ground := Ground.data }, { on := 2, ground := Ground.chain }], guard := none }) rfl (fun K hK => ?_) AllReadyH.nil
  rw [if_pos (by rfl)]
  go_simp
  refine (C2 _ hHeld).mono ?_
  rintro e x6 ⟨rfl, bx6⟩
  try go_wp2_with fail
  refine hK.out _ _ (bx6) (fun hHeld => ?_)
  clear hK K
  change wpAnyH _ _ _ _ _ _ _ (a5.put (some 18) (.bool r)) _
  obtain ⟨a6, e6⟩ : ∃ act, act = a5.put (some 18) (.bool r) := ⟨_, rfl⟩
  rw [← e6] at h ⊢
  have z6 : a6.tmps.size = 85 := by rw [e6, put_size]; exact z5
  replace h2 : a6.tmps.getD 2 undef = .pointer (some ⟨s, 0, none⟩) := by rw [e6, put_ne _ _ _ _ (by decide)]; exact h2
  replace h5 : a6.tmps.getD 5 undef = .pointer (some ⟨o, 0, none⟩) := by rw [e6, put_ne _ _ _ _ (by decide)]; exact h5
  replace h6 : a6.tmps.getD 6 undef = .pointer (some ⟨c, 0, none⟩) := by rw [e6, put_ne _ _ _ _ (by decide)]; exact h6
  clear t16
  clear t17
  replace t15 : a6.tmps.getD 15 undef = .bool r := by rw [e6, put_ne _ _ _ _ (by decide)]; exact t15
  have t18 : a6.tmps.getD 18 undef = .bool r := by rw [e6]; exact put_same _ _ _ (by omega)
  clear e6 z5
  refine wpAnyH_take (i := 6) (oi := { dst := some 19, op := Op.binOp BinOp.neq 4 (Operand.tmp 15) (Operand.tmp 18) 4, type := 4, pos := "law.go:51", after := #[{ on := 2, ground := Ground.data }, { on := 5, ground := Ground.data }], guard := none }) (v := .bool false) rfl (by kernel_rfl) (by kernel_rfl) (by kernel_rfl) (fun _ _ _ h => h) (Or.inl ⟨by rfl, fun w1 hw => by go_simp⟩) hHeld ?_
  obtain ⟨a7, e7⟩ : ∃ act, act = a6.put (some 19) (.bool false) := ⟨_, rfl⟩
  rw [← e7] at h ⊢
  have z7 : a7.tmps.size = 85 := by rw [e7, put_size]; exact z6
  replace h2 : a7.tmps.getD 2 undef = .pointer (some ⟨s, 0, none⟩) := by rw [e7, put_ne _ _ _ _ (by decide)]; exact h2
  replace h5 : a7.tmps.getD 5 undef = .pointer (some ⟨o, 0, none⟩) := by rw [e7, put_ne _ _ _ _ (by decide)]; exact h5
  replace h6 : a7.tmps.getD 6 undef = .pointer (some ⟨c, 0, none⟩) := by rw [e7, put_ne _ _ _ _ (by decide)]; exact h6
  clear t15
  clear t18
  have t19 : a7.tmps.getD 19 undef = .bool false := by rw [e7]; exact put_same _ _ _ (by omega)
  clear e7 z6
  refine wpAnyH_take (i := 7) (oi := { dst := some 20, op := Op.move (Operand.tmp 19), type := 4, pos := "law.go:51", after := #[{ on := 6, ground := Ground.data }, { on := 5, ground := Ground.chain }], guard := none }) (v := .bool false) rfl (by kernel_rfl) (by kernel_rfl) (by kernel_rfl) (fun _ _ _ h => h) (Or.inl ⟨by rfl, fun w1 hw => by go_simp⟩) hHeld ?_
  obtain ⟨a8, e8⟩ : ∃ act, act = a7.put (some 20) (.bool false) := ⟨_, rfl⟩
  rw [← e8] at h ⊢
  have z8 : a8.tmps.size = 85 := by rw [e8, put_size]; exact z7
  replace h2 : a8.tmps.getD 2 undef = .pointer (some ⟨s, 0, none⟩) := by rw [e8, put_ne _ _ _ _ (by decide)]; exact h2
  replace h5 : a8.tmps.getD 5 undef = .pointer (some ⟨o, 0, none⟩) := by rw [e8, put_ne _ _ _ _ (by decide)]; exact h5
  replace h6 : a8.tmps.getD 6 undef = .pointer (some ⟨c, 0, none⟩) := by rw [e8, put_ne _ _ _ _ (by decide)]; exact h6
  clear t19
  have t20 : a8.tmps.getD 20 undef = .bool false := by rw [e8]; exact put_same _ _ _ (by omega)
  clear e8 z7
  refine wpAnyH_take (i := 8) (oi := { dst := some 21, op := Op.load 25 (Operand.tmp 6), type := 25, pos := "law.go:51", after := #[{ on := 7, ground := Ground.guard }], guard := some (7, false) }) (v := .agg X) rfl (by kernel_rfl) (by kernel_rfl) (by kernel_rfl) (fun _ _ _ h => h) (Or.inl ⟨by simp [Region.wanted, yielded, ops3, tget z8 (by decide) t20], fun w1 hw => by exact exec_load rfl (by first | exact h6 | rfl) (Lc _ hw)⟩) hHeld ?_
  obtain ⟨a9, e9⟩ : ∃ act, act = a8.put (some 21) (.agg X) := ⟨_, rfl⟩
  rw [← e9] at h ⊢
  have z9 : a9.tmps.size = 85 := by rw [e9, put_size]; exact z8
  replace h2 : a9.tmps.getD 2 undef = .pointer (some ⟨s, 0, none⟩) := by rw [e9, put_ne _ _ _ _ (by decide)]; exact h2
  replace h5 : a9.tmps.getD 5 undef = .pointer (some ⟨o, 0, none⟩) := by rw [e9, put_ne _ _ _ _ (by decide)]; exact h5
  replace h6 : a9.tmps.getD 6 undef = .pointer (some ⟨c, 0, none⟩) := by rw [e9, put_ne _ _ _ _ (by decide)]; exact h6
  replace t20 : a9.tmps.getD 20 undef = .bool false := by rw [e9, put_ne _ _ _ _ (by decide)]; exact t20
  have t21 : a9.tmps.getD 21 undef = .agg X := by rw [e9]; exact put_same _ _ _ (by omega)
  clear e9 z8
  refine wpAnyH_take (i := 9) (oi := { dst := some 22, op := Op.load 25 (Operand.tmp 2), type := 25, pos := "law.go:51", after := #[{ on := 7, ground := Ground.guard }], guard := some (7, false) }) (v := .agg A) rfl (by kernel_rfl) (by kernel_rfl) (by kernel_rfl) (fun _ _ _ h => h) (Or.inl ⟨by simp [Region.wanted, yielded, ops3, tget z9 (by decide) t20], fun w1 hw => by exact exec_load rfl (by first | exact h2 | rfl) (La _ hw)⟩) hHeld ?_
  obtain ⟨a10, e10⟩ : ∃ act, act = a9.put (some 22) (.agg A) := ⟨_, rfl⟩
  rw [← e10] at h ⊢
  have z10 : a10.tmps.size = 85 := by rw [e10, put_size]; exact z9
  replace h2 : a10.tmps.getD 2 undef = .pointer (some ⟨s, 0, none⟩) := by rw [e10, put_ne _ _ _ _ (by decide)]; exact h2
  replace h5 : a10.tmps.getD 5 undef = .pointer (some ⟨o, 0, none⟩) := by rw [e10, put_ne _ _ _ _ (by decide)]; exact h5
  replace h6 : a10.tmps.getD 6 undef = .pointer (some ⟨c, 0, none⟩) := by rw [e10, put_ne _ _ _ _ (by decide)]; exact h6
  replace t20 : a10.tmps.getD 20 undef = .bool false := by rw [e10, put_ne _ _ _ _ (by decide)]; exact t20
  replace t21 : a10.tmps.getD 21 undef = .agg X := by rw [e10, put_ne _ _ _ _ (by decide)]; exact t21
  have t22 : a10.tmps.getD 22 undef = .agg A := by rw [e10]; exact put_same _ _ _ (by omega)
  clear e10 z9
  refine wpAnyH_ready (rs := [10]) (by kernel_rfl) (by simp) ?_
  refine AllReadyH.cons (o := { dst := some 23, op := Op.call { callee := Callee.value (Operand.func 7), args := #[Operand.tmp 21, Operand.tmp 22], argTypes := #[25, 25] }, type := 4, pos := "law.go:51", after := #[{ on := 8, ground := Ground.data }, { on := 9, ground := Ground.data }, { on := 7, ground := Ground.chain }, { on := 7, ground := Ground.guard }], guard := some (7, false) }) rfl (fun K hK => ?_) AllReadyH.nil
  rw [if_pos (by simp [Region.wanted, yielded, ops3, tget z10 (by decide) t20])]
  go_simp
  refine (C3 _ hHeld).mono ?_
  rintro e x11 ⟨rfl, bx11⟩
  try go_wp2_with fail
  refine hK.out _ _ (bx11) (fun hHeld => ?_)
  clear hK K
  change wpAnyH _ _ _ _ _ _ _ (a10.put (some 23) (.bool true)) _
  obtain ⟨a11, e11⟩ : ∃ act, act = a10.put (some 23) (.bool true) := ⟨_, rfl⟩
  rw [← e11] at h ⊢
  have z11 : a11.tmps.size = 85 := by rw [e11, put_size]; exact z10
  replace h2 : a11.tmps.getD 2 undef = .pointer (some ⟨s, 0, none⟩) := by rw [e11, put_ne _ _ _ _ (by decide)]; exact h2
  replace h5 : a11.tmps.getD 5 undef = .pointer (some ⟨o, 0, none⟩) := by rw [e11, put_ne _ _ _ _ (by decide)]; exact h5
  replace h6 : a11.tmps.getD 6 undef = .pointer (some ⟨c, 0, none⟩) := by rw [e11, put_ne _ _ _ _ (by decide)]; exact h6
  replace t20 : a11.tmps.getD 20 undef = .bool false := by rw [e11, put_ne _ _ _ _ (by decide)]; exact t20
  clear t21
  clear t22
  have t23 : a11.tmps.getD 23 undef = .bool true := by rw [e11]; exact put_same _ _ _ (by omega)
  clear e11 z10
  refine wpAnyH_take (i := 11) (oi := { dst := some 24, op := Op.unOp UnOp.not 4 (Operand.tmp 23), type := 4, pos := "law.go:51", after := #[{ on := 10, ground := Ground.data }, { on := 7, ground := Ground.guard }], guard := some (7, false) }) (v := .bool false) rfl (by kernel_rfl) (by kernel_rfl) (by kernel_rfl) (fun _ _ _ h => h) (Or.inl ⟨by simp [Region.wanted, yielded, ops3, tget z11 (by decide) t20], fun w1 hw => by go_simp⟩) hHeld ?_
  obtain ⟨a12, e12⟩ : ∃ act, act = a11.put (some 24) (.bool false) := ⟨_, rfl⟩
  rw [← e12] at h ⊢
  have z12 : a12.tmps.size = 85 := by rw [e12, put_size]; exact z11
  replace h2 : a12.tmps.getD 2 undef = .pointer (some ⟨s, 0, none⟩) := by rw [e12, put_ne _ _ _ _ (by decide)]; exact h2
  replace h5 : a12.tmps.getD 5 undef = .pointer (some ⟨o, 0, none⟩) := by rw [e12, put_ne _ _ _ _ (by decide)]; exact h5
  replace h6 : a12.tmps.getD 6 undef = .pointer (some ⟨c, 0, none⟩) := by rw [e12, put_ne _ _ _ _ (by decide)]; exact h6
  replace t20 : a12.tmps.getD 20 undef = .bool false := by rw [e12, put_ne _ _ _ _ (by decide)]; exact t20
  clear t23
  have t24 : a12.tmps.getD 24 undef = .bool false := by rw [e12]; exact put_same _ _ _ (by omega)
  clear e12 z11
  refine wpAnyH_take (i := 12) (oi := { dst := some 25, op := Op.pick (Operand.tmp 20) (Operand.const (Value.bool true)) (Operand.tmp 24), type := 4, pos := "law.go:51", after := #[{ on := 7, ground := Ground.data }, { on := 11, ground := Ground.data }], guard := none }) (v := .bool false) rfl (by kernel_rfl) (by kernel_rfl) (by kernel_rfl) (fun _ _ _ h => h) (Or.inl ⟨by rfl, fun w1 hw => by go_simp⟩) hHeld ?_
  obtain ⟨a13, e13⟩ : ∃ act, act = a12.put (some 25) (.bool false) := ⟨_, rfl⟩
  rw [← e13] at h ⊢
  have z13 : a13.tmps.size = 85 := by rw [e13, put_size]; exact z12
  replace h2 : a13.tmps.getD 2 undef = .pointer (some ⟨s, 0, none⟩) := by rw [e13, put_ne _ _ _ _ (by decide)]; exact h2
  replace h5 : a13.tmps.getD 5 undef = .pointer (some ⟨o, 0, none⟩) := by rw [e13, put_ne _ _ _ _ (by decide)]; exact h5
  replace h6 : a13.tmps.getD 6 undef = .pointer (some ⟨c, 0, none⟩) := by rw [e13, put_ne _ _ _ _ (by decide)]; exact h6
  clear t20
  clear t24
  have t25 : a13.tmps.getD 25 undef = .bool false := by rw [e13]; exact put_same _ _ _ (by omega)
  clear e13 z12
  refine wpAnyH_take (i := 13) (oi := { dst := some 26, op := Op.move (Operand.tmp 25), type := 4, pos := "law.go:51", after := #[{ on := 12, ground := Ground.data }, { on := 10, ground := Ground.chain }], guard := none }) (v := .bool false) rfl (by kernel_rfl) (by kernel_rfl) (by kernel_rfl) (fun _ _ _ h => h) (Or.inl ⟨by rfl, fun w1 hw => by go_simp⟩) hHeld ?_
  obtain ⟨a14, e14⟩ : ∃ act, act = a13.put (some 26) (.bool false) := ⟨_, rfl⟩
  rw [← e14] at h ⊢
  have z14 : a14.tmps.size = 85 := by rw [e14, put_size]; exact z13
  replace h2 : a14.tmps.getD 2 undef = .pointer (some ⟨s, 0, none⟩) := by rw [e14, put_ne _ _ _ _ (by decide)]; exact h2
  replace h5 : a14.tmps.getD 5 undef = .pointer (some ⟨o, 0, none⟩) := by rw [e14, put_ne _ _ _ _ (by decide)]; exact h5
  replace h6 : a14.tmps.getD 6 undef = .pointer (some ⟨c, 0, none⟩) := by rw [e14, put_ne _ _ _ _ (by decide)]; exact h6
  clear t25
  have t26 : a14.tmps.getD 26 undef = .bool false := by rw [e14]; exact put_same _ _ _ (by omega)
  clear e14 z13
  refine wpAnyH_take (i := 14) (oi := { dst := some 27, op := Op.load 25 (Operand.tmp 5), type := 25, pos := "law.go:51", after := #[{ on := 13, ground := Ground.guard }], guard := some (13, false) }) (v := .agg O) rfl (by kernel_rfl) (by kernel_rfl) (by kernel_rfl) (fun _ _ _ h => h) (Or.inl ⟨by simp [Region.wanted, yielded, ops3, tget z14 (by decide) t26], fun w1 hw => by exact exec_load rfl (by first | exact h5 | rfl) (Lo _ hw)⟩) hHeld ?_
  obtain ⟨a15, e15⟩ : ∃ act, act = a14.put (some 27) (.agg O) := ⟨_, rfl⟩
  rw [← e15] at h ⊢
  have z15 : a15.tmps.size = 85 := by rw [e15, put_size]; exact z14
  replace h2 : a15.tmps.getD 2 undef = .pointer (some ⟨s, 0, none⟩) := by rw [e15, put_ne _ _ _ _ (by decide)]; exact h2
  clear h5
  replace h6 : a15.tmps.getD 6 undef = .pointer (some ⟨c, 0, none⟩) := by rw [e15, put_ne _ _ _ _ (by decide)]; exact h6
  replace t26 : a15.tmps.getD 26 undef = .bool false := by rw [e15, put_ne _ _ _ _ (by decide)]; exact t26
  have t27 : a15.tmps.getD 27 undef = .agg O := by rw [e15]; exact put_same _ _ _ (by omega)
  clear e15 z14
  refine wpAnyH_take (i := 15) (oi := { dst := some 28, op := Op.load 25 (Operand.tmp 6), type := 25, pos := "law.go:51", after := #[{ on := 13, ground := Ground.guard }], guard := some (13, false) }) (v := .agg X) rfl (by kernel_rfl) (by kernel_rfl) (by kernel_rfl) (fun _ _ _ h => h) (Or.inl ⟨by simp [Region.wanted, yielded, ops3, tget z15 (by decide) t26], fun w1 hw => by exact exec_load rfl (by first | exact h6 | rfl) (Lc _ hw)⟩) hHeld ?_
  obtain ⟨a16, e16⟩ : ∃ act, act = a15.put (some 28) (.agg X) := ⟨_, rfl⟩
  rw [← e16] at h ⊢
  have z16 : a16.tmps.size = 85 := by rw [e16, put_size]; exact z15
  replace h2 : a16.tmps.getD 2 undef = .pointer (some ⟨s, 0, none⟩) := by rw [e16, put_ne _ _ _ _ (by decide)]; exact h2
  clear h6
  replace t26 : a16.tmps.getD 26 undef = .bool false := by rw [e16, put_ne _ _ _ _ (by decide)]; exact t26
  replace t27 : a16.tmps.getD 27 undef = .agg O := by rw [e16, put_ne _ _ _ _ (by decide)]; exact t27
  have t28 : a16.tmps.getD 28 undef = .agg X := by rw [e16]; exact put_same _ _ _ (by omega)
  clear e16 z15
  refine wpAnyH_ready (rs := [16]) (by kernel_rfl) (by simp) ?_
  refine AllReadyH.cons (o := { dst := some 29, op := Op.call { callee := Callee.value (Operand.func 6), args := #[Operand.tmp 27, Operand.tmp 28], argTypes := #[25, 25] }, type := 4, pos := "law.go:51", after := #[{ on := 14, ground := Ground.data }, { on := 15, ground := Ground.data }, { on := 13, ground := Ground.chain }, { on := 13, ground := Ground.guard }], guard := some (13, false) }) rfl (fun K hK => ?_) AllReadyH.nil
  rw [if_pos (by simp [Region.wanted, yielded, ops3, tget z16 (by decide) t26])]
  go_simp
  refine (C4 _ hHeld).mono ?_
  rintro e x17 ⟨rfl, bx17⟩
  try go_wp2_with fail
  refine hK.out _ _ (bx17) (fun hHeld => ?_)
  clear hK K
  change wpAnyH _ _ _ _ _ _ _ (a16.put (some 29) (.bool true)) _
  obtain ⟨a17, e17⟩ : ∃ act, act = a16.put (some 29) (.bool true) := ⟨_, rfl⟩
  rw [← e17] at h ⊢
  have z17 : a17.tmps.size = 85 := by rw [e17, put_size]; exact z16
  replace h2 : a17.tmps.getD 2 undef = .pointer (some ⟨s, 0, none⟩) := by rw [e17, put_ne _ _ _ _ (by decide)]; exact h2
  replace t26 : a17.tmps.getD 26 undef = .bool false := by rw [e17, put_ne _ _ _ _ (by decide)]; exact t26
  clear t27
  clear t28
  have t29 : a17.tmps.getD 29 undef = .bool true := by rw [e17]; exact put_same _ _ _ (by omega)
  clear e17 z16
  refine wpAnyH_take (i := 17) (oi := { dst := some 30, op := Op.unOp UnOp.not 4 (Operand.tmp 29), type := 4, pos := "law.go:51", after := #[{ on := 16, ground := Ground.data }, { on := 13, ground := Ground.guard }], guard := some (13, false) }) (v := .bool false) rfl (by kernel_rfl) (by kernel_rfl) (by kernel_rfl) (fun _ _ _ h => h) (Or.inl ⟨by simp [Region.wanted, yielded, ops3, tget z17 (by decide) t26], fun w1 hw => by go_simp⟩) hHeld ?_
  obtain ⟨a18, e18⟩ : ∃ act, act = a17.put (some 30) (.bool false) := ⟨_, rfl⟩
  rw [← e18] at h ⊢
  have z18 : a18.tmps.size = 85 := by rw [e18, put_size]; exact z17
  replace h2 : a18.tmps.getD 2 undef = .pointer (some ⟨s, 0, none⟩) := by rw [e18, put_ne _ _ _ _ (by decide)]; exact h2
  replace t26 : a18.tmps.getD 26 undef = .bool false := by rw [e18, put_ne _ _ _ _ (by decide)]; exact t26
  clear t29
  have t30 : a18.tmps.getD 30 undef = .bool false := by rw [e18]; exact put_same _ _ _ (by omega)
  clear e18 z17
  refine wpAnyH_take (i := 18) (oi := { dst := some 31, op := Op.pick (Operand.tmp 26) (Operand.const (Value.bool true)) (Operand.tmp 30), type := 4, pos := "law.go:51", after := #[{ on := 13, ground := Ground.data }, { on := 17, ground := Ground.data }], guard := none }) (v := .bool false) rfl (by kernel_rfl) (by kernel_rfl) (by kernel_rfl) (fun _ _ _ h => h) (Or.inl ⟨by rfl, fun w1 hw => by go_simp⟩) hHeld ?_
  obtain ⟨a19, e19⟩ : ∃ act, act = a18.put (some 31) (.bool false) := ⟨_, rfl⟩
  rw [← e19] at h ⊢
  have z19 : a19.tmps.size = 85 := by rw [e19, put_size]; exact z18
  replace h2 : a19.tmps.getD 2 undef = .pointer (some ⟨s, 0, none⟩) := by rw [e19, put_ne _ _ _ _ (by decide)]; exact h2
  clear t26
  clear t30
  have t31 : a19.tmps.getD 31 undef = .bool false := by rw [e19]; exact put_same _ _ _ (by omega)
  clear e19 z18
  refine wpAnyH_take (i := 19) (oi := { dst := some 32, op := Op.move (Operand.tmp 31), type := 4, pos := "law.go:51", after := #[{ on := 18, ground := Ground.data }, { on := 16, ground := Ground.chain }], guard := none }) (v := .bool false) rfl (by kernel_rfl) (by kernel_rfl) (by kernel_rfl) (fun _ _ _ h => h) (Or.inl ⟨by rfl, fun w1 hw => by go_simp⟩) hHeld ?_
  obtain ⟨a20, e20⟩ : ∃ act, act = a19.put (some 32) (.bool false) := ⟨_, rfl⟩
  rw [← e20] at h ⊢
  have z20 : a20.tmps.size = 85 := by rw [e20, put_size]; exact z19
  replace h2 : a20.tmps.getD 2 undef = .pointer (some ⟨s, 0, none⟩) := by rw [e20, put_ne _ _ _ _ (by decide)]; exact h2
  clear t31
  have t32 : a20.tmps.getD 32 undef = .bool false := by rw [e20]; exact put_same _ _ _ (by omega)
  clear e20 z19
  refine wpAnyH_take (i := 20) (oi := { dst := some 33, op := Op.load 25 (Operand.tmp 2), type := 25, pos := "law.go:51", after := #[{ on := 19, ground := Ground.guard }], guard := some (19, false) }) (v := .agg A) rfl (by kernel_rfl) (by kernel_rfl) (by kernel_rfl) (fun _ _ _ h => h) (Or.inl ⟨by simp [Region.wanted, yielded, ops3, tget z20 (by decide) t32], fun w1 hw => by exact exec_load rfl (by first | exact h2 | rfl) (La _ hw)⟩) hHeld ?_
  obtain ⟨a21, e21⟩ : ∃ act, act = a20.put (some 33) (.agg A) := ⟨_, rfl⟩
  rw [← e21] at h ⊢
  have z21 : a21.tmps.size = 85 := by rw [e21, put_size]; exact z20
  replace h2 : a21.tmps.getD 2 undef = .pointer (some ⟨s, 0, none⟩) := by rw [e21, put_ne _ _ _ _ (by decide)]; exact h2
  replace t32 : a21.tmps.getD 32 undef = .bool false := by rw [e21, put_ne _ _ _ _ (by decide)]; exact t32
  have t33 : a21.tmps.getD 33 undef = .agg A := by rw [e21]; exact put_same _ _ _ (by omega)
  clear e21 z20
  refine wpAnyH_take (i := 21) (oi := { dst := some 34, op := Op.load 25 (Operand.tmp 2), type := 25, pos := "law.go:51", after := #[{ on := 19, ground := Ground.guard }], guard := some (19, false) }) (v := .agg A) rfl (by kernel_rfl) (by kernel_rfl) (by kernel_rfl) (fun _ _ _ h => h) (Or.inl ⟨by simp [Region.wanted, yielded, ops3, tget z21 (by decide) t32], fun w1 hw => by exact exec_load rfl (by first | exact h2 | rfl) (La _ hw)⟩) hHeld ?_
  obtain ⟨a22, e22⟩ : ∃ act, act = a21.put (some 34) (.agg A) := ⟨_, rfl⟩
  rw [← e22] at h ⊢
  have z22 : a22.tmps.size = 85 := by rw [e22, put_size]; exact z21
  clear h2
  replace t32 : a22.tmps.getD 32 undef = .bool false := by rw [e22, put_ne _ _ _ _ (by decide)]; exact t32
  replace t33 : a22.tmps.getD 33 undef = .agg A := by rw [e22, put_ne _ _ _ _ (by decide)]; exact t33
  have t34 : a22.tmps.getD 34 undef = .agg A := by rw [e22]; exact put_same _ _ _ (by omega)
  clear e22 z21
  refine wpAnyH_ready (rs := [22]) (by kernel_rfl) (by simp) ?_
  refine AllReadyH.cons (o := { dst := some 35, op := Op.call { callee := Callee.value (Operand.func 6), args := #[Operand.tmp 33, Operand.tmp 34], argTypes := #[25, 25] }, type := 4, pos := "law.go:51", after := #[{ on := 20, ground := Ground.data }, { on := 21, ground := Ground.data }, { on := 19, ground := Ground.chain }, { on := 19, ground := Ground.guard }], guard := some (19, false) }) rfl (fun K hK => ?_) AllReadyH.nil
  rw [if_pos (by simp [Region.wanted, yielded, ops3, tget z22 (by decide) t32])]
  go_simp
  refine (C5 _ hHeld).mono ?_
  rintro e x23 ⟨rfl, bx23⟩
  try go_wp2_with fail
  refine hK.out _ _ (bx23) (fun hHeld => ?_)
  clear hK K
  change wpAnyH _ _ _ _ _ _ _ (a22.put (some 35) (.bool true)) _
  obtain ⟨a23, e23⟩ : ∃ act, act = a22.put (some 35) (.bool true) := ⟨_, rfl⟩
  rw [← e23] at h ⊢
  have z23 : a23.tmps.size = 85 := by rw [e23, put_size]; exact z22
  replace t32 : a23.tmps.getD 32 undef = .bool false := by rw [e23, put_ne _ _ _ _ (by decide)]; exact t32
  clear t33
  clear t34
  have t35 : a23.tmps.getD 35 undef = .bool true := by rw [e23]; exact put_same _ _ _ (by omega)
  clear e23 z22
  refine wpAnyH_take (i := 23) (oi := { dst := some 36, op := Op.unOp UnOp.not 4 (Operand.tmp 35), type := 4, pos := "law.go:51", after := #[{ on := 22, ground := Ground.data }, { on := 19, ground := Ground.guard }], guard := some (19, false) }) (v := .bool false) rfl (by kernel_rfl) (by kernel_rfl) (by kernel_rfl) (fun _ _ _ h => h) (Or.inl ⟨by simp [Region.wanted, yielded, ops3, tget z23 (by decide) t32], fun w1 hw => by go_simp⟩) hHeld ?_
  obtain ⟨a24, e24⟩ : ∃ act, act = a23.put (some 36) (.bool false) := ⟨_, rfl⟩
  rw [← e24] at h ⊢
  have z24 : a24.tmps.size = 85 := by rw [e24, put_size]; exact z23
  replace t32 : a24.tmps.getD 32 undef = .bool false := by rw [e24, put_ne _ _ _ _ (by decide)]; exact t32
  clear t35
  have t36 : a24.tmps.getD 36 undef = .bool false := by rw [e24]; exact put_same _ _ _ (by omega)
  clear e24 z23
  refine wpAnyH_take (i := 24) (oi := { dst := some 37, op := Op.pick (Operand.tmp 32) (Operand.const (Value.bool true)) (Operand.tmp 36), type := 4, pos := "law.go:51", after := #[{ on := 19, ground := Ground.data }, { on := 23, ground := Ground.data }], guard := none }) (v := .bool false) rfl (by kernel_rfl) (by kernel_rfl) (by kernel_rfl) (fun _ _ _ h => h) (Or.inl ⟨by rfl, fun w1 hw => by go_simp⟩) hHeld ?_
  obtain ⟨a25, e25⟩ : ∃ act, act = a24.put (some 37) (.bool false) := ⟨_, rfl⟩
  rw [← e25] at h ⊢
  have z25 : a25.tmps.size = 85 := by rw [e25, put_size]; exact z24
  clear t32
  clear t36
  clear e25 z24
  exact wpAnyH_done (by kernel_rfl) (NoPanic.normal (h _ _ (hHeld) rfl)) _
def ops8 : Array Oper := #[{ dst := some 45, op := Op.fieldAddr 25 (Operand.tmp 6) 0, type := 0, pos := "law.go:55", after := #[], guard := none }, { dst := some 46, op := Op.load 22 (Operand.tmp 45), type := 22, pos := "law.go:55", after := #[{ on := 0, ground := Ground.data }], guard := none }, { dst := some 47, op := Op.move (Operand.tmp 7), type := 3, pos := "law.go:55", after := #[], guard := none }, { dst := some 48, op := Op.indexAddr 22 (Operand.tmp 46) (Operand.tmp 47), type := 0, pos := "law.go:55", after := #[{ on := 1, ground := Ground.data }, { on := 2, ground := Ground.data }], guard := none }, { dst := some 49, op := Op.indexAddr 29 (Operand.tmp 48) (Operand.const (Value.int IntKind.i64 0)), type := 0, pos := "law.go:55", after := #[{ on := 3, ground := Ground.data }], guard := none }, { dst := some 50, op := Op.load 5 (Operand.tmp 49), type := 5, pos := "law.go:55", after := #[{ on := 4, ground := Ground.data }], guard := none }, { dst := some 51, op := Op.binOp BinOp.xor 5 (Operand.tmp 50) (Operand.const (Value.int IntKind.u8 255)) 5, type := 5, pos := "law.go:55", after := #[{ on := 5, ground := Ground.data }], guard := none }, { dst := some 52, op := Op.indexAddr 22 (Operand.tmp 46) (Operand.tmp 47), type := 0, pos := "law.go:55", after := #[{ on := 1, ground := Ground.data }, { on := 2, ground := Ground.data }], guard := none }, { dst := some 53, op := Op.indexAddr 29 (Operand.tmp 52) (Operand.const (Value.int IntKind.i64 0)), type := 0, pos := "law.go:55", after := #[{ on := 7, ground := Ground.data }, { on := 0, ground := Ground.phase }, { on := 1, ground := Ground.phase }, { on := 2, ground := Ground.phase }, { on := 3, ground := Ground.phase }, { on := 4, ground := Ground.phase }, { on := 5, ground := Ground.phase }, { on := 6, ground := Ground.phase }], guard := none }, { dst := none, op := Op.store 5 (Operand.tmp 53) (Operand.tmp 51), type := 0, pos := "law.go:55", after := #[{ on := 8, ground := Ground.data }, { on := 6, ground := Ground.data }, { on := 0, ground := Ground.phase }, { on := 1, ground := Ground.phase }, { on := 2, ground := Ground.phase }, { on := 3, ground := Ground.phase }, { on := 4, ground := Ground.phase }, { on := 5, ground := Ground.phase }, { on := 6, ground := Ground.phase }], guard := none }]
theorem turn8 (c gp cp n k : Nat) (x : Int) (a : Act) (w : World) (Q : Exit → Act → World → Prop) (hsz : a.tmps.size = 85)
    (h6 : a.tmps.getD 6 undef = .pointer (some ⟨c, 0, none⟩))
    (h7 : a.tmps.getD 7 undef = .int .i64 (k : Int))
    (hk0 : (0 : Int) ≤ (k : Int)) (hk1 : (k : Int) < (n : Int)) (hgc : gp ≠ c)
    (ix1 : ∀ wx, (Instr.indexAt 22 (.slice (some ⟨gp, 0, none⟩) n cp) (.int .i64 (k : Int))).run Try.prog wx = .ok (.pointer (some ⟨gp, 32 * k, none⟩)) wx)
    (c1 : w.cell? ⟨c, 0, none⟩ = some (.slice (some ⟨gp, 0, none⟩) n cp)) (c5 : w.drew.cell? ⟨gp, 32 * k, none⟩ = some (.int .u8 x)) (f5 : w.drew.frozen? ⟨gp, 32 * k, none⟩ = false)
    (h : ∀ (a' : Act) (w' : World), w' = w.drew.setCell ⟨gp, 32 * k, none⟩ (.int .u8 (bits .xor .u8 x 255)) → a' = (((((((((a).put (some 45) (.pointer (some ⟨c, 0, none⟩))).put (some 46) (.slice (some ⟨gp, 0, none⟩) n cp)).put (some 47) (.int .i64 (k : Int))).put (some 48) (.pointer (some ⟨gp, 32 * k, none⟩))).put (some 49) (.pointer (some ⟨gp, 32 * k, none⟩))).put (some 52) (.pointer (some ⟨gp, 32 * k, none⟩))).put (some 50) (.int .u8 x)).put (some 51) (.int .u8 (bits .xor .u8 x 255))).put (some 53) (.pointer (some ⟨gp, 32 * k, none⟩)) → Q .normal a' w') :
    (Code.region 8 ops8 true).wp Try.prog Q a w := by
  refine wp_region_noPanic ?_
  refine wp_region_held_drew (S := fun w' => w'.cell? ⟨c, 0, none⟩ = some (.slice (some ⟨gp, 0, none⟩) n cp)) (by kernel_rfl) (c1) (fun hHeld => ?_)
  refine wpAnyH_take (i := 0) (oi := { dst := some 45, op := Op.fieldAddr 25 (Operand.tmp 6) 0, type := 0, pos := "law.go:55", after := #[], guard := none }) (v := .pointer (some ⟨c, 0, none⟩)) rfl (by kernel_rfl) (by kernel_rfl) (by kernel_rfl) (fun _ _ _ h => h) (Or.inl ⟨by rfl, fun w1 hw => by go_simp⟩) hHeld ?_
  obtain ⟨a1, e1⟩ : ∃ act, act = a.put (some 45) (.pointer (some ⟨c, 0, none⟩)) := ⟨_, rfl⟩
  rw [← e1] at h ⊢
  have z1 : a1.tmps.size = 85 := by rw [e1, put_size]; exact hsz
  clear h6
  replace h7 : a1.tmps.getD 7 undef = .int .i64 (k : Int) := by rw [e1, put_ne _ _ _ _ (by decide)]; exact h7
  have t45 : a1.tmps.getD 45 undef = .pointer (some ⟨c, 0, none⟩) := by rw [e1]; exact put_same _ _ _ (by omega)
  clear e1 hsz
  refine wpAnyH_take (i := 1) (oi := { dst := some 46, op := Op.load 22 (Operand.tmp 45), type := 22, pos := "law.go:55", after := #[{ on := 0, ground := Ground.data }], guard := none }) (v := .slice (some ⟨gp, 0, none⟩) n cp) rfl (by kernel_rfl) (by kernel_rfl) (by kernel_rfl) (fun _ _ _ h => h) (Or.inl ⟨by rfl, fun w1 hw => by have q := hw; go_simp⟩) hHeld ?_
  obtain ⟨a2, e2⟩ : ∃ act, act = a1.put (some 46) (.slice (some ⟨gp, 0, none⟩) n cp) := ⟨_, rfl⟩
  rw [← e2] at h ⊢
  have z2 : a2.tmps.size = 85 := by rw [e2, put_size]; exact z1
  replace h7 : a2.tmps.getD 7 undef = .int .i64 (k : Int) := by rw [e2, put_ne _ _ _ _ (by decide)]; exact h7
  clear t45
  have t46 : a2.tmps.getD 46 undef = .slice (some ⟨gp, 0, none⟩) n cp := by rw [e2]; exact put_same _ _ _ (by omega)
  clear e2 z1
  refine wpAnyH_take (i := 2) (oi := { dst := some 47, op := Op.move (Operand.tmp 7), type := 3, pos := "law.go:55", after := #[], guard := none }) (v := .int .i64 (k : Int)) rfl (by kernel_rfl) (by kernel_rfl) (by kernel_rfl) (fun _ _ _ h => h) (Or.inl ⟨by rfl, fun w1 hw => by go_simp⟩) hHeld ?_
  obtain ⟨a3, e3⟩ : ∃ act, act = a2.put (some 47) (.int .i64 (k : Int)) := ⟨_, rfl⟩
  rw [← e3] at h ⊢
  have z3 : a3.tmps.size = 85 := by rw [e3, put_size]; exact z2
  clear h7
  replace t46 : a3.tmps.getD 46 undef = .slice (some ⟨gp, 0, none⟩) n cp := by rw [e3, put_ne _ _ _ _ (by decide)]; exact t46
  have t47 : a3.tmps.getD 47 undef = .int .i64 (k : Int) := by rw [e3]; exact put_same _ _ _ (by omega)
  clear e3 z2
  refine wpAnyH_take (i := 3) (oi := { dst := some 48, op := Op.indexAddr 22 (Operand.tmp 46) (Operand.tmp 47), type := 0, pos := "law.go:55", after := #[{ on := 1, ground := Ground.data }, { on := 2, ground := Ground.data }], guard := none }) (v := .pointer (some ⟨gp, 32 * k, none⟩)) rfl (by kernel_rfl) (by kernel_rfl) (by kernel_rfl) (fun _ _ _ h => h) (Or.inl ⟨by rfl, fun w1 hw => by go_simp⟩) hHeld ?_
  obtain ⟨a4, e4⟩ : ∃ act, act = a3.put (some 48) (.pointer (some ⟨gp, 32 * k, none⟩)) := ⟨_, rfl⟩
  rw [← e4] at h ⊢
  have z4 : a4.tmps.size = 85 := by rw [e4, put_size]; exact z3
  replace t46 : a4.tmps.getD 46 undef = .slice (some ⟨gp, 0, none⟩) n cp := by rw [e4, put_ne _ _ _ _ (by decide)]; exact t46
  replace t47 : a4.tmps.getD 47 undef = .int .i64 (k : Int) := by rw [e4, put_ne _ _ _ _ (by decide)]; exact t47
  have t48 : a4.tmps.getD 48 undef = .pointer (some ⟨gp, 32 * k, none⟩) := by rw [e4]; exact put_same _ _ _ (by omega)
  clear e4 z3
  refine wpAnyH_take (i := 4) (oi := { dst := some 49, op := Op.indexAddr 29 (Operand.tmp 48) (Operand.const (Value.int IntKind.i64 0)), type := 0, pos := "law.go:55", after := #[{ on := 3, ground := Ground.data }], guard := none }) (v := .pointer (some ⟨gp, 32 * k, none⟩)) rfl (by kernel_rfl) (by kernel_rfl) (by kernel_rfl) (fun _ _ _ h => h) (Or.inl ⟨by rfl, fun w1 hw => by go_simp⟩) hHeld ?_
  obtain ⟨a5, e5⟩ : ∃ act, act = a4.put (some 49) (.pointer (some ⟨gp, 32 * k, none⟩)) := ⟨_, rfl⟩
  rw [← e5] at h ⊢
  have z5 : a5.tmps.size = 85 := by rw [e5, put_size]; exact z4
  replace t46 : a5.tmps.getD 46 undef = .slice (some ⟨gp, 0, none⟩) n cp := by rw [e5, put_ne _ _ _ _ (by decide)]; exact t46
  replace t47 : a5.tmps.getD 47 undef = .int .i64 (k : Int) := by rw [e5, put_ne _ _ _ _ (by decide)]; exact t47
  clear t48
  have t49 : a5.tmps.getD 49 undef = .pointer (some ⟨gp, 32 * k, none⟩) := by rw [e5]; exact put_same _ _ _ (by omega)
  clear e5 z4
  refine wpAnyH_take (i := 7) (oi := { dst := some 52, op := Op.indexAddr 22 (Operand.tmp 46) (Operand.tmp 47), type := 0, pos := "law.go:55", after := #[{ on := 1, ground := Ground.data }, { on := 2, ground := Ground.data }], guard := none }) (v := .pointer (some ⟨gp, 32 * k, none⟩)) rfl (by kernel_rfl) (by kernel_rfl) (by kernel_rfl) (fun _ _ _ h => h) (Or.inl ⟨by rfl, fun w1 hw => by go_simp⟩) hHeld ?_
  obtain ⟨a6, e6⟩ : ∃ act, act = a5.put (some 52) (.pointer (some ⟨gp, 32 * k, none⟩)) := ⟨_, rfl⟩
  rw [← e6] at h ⊢
  have z6 : a6.tmps.size = 85 := by rw [e6, put_size]; exact z5
  clear t46
  clear t47
  replace t49 : a6.tmps.getD 49 undef = .pointer (some ⟨gp, 32 * k, none⟩) := by rw [e6, put_ne _ _ _ _ (by decide)]; exact t49
  have t52 : a6.tmps.getD 52 undef = .pointer (some ⟨gp, 32 * k, none⟩) := by rw [e6]; exact put_same _ _ _ (by omega)
  clear e6 z5
  refine wpAnyH_ready (rs := [5]) (by kernel_rfl) (by simp) ?_
  refine AllReadyH.cons (o := { dst := some 50, op := Op.load 5 (Operand.tmp 49), type := 5, pos := "law.go:55", after := #[{ on := 4, ground := Ground.data }], guard := none }) rfl (fun K hK => ?_) AllReadyH.nil
  rw [if_pos (by rfl)]
  go_simp
  refine hK.out _ _ (hHeld) (fun hHeld => ?_)
  clear hK K
  change wpAnyH _ _ _ _ _ _ _ (a6.put (some 50) (.int .u8 x)) _
  obtain ⟨a7, e7⟩ : ∃ act, act = a6.put (some 50) (.int .u8 x) := ⟨_, rfl⟩
  rw [← e7] at h ⊢
  have z7 : a7.tmps.size = 85 := by rw [e7, put_size]; exact z6
  clear t49
  replace t52 : a7.tmps.getD 52 undef = .pointer (some ⟨gp, 32 * k, none⟩) := by rw [e7, put_ne _ _ _ _ (by decide)]; exact t52
  have t50 : a7.tmps.getD 50 undef = .int .u8 x := by rw [e7]; exact put_same _ _ _ (by omega)
  clear e7 z6
  refine wpAnyH_take (i := 6) (oi := { dst := some 51, op := Op.binOp BinOp.xor 5 (Operand.tmp 50) (Operand.const (Value.int IntKind.u8 255)) 5, type := 5, pos := "law.go:55", after := #[{ on := 5, ground := Ground.data }], guard := none }) (v := .int .u8 (bits .xor .u8 x 255)) rfl (by kernel_rfl) (by kernel_rfl) (by kernel_rfl) (fun _ _ _ h => h) (Or.inl ⟨by rfl, fun w1 hw => by go_simp⟩) hHeld ?_
  obtain ⟨a8, e8⟩ : ∃ act, act = a7.put (some 51) (.int .u8 (bits .xor .u8 x 255)) := ⟨_, rfl⟩
  rw [← e8] at h ⊢
  have z8 : a8.tmps.size = 85 := by rw [e8, put_size]; exact z7
  replace t52 : a8.tmps.getD 52 undef = .pointer (some ⟨gp, 32 * k, none⟩) := by rw [e8, put_ne _ _ _ _ (by decide)]; exact t52
  clear t50
  have t51 : a8.tmps.getD 51 undef = .int .u8 (bits .xor .u8 x 255) := by rw [e8]; exact put_same _ _ _ (by omega)
  clear e8 z7
  refine wpAnyH_take (i := 8) (oi := { dst := some 53, op := Op.indexAddr 29 (Operand.tmp 52) (Operand.const (Value.int IntKind.i64 0)), type := 0, pos := "law.go:55", after := #[{ on := 7, ground := Ground.data }, { on := 0, ground := Ground.phase }, { on := 1, ground := Ground.phase }, { on := 2, ground := Ground.phase }, { on := 3, ground := Ground.phase }, { on := 4, ground := Ground.phase }, { on := 5, ground := Ground.phase }, { on := 6, ground := Ground.phase }], guard := none }) (v := .pointer (some ⟨gp, 32 * k, none⟩)) rfl (by kernel_rfl) (by kernel_rfl) (by kernel_rfl) (fun _ _ _ h => h) (Or.inl ⟨by rfl, fun w1 hw => by go_simp⟩) hHeld ?_
  obtain ⟨a9, e9⟩ : ∃ act, act = a8.put (some 53) (.pointer (some ⟨gp, 32 * k, none⟩)) := ⟨_, rfl⟩
  rw [← e9] at h ⊢
  have z9 : a9.tmps.size = 85 := by rw [e9, put_size]; exact z8
  clear t52
  replace t51 : a9.tmps.getD 51 undef = .int .u8 (bits .xor .u8 x 255) := by rw [e9, put_ne _ _ _ _ (by decide)]; exact t51
  have t53 : a9.tmps.getD 53 undef = .pointer (some ⟨gp, 32 * k, none⟩) := by rw [e9]; exact put_same _ _ _ (by omega)
  clear e9 z8
  refine wpAnyH_ready (rs := [9]) (by kernel_rfl) (by simp) ?_
  refine AllReadyH.cons (o := { dst := none, op := Op.store 5 (Operand.tmp 53) (Operand.tmp 51), type := 0, pos := "law.go:55", after := #[{ on := 8, ground := Ground.data }, { on := 6, ground := Ground.data }, { on := 0, ground := Ground.phase }, { on := 1, ground := Ground.phase }, { on := 2, ground := Ground.phase }, { on := 3, ground := Ground.phase }, { on := 4, ground := Ground.phase }, { on := 5, ground := Ground.phase }, { on := 6, ground := Ground.phase }], guard := none }) rfl (fun K hK => ?_) AllReadyH.nil
  rw [if_pos (by rfl)]
  go_simp
  refine hK.out _ _ ((by show (w.drew.setCell ⟨gp, 32 * k, none⟩ (.int .u8 (bits .xor .u8 x 255))).cell? ⟨c, 0, none⟩ = _; rw [World.cell?_of_block (w := w.drew) (Below.heap_setCell _ _ _ _ (by show c ≠ gp; exact fun e => hgc e.symm))]; exact c1)) (fun hHeld => ?_)
  clear hK K
  exact wpAnyH_done (by kernel_rfl) (NoPanic.normal (h _ _ rfl rfl)) _

/-- A row with room, whatever it holds. -/
structure RowB (w : World) (e : TypeId) (sz g n cap : Nat) (cs : Array Value) : Prop where
  h : w.heap[g]? = some (.cells cs e (0, 0))
  nc : n ≤ cap
  cm : cap ≤ maxLen
  sz : cs.size = cap * sz
theorem RowB.own {w : World} {e : TypeId} {sz g n cap : Nat} {cs : Array Value} (r : RowB w e sz g n cap cs) (B : Nat) (hB : B ≤ g) : w.ownsRow B e sz (.slice (some ⟨g, 0, none⟩) n cap) n (cs.toList.take (n * sz)) :=
  ⟨by rw [List.length_take, Array.length_toList, r.sz]; exact Nat.min_eq_left (Nat.mul_le_mul_right _ r.nc), .inr ⟨g, cap, cs, rfl, hB, r.h, r.nc, r.cm, r.sz, rfl⟩⟩
theorem OwnH.row {w : World} {B g n cap : Nat} {P : List (List UInt8)} (h : OwnH w B (.slice (some ⟨g, 0, none⟩) n cap) P) (hn : P.length = n) : ∃ cs, RowB w 29 32 g n cap cs ∧ ∀ j, j < n → ∃ x : Int, cs[32 * j]? = some (.int .u8 x) := by
  obtain ⟨hL, hlen, ⟨e, _⟩ | ⟨g', cap', cur, e, hbg, hg, hnc, hcm, hcs', htake⟩⟩ := h
  · cases e
  · simp only [Value.slice.injEq, Option.some.injEq, Addr.mk.injEq] at e
    obtain ⟨⟨rfl, _⟩, _, rfl⟩ := e
    refine ⟨cur, ⟨hg, by omega, hcm, hcs'⟩, fun j hj => ?_⟩
    have hx : P[j]? = some P[j] := List.getElem?_eq_getElem (by omega)
    have h1 := flat_get hL j 0 _ hx (by omega)
    have hx32 := hL.get hx
    have h2 : (hcs P[j])[0]? = some (.int .u8 (at8 P[j] 0)) := by
      have := bs_get P[j] 0 (by omega)
      simpa [hcs] using this
    rw [h2, ← htake, List.getElem?_take, if_pos (by omega)] at h1
    exact ⟨_, by rw [show 32 * j = j * 32 + 0 by omega]; simpa using h1⟩
theorem OwnE.row {w : World} {B g n cap : Nat} {E : List EdV} (h : OwnE w B (.slice (some ⟨g, 0, none⟩) n cap) E) (hn : E.length = n) : ∃ cs, RowB w 39 111 g n cap cs ∧ ∀ j x, E[j]? = some x → cs[111 * j + 103]? = some (.string (str x.key)) := by
  obtain ⟨hL, hlen, ⟨e, _⟩ | ⟨g', cap', cur, e, hbg, hg, hnc, hcm, hcs', htake⟩⟩ := h
  · cases e
  · simp only [Value.slice.injEq, Option.some.injEq, Addr.mk.injEq] at e
    obtain ⟨⟨rfl, _⟩, _, rfl⟩ := e
    refine ⟨cur, ⟨hg, by omega, hcm, hcs'⟩, fun j x hx => ?_⟩
    have hj : j < E.length := (List.getElem?_eq_some_iff.1 hx).1
    have h1 := flatE_get hL j 103 _ hx (by omega)
    have h2 := x.tail (hL.get hx) 0
    have h3 : x.l[103]? = some (.string (str x.key)) := by simpa [EdV.c] using h2
    rw [h3, ← htake, List.getElem?_take, if_pos (by omega)] at h1
    rw [show 111 * j + 103 = j * 111 + 103 by omega]
    simpa using h1
theorem wpList_app_run {P : Program} {ops : Array Oper} {rest : List Oper} {o : Oper} {a : Act} {w : World} {Q : Exit → Act → World → Prop} (hgd : o.guard = none) (s x : Operand) (t : TypeId) (ho : o.op = .call { callee := .builtin .append, args := #[s, x], argTypes := #[t, t] })
    (v y v' : Value) (w' : World) (hs : a.eval s = v) (hx : a.eval x = y) (hr : (Builtin.append_ #[t, t] o.type #[v, y]).run P w = .ok v' w') (h : wpList P ops Q rest (a.put o.dst v') w') : wpList P ops Q (o :: rest) a w :=
  wpList_plain hgd fun _ hK => by
    unfold Oper.wp execOp
    simp only [ho, resolve, invoke, builtin, Sem.run_bind, Sem.run_pure, Result.andThen_ok, List.map_toArray, List.map_cons, List.map_nil, hs, hx, hr]
    exact hK _ _ h
/-- A hash, or an edit, appended to a row of its own. -/
theorem run_appZH (w : World) (B g n cap g5 : Nat) (cs : Array Value) (ty : TypeId) (r : RowB w 29 32 g n cap cs) (hB : B ≤ g) (hn : n ≤ 4398046511104) (hz : w.heap[g5]? = some (.cells (bs z32) 29 (0, 0))) (hbase : B ≤ w.heap.size) :
    ∃ v' w', (Builtin.append_ #[22, 22] ty #[.slice (some ⟨g, 0, none⟩) n cap, .slice (some ⟨g5, 0, none⟩) 1 1]).run Try.prog w = .ok v' w' ∧ w.grownBy w' (some g) ∧ ∃ a m c, v' = .slice a m c := by
  obtain ⟨i, hi, hz', hs, hby⟩ := infoH
  obtain ⟨v', w', hr, h2, h3, h4⟩ := run_append_own_wide (P := Try.prog) w B 22 ty 29 i (.agg (bs z32)) 32 32 Try.underlying22 hi hz' hs hby zsize (by omega) (.slice (some ⟨g, 0, none⟩) n cap) n _ (r.own B hB) ⟨g5, 0, none⟩ 1 1 (hcs z32) (by rw [hcs_len]; rfl) (fun j u hj => by
    rw [Addr.add_mid, Nat.zero_add, cell_of_row w g5 j _ _ _ hz]
    simpa [hcs] using hj) (hcs_one z32) (by unfold maxLen; omega) (by omega) hbase
  refine ⟨v', w', hr, h3, ?_⟩
  rcases h2.2 with ⟨e, _⟩ | ⟨g', cap', cur, e, _⟩
  · exact ⟨_, _, _, e⟩
  · exact ⟨_, _, _, e⟩
theorem run_appZE (w : World) (B g n cap g5 : Nat) (cs : Array Value) (ty : TypeId) (r : RowB w 39 111 g n cap cs) (hB : B ≤ g) (hn : n ≤ 606627104962) (hz : w.heap[g5]? = some (.cells ez.c 39 (0, 0))) (hbase : B ≤ w.heap.size) :
    ∃ v' w', (Builtin.append_ #[23, 23] ty #[.slice (some ⟨g, 0, none⟩) n cap, .slice (some ⟨g5, 0, none⟩) 1 1]).run Try.prog w = .ok v' w' ∧ w.grownBy w' (some g) ∧ ∃ a m c, v' = .slice a m c := by
  obtain ⟨i, hi, hz', hs, hby⟩ := infoE
  obtain ⟨v', w', hr, h2, h3, h4⟩ := run_append_own_wide (P := Try.prog) w B 23 ty 39 i (.agg ez.c) 111 232 Try.underlying23 hi hz' hs hby zsizeE (by omega) (.slice (some ⟨g, 0, none⟩) n cap) n _ (r.own B hB) ⟨g5, 0, none⟩ 1 1 ez.l (by rw [EdV.len ez_ok]) (fun j u hj => by
    rw [Addr.add_mid, Nat.zero_add, cell_of_row w g5 j _ _ _ hz]
    simpa [EdV.c] using hj) ez.one (by unfold maxLen; omega) (by omega) hbase
  refine ⟨v', w', hr, h3, ?_⟩
  rcases h2.2 with ⟨e, _⟩ | ⟨g', cap', cur, e, _⟩
  · exact ⟨_, _, _, e⟩
  · exact ⟨_, _, _, e⟩
theorem RowB.set {w : World} {e : TypeId} {sz g n cap : Nat} {cs : Array Value} (r : RowB w e sz g n cap cs) (j : Nat) (v : Value) : RowB (w.setCell ⟨g, j, none⟩ v) e sz g n cap (cs.setIfInBounds j v) :=
  ⟨heap_setCell_same w g j cs e v r.h, r.nc, r.cm, by simp [r.sz]⟩
theorem RowB.keep {w w' : World} {e : TypeId} {sz g n cap : Nat} {cs : Array Value} (r : RowB w e sz g n cap cs) (h : w'.heap[g]? = w.heap[g]?) : RowB w' e sz g n cap cs := ⟨h.trans r.h, r.nc, r.cm, r.sz⟩
end Go.Proofs.Ythfbolmfkilkjaa
