import Derived.Test.YtoofljkgdjjllaaP0
import Derived.Great.BuildSlice
import Derived.Deep.DeepAppendWide
import Derived.Maps.AppendAt
import Derived.OwnWalk
import Derived.Deep.RegionLaw
namespace Go.Proofs.Ytoofljkgdjjllaa
open Go.RowKit
set_option linter.unusedVariables false
set_option linter.unusedSimpArgs false

theorem fg_86_0 (b o : Nat) (w : World) : (Instr.fieldAt 86 (.pointer (some ⟨b, o, none⟩)) 0).run Try.prog w = .ok (.pointer (some ⟨b, o + 0, none⟩)) w := by go_simp
theorem fg_86_1 (b o : Nat) (w : World) : (Instr.fieldAt 86 (.pointer (some ⟨b, o, none⟩)) 1).run Try.prog w = .ok (.pointer (some ⟨b, o + 1, none⟩)) w := by go_simp
theorem fg_114_0 (b o : Nat) (w : World) : (Instr.fieldAt 114 (.pointer (some ⟨b, o, none⟩)) 0).run Try.prog w = .ok (.pointer (some ⟨b, o + 0, none⟩)) w := by go_simp
theorem fg_114_1 (b o : Nat) (w : World) : (Instr.fieldAt 114 (.pointer (some ⟨b, o, none⟩)) 1).run Try.prog w = .ok (.pointer (some ⟨b, o + 33, none⟩)) w := by go_simp
theorem fg_114_2 (b o : Nat) (w : World) : (Instr.fieldAt 114 (.pointer (some ⟨b, o, none⟩)) 2).run Try.prog w = .ok (.pointer (some ⟨b, o + 66, none⟩)) w := by go_simp
theorem fg_114_3 (b o : Nat) (w : World) : (Instr.fieldAt 114 (.pointer (some ⟨b, o, none⟩)) 3).run Try.prog w = .ok (.pointer (some ⟨b, o + 67, none⟩)) w := by go_simp
def find4_ops : Array Oper := #[{ dst := some 19, op := Op.move (Operand.tmp 0), type := 27, pos := "ref.go:47", after := #[], guard := none }, { dst := some 20, op := Op.nilCheck (Operand.tmp 19), type := 0, pos := "ref.go:47", after := #[{ on := 0, ground := Ground.data }], guard := none }, { dst := some 21, op := Op.fieldAddr 86 (Operand.tmp 20) 0, type := 0, pos := "ref.go:47", after := #[{ on := 1, ground := Ground.data }], guard := none }, { dst := some 22, op := Op.load 83 (Operand.tmp 21), type := 83, pos := "ref.go:47", after := #[{ on := 2, ground := Ground.data }], guard := none }, { dst := some 23, op := Op.move (Operand.tmp 5), type := 3, pos := "ref.go:47", after := #[], guard := none }, { dst := some 24, op := Op.indexAddr 83 (Operand.tmp 22) (Operand.tmp 23), type := 0, pos := "ref.go:47", after := #[{ on := 3, ground := Ground.data }, { on := 4, ground := Ground.data }], guard := none }, { dst := some 25, op := Op.fieldAddr 114 (Operand.tmp 24) 0, type := 0, pos := "ref.go:47", after := #[{ on := 5, ground := Ground.data }], guard := none }, { dst := some 26, op := Op.load 37 (Operand.tmp 25), type := 37, pos := "ref.go:47", after := #[{ on := 6, ground := Ground.data }], guard := none }, { dst := some 27, op := Op.load 37 (Operand.tmp 3), type := 37, pos := "ref.go:47", after := #[], guard := none }, { dst := some 28, op := Op.binOp BinOp.eql 37 (Operand.tmp 26) (Operand.tmp 27) 37, type := 4, pos := "ref.go:47", after := #[{ on := 7, ground := Ground.data }, { on := 8, ground := Ground.data }], guard := none }]
set_option maxRecDepth 100000 in
set_option maxHeartbeats 4000000 in
theorem find4 (d bi nb no n c i : Nat) (xv kv : Value) (q : Bool) (S : World → Prop) (a : Act) (w : World) (Q : Exit → Act → World → Prop) (hsz : a.tmps.size = 30)
    (t0 : a.tmps.getD 0 undef = .pointer (some ⟨d, 0, none⟩))
    (t3 : a.tmps.getD 3 undef = .pointer (some ⟨bi, 0, none⟩))
    (t5 : a.tmps.getD 5 undef = .int .i64 (i : Int))
    (h0 : S w.drew)
    (G1 : ∀ W, S W → (Instr.loadAt 83 (.pointer (some ⟨d, 0 + 0, none⟩))).run Try.prog W = .ok (.slice (some ⟨nb, no, none⟩) n c) W)
    (G2 : ∀ W, (Instr.indexAt 83 (.slice (some ⟨nb, no, none⟩) n c) (.int .i64 (i : Int))).run Try.prog W = .ok (.pointer (some ⟨nb, no + i * 68, none⟩)) W)
    (G3 : ∀ W, S W → (Instr.loadAt 37 (.pointer (some ⟨nb, no + i * 68 + 0, none⟩))).run Try.prog W = .ok (xv) W)
    (G4 : ∀ W, S W → (Instr.loadAt 37 (.pointer (some ⟨bi, 0, none⟩))).run Try.prog W = .ok (kv) W)
    (G5 : ∀ W, (eqGuard BinOp.eql 37 (Operand.tmp 26) (Operand.tmp 27) (xv) (kv)).run Try.prog W = .ok () W)
    (G6 : ∀ W, S W → (binOp BinOp.eql 37 (xv) (kv)).run Try.prog W = .ok (.bool q) W)
    (h : ∀ (a' : Act) (w' : World), S w' → a' = ((((((((((a).put (some 19) (.pointer (some ⟨d, 0, none⟩))).put (some 20) (.pointer (some ⟨d, 0, none⟩))).put (some 21) (.pointer (some ⟨d, 0 + 0, none⟩))).put (some 22) (.slice (some ⟨nb, no, none⟩) n c)).put (some 23) (.int .i64 (i : Int))).put (some 24) (.pointer (some ⟨nb, no + i * 68, none⟩))).put (some 25) (.pointer (some ⟨nb, no + i * 68 + 0, none⟩))).put (some 26) (xv)).put (some 27) (kv)).put (some 28) (.bool q) → Q .normal a' w') :
    (Code.region 4 find4_ops true).wp Try.prog Q a w := by
  refine wp_region_noPanic ?_
  refine wp_region_held_drew (S := fun w' => S w') (by kernel_rfl) (h0) (fun hHeld => ?_)
  refine wpAnyH_take (i := 0) (oi := { dst := some 19, op := Op.move (Operand.tmp 0), type := 27, pos := "ref.go:47", after := #[], guard := none }) (v := .pointer (some ⟨d, 0, none⟩)) rfl (by kernel_rfl) (by kernel_rfl) (by kernel_rfl) (fun _ _ _ h => h) (Or.inl ⟨by rfl, fun w1 hw => exec_move rfl t0⟩) hHeld ?_
  change wpAnyH _ _ _ _ _ _ _ (a.put (some 19) (.pointer (some ⟨d, 0, none⟩))) _
  obtain ⟨a1, e1⟩ : ∃ act, act = a.put (some 19) (.pointer (some ⟨d, 0, none⟩)) := ⟨_, rfl⟩
  rw [← e1] at h ⊢
  have z1 : a1.tmps.size = 30 := by rw [e1, put_size]; exact hsz
  clear t0
  replace t3 : a1.tmps.getD 3 undef = .pointer (some ⟨bi, 0, none⟩) := by rw [e1, put_ne _ _ _ _ (by decide)]; exact t3
  replace t5 : a1.tmps.getD 5 undef = .int .i64 (i : Int) := by rw [e1, put_ne _ _ _ _ (by decide)]; exact t5
  have t19 : a1.tmps.getD 19 undef = .pointer (some ⟨d, 0, none⟩) := by rw [e1]; exact put_same _ _ _ (by omega)
  clear e1 hsz
  refine wpAnyH_take (i := 1) (oi := { dst := some 20, op := Op.nilCheck (Operand.tmp 19), type := 0, pos := "ref.go:47", after := #[{ on := 0, ground := Ground.data }], guard := none }) (v := .pointer (some ⟨d, 0, none⟩)) rfl (by kernel_rfl) (by kernel_rfl) (by kernel_rfl) (fun _ _ _ h => h) (Or.inl ⟨by rfl, fun w1 hw => exec_nilCheck rfl t19⟩) hHeld ?_
  change wpAnyH _ _ _ _ _ _ _ (a1.put (some 20) (.pointer (some ⟨d, 0, none⟩))) _
  obtain ⟨a2, e2⟩ : ∃ act, act = a1.put (some 20) (.pointer (some ⟨d, 0, none⟩)) := ⟨_, rfl⟩
  rw [← e2] at h ⊢
  have z2 : a2.tmps.size = 30 := by rw [e2, put_size]; exact z1
  replace t3 : a2.tmps.getD 3 undef = .pointer (some ⟨bi, 0, none⟩) := by rw [e2, put_ne _ _ _ _ (by decide)]; exact t3
  replace t5 : a2.tmps.getD 5 undef = .int .i64 (i : Int) := by rw [e2, put_ne _ _ _ _ (by decide)]; exact t5
  clear t19
  have t20 : a2.tmps.getD 20 undef = .pointer (some ⟨d, 0, none⟩) := by rw [e2]; exact put_same _ _ _ (by omega)
  clear e2 z1
  refine wpAnyH_take (i := 2) (oi := { dst := some 21, op := Op.fieldAddr 86 (Operand.tmp 20) 0, type := 0, pos := "ref.go:47", after := #[{ on := 1, ground := Ground.data }], guard := none }) (v := .pointer (some ⟨d, 0 + 0, none⟩)) rfl (by kernel_rfl) (by kernel_rfl) (by kernel_rfl) (fun _ _ _ h => h) (Or.inl ⟨by rfl, fun w1 hw => exec_fieldAt rfl t20 (fg_86_0 _ _ _)⟩) hHeld ?_
  change wpAnyH _ _ _ _ _ _ _ (a2.put (some 21) (.pointer (some ⟨d, 0 + 0, none⟩))) _
  obtain ⟨a3, e3⟩ : ∃ act, act = a2.put (some 21) (.pointer (some ⟨d, 0 + 0, none⟩)) := ⟨_, rfl⟩
  rw [← e3] at h ⊢
  have z3 : a3.tmps.size = 30 := by rw [e3, put_size]; exact z2
  replace t3 : a3.tmps.getD 3 undef = .pointer (some ⟨bi, 0, none⟩) := by rw [e3, put_ne _ _ _ _ (by decide)]; exact t3
  replace t5 : a3.tmps.getD 5 undef = .int .i64 (i : Int) := by rw [e3, put_ne _ _ _ _ (by decide)]; exact t5
  clear t20
  have t21 : a3.tmps.getD 21 undef = .pointer (some ⟨d, 0 + 0, none⟩) := by rw [e3]; exact put_same _ _ _ (by omega)
  clear e3 z2
  refine wpAnyH_take (i := 3) (oi := { dst := some 22, op := Op.load 83 (Operand.tmp 21), type := 83, pos := "ref.go:47", after := #[{ on := 2, ground := Ground.data }], guard := none }) (v := .slice (some ⟨nb, no, none⟩) n c) rfl (by kernel_rfl) (by kernel_rfl) (by kernel_rfl) (fun _ _ _ h => h) (Or.inl ⟨by rfl, fun w1 hw => exec_load rfl t21 (G1 _ hw)⟩) hHeld ?_
  change wpAnyH _ _ _ _ _ _ _ (a3.put (some 22) (.slice (some ⟨nb, no, none⟩) n c)) _
  obtain ⟨a4, e4⟩ : ∃ act, act = a3.put (some 22) (.slice (some ⟨nb, no, none⟩) n c) := ⟨_, rfl⟩
  rw [← e4] at h ⊢
  have z4 : a4.tmps.size = 30 := by rw [e4, put_size]; exact z3
  replace t3 : a4.tmps.getD 3 undef = .pointer (some ⟨bi, 0, none⟩) := by rw [e4, put_ne _ _ _ _ (by decide)]; exact t3
  replace t5 : a4.tmps.getD 5 undef = .int .i64 (i : Int) := by rw [e4, put_ne _ _ _ _ (by decide)]; exact t5
  clear t21
  have t22 : a4.tmps.getD 22 undef = .slice (some ⟨nb, no, none⟩) n c := by rw [e4]; exact put_same _ _ _ (by omega)
  clear e4 z3
  refine wpAnyH_take (i := 4) (oi := { dst := some 23, op := Op.move (Operand.tmp 5), type := 3, pos := "ref.go:47", after := #[], guard := none }) (v := .int .i64 (i : Int)) rfl (by kernel_rfl) (by kernel_rfl) (by kernel_rfl) (fun _ _ _ h => h) (Or.inl ⟨by rfl, fun w1 hw => exec_move rfl t5⟩) hHeld ?_
  change wpAnyH _ _ _ _ _ _ _ (a4.put (some 23) (.int .i64 (i : Int))) _
  obtain ⟨a5, e5⟩ : ∃ act, act = a4.put (some 23) (.int .i64 (i : Int)) := ⟨_, rfl⟩
  rw [← e5] at h ⊢
  have z5 : a5.tmps.size = 30 := by rw [e5, put_size]; exact z4
  replace t3 : a5.tmps.getD 3 undef = .pointer (some ⟨bi, 0, none⟩) := by rw [e5, put_ne _ _ _ _ (by decide)]; exact t3
  clear t5
  replace t22 : a5.tmps.getD 22 undef = .slice (some ⟨nb, no, none⟩) n c := by rw [e5, put_ne _ _ _ _ (by decide)]; exact t22
  have t23 : a5.tmps.getD 23 undef = .int .i64 (i : Int) := by rw [e5]; exact put_same _ _ _ (by omega)
  clear e5 z4
  refine wpAnyH_take (i := 5) (oi := { dst := some 24, op := Op.indexAddr 83 (Operand.tmp 22) (Operand.tmp 23), type := 0, pos := "ref.go:47", after := #[{ on := 3, ground := Ground.data }, { on := 4, ground := Ground.data }], guard := none }) (v := .pointer (some ⟨nb, no + i * 68, none⟩)) rfl (by kernel_rfl) (by kernel_rfl) (by kernel_rfl) (fun _ _ _ h => h) (Or.inl ⟨by rfl, fun w1 hw => exec_indexAt rfl t22 t23 (G2 _)⟩) hHeld ?_
  change wpAnyH _ _ _ _ _ _ _ (a5.put (some 24) (.pointer (some ⟨nb, no + i * 68, none⟩))) _
  obtain ⟨a6, e6⟩ : ∃ act, act = a5.put (some 24) (.pointer (some ⟨nb, no + i * 68, none⟩)) := ⟨_, rfl⟩
  rw [← e6] at h ⊢
  have z6 : a6.tmps.size = 30 := by rw [e6, put_size]; exact z5
  replace t3 : a6.tmps.getD 3 undef = .pointer (some ⟨bi, 0, none⟩) := by rw [e6, put_ne _ _ _ _ (by decide)]; exact t3
  clear t22
  clear t23
  have t24 : a6.tmps.getD 24 undef = .pointer (some ⟨nb, no + i * 68, none⟩) := by rw [e6]; exact put_same _ _ _ (by omega)
  clear e6 z5
  refine wpAnyH_take (i := 6) (oi := { dst := some 25, op := Op.fieldAddr 114 (Operand.tmp 24) 0, type := 0, pos := "ref.go:47", after := #[{ on := 5, ground := Ground.data }], guard := none }) (v := .pointer (some ⟨nb, no + i * 68 + 0, none⟩)) rfl (by kernel_rfl) (by kernel_rfl) (by kernel_rfl) (fun _ _ _ h => h) (Or.inl ⟨by rfl, fun w1 hw => exec_fieldAt rfl t24 (fg_114_0 _ _ _)⟩) hHeld ?_
  change wpAnyH _ _ _ _ _ _ _ (a6.put (some 25) (.pointer (some ⟨nb, no + i * 68 + 0, none⟩))) _
  obtain ⟨a7, e7⟩ : ∃ act, act = a6.put (some 25) (.pointer (some ⟨nb, no + i * 68 + 0, none⟩)) := ⟨_, rfl⟩
  rw [← e7] at h ⊢
  have z7 : a7.tmps.size = 30 := by rw [e7, put_size]; exact z6
  replace t3 : a7.tmps.getD 3 undef = .pointer (some ⟨bi, 0, none⟩) := by rw [e7, put_ne _ _ _ _ (by decide)]; exact t3
  clear t24
  have t25 : a7.tmps.getD 25 undef = .pointer (some ⟨nb, no + i * 68 + 0, none⟩) := by rw [e7]; exact put_same _ _ _ (by omega)
  clear e7 z6
  refine wpAnyH_take (i := 7) (oi := { dst := some 26, op := Op.load 37 (Operand.tmp 25), type := 37, pos := "ref.go:47", after := #[{ on := 6, ground := Ground.data }], guard := none }) (v := xv) rfl (by kernel_rfl) (by kernel_rfl) (by kernel_rfl) (fun _ _ _ h => h) (Or.inl ⟨by rfl, fun w1 hw => exec_load rfl t25 (G3 _ hw)⟩) hHeld ?_
  change wpAnyH _ _ _ _ _ _ _ (a7.put (some 26) (xv)) _
  obtain ⟨a8, e8⟩ : ∃ act, act = a7.put (some 26) (xv) := ⟨_, rfl⟩
  rw [← e8] at h ⊢
  have z8 : a8.tmps.size = 30 := by rw [e8, put_size]; exact z7
  replace t3 : a8.tmps.getD 3 undef = .pointer (some ⟨bi, 0, none⟩) := by rw [e8, put_ne _ _ _ _ (by decide)]; exact t3
  clear t25
  have t26 : a8.tmps.getD 26 undef = xv := by rw [e8]; exact put_same _ _ _ (by omega)
  clear e8 z7
  refine wpAnyH_take (i := 8) (oi := { dst := some 27, op := Op.load 37 (Operand.tmp 3), type := 37, pos := "ref.go:47", after := #[], guard := none }) (v := kv) rfl (by kernel_rfl) (by kernel_rfl) (by kernel_rfl) (fun _ _ _ h => h) (Or.inl ⟨by rfl, fun w1 hw => exec_load rfl t3 (G4 _ hw)⟩) hHeld ?_
  change wpAnyH _ _ _ _ _ _ _ (a8.put (some 27) (kv)) _
  obtain ⟨a9, e9⟩ : ∃ act, act = a8.put (some 27) (kv) := ⟨_, rfl⟩
  rw [← e9] at h ⊢
  have z9 : a9.tmps.size = 30 := by rw [e9, put_size]; exact z8
  clear t3
  replace t26 : a9.tmps.getD 26 undef = xv := by rw [e9, put_ne _ _ _ _ (by decide)]; exact t26
  have t27 : a9.tmps.getD 27 undef = kv := by rw [e9]; exact put_same _ _ _ (by omega)
  clear e9 z8
  refine wpAnyH_take (i := 9) (oi := { dst := some 28, op := Op.binOp BinOp.eql 37 (Operand.tmp 26) (Operand.tmp 27) 37, type := 4, pos := "ref.go:47", after := #[{ on := 7, ground := Ground.data }, { on := 8, ground := Ground.data }], guard := none }) (v := .bool q) rfl (by kernel_rfl) (by kernel_rfl) (by kernel_rfl) (fun _ _ _ h => h) (Or.inl ⟨by rfl, fun w1 hw => exec_binOp rfl t26 t27 (G5 _) (G6 _ hw)⟩) hHeld ?_
  change wpAnyH _ _ _ _ _ _ _ (a9.put (some 28) (.bool q)) _
  obtain ⟨a10, e10⟩ : ∃ act, act = a9.put (some 28) (.bool q) := ⟨_, rfl⟩
  rw [← e10] at h ⊢
  have z10 : a10.tmps.size = 30 := by rw [e10, put_size]; exact z9
  clear t26
  clear t27
  clear e10 z9
  exact wpAnyH_done (by kernel_rfl) (NoPanic.normal (h _ _ (hHeld) rfl)) _
def runder4_ops : Array Oper := #[{ dst := some 24, op := Op.move (Operand.tmp 0), type := 27, pos := "ref.go:169", after := #[], guard := none }, { dst := some 25, op := Op.nilCheck (Operand.tmp 24), type := 0, pos := "ref.go:169", after := #[{ on := 0, ground := Ground.data }], guard := none }, { dst := some 26, op := Op.fieldAddr 86 (Operand.tmp 25) 0, type := 0, pos := "ref.go:169", after := #[{ on := 1, ground := Ground.data }], guard := none }, { dst := some 27, op := Op.load 83 (Operand.tmp 26), type := 83, pos := "ref.go:169", after := #[{ on := 2, ground := Ground.data }], guard := none }, { dst := some 28, op := Op.move (Operand.tmp 7), type := 3, pos := "ref.go:169", after := #[], guard := none }, { dst := some 29, op := Op.indexAddr 83 (Operand.tmp 27) (Operand.tmp 28), type := 0, pos := "ref.go:169", after := #[{ on := 3, ground := Ground.data }, { on := 4, ground := Ground.data }], guard := none }, { dst := some 30, op := Op.fieldAddr 114 (Operand.tmp 29) 1, type := 0, pos := "ref.go:169", after := #[{ on := 5, ground := Ground.data }], guard := none }, { dst := some 31, op := Op.load 37 (Operand.tmp 30), type := 37, pos := "ref.go:169", after := #[{ on := 6, ground := Ground.data }], guard := none }, { dst := some 32, op := Op.move (Operand.tmp 0), type := 27, pos := "ref.go:169", after := #[{ on := 16, ground := Ground.gcOnly Departure.lateStores }], guard := none }, { dst := some 33, op := Op.nilCheck (Operand.tmp 32), type := 0, pos := "ref.go:169", after := #[{ on := 8, ground := Ground.data }, { on := 16, ground := Ground.gcOnly Departure.lateStores }], guard := none }, { dst := some 34, op := Op.fieldAddr 86 (Operand.tmp 33) 0, type := 0, pos := "ref.go:169", after := #[{ on := 9, ground := Ground.data }, { on := 16, ground := Ground.gcOnly Departure.lateStores }], guard := none }, { dst := some 35, op := Op.load 83 (Operand.tmp 34), type := 83, pos := "ref.go:169", after := #[{ on := 10, ground := Ground.data }, { on := 16, ground := Ground.gcOnly Departure.lateStores }], guard := none }, { dst := some 36, op := Op.move (Operand.tmp 7), type := 3, pos := "ref.go:169", after := #[{ on := 16, ground := Ground.gcOnly Departure.lateStores }], guard := none }, { dst := some 37, op := Op.indexAddr 83 (Operand.tmp 35) (Operand.tmp 36), type := 0, pos := "ref.go:169", after := #[{ on := 11, ground := Ground.data }, { on := 12, ground := Ground.data }, { on := 16, ground := Ground.gcOnly Departure.lateStores }], guard := none }, { dst := some 38, op := Op.fieldAddr 114 (Operand.tmp 37) 2, type := 0, pos := "ref.go:169", after := #[{ on := 13, ground := Ground.data }, { on := 16, ground := Ground.gcOnly Departure.lateStores }], guard := none }, { dst := some 39, op := Op.load 9 (Operand.tmp 38), type := 9, pos := "ref.go:169", after := #[{ on := 14, ground := Ground.data }, { on := 16, ground := Ground.gcOnly Departure.lateStores }], guard := none }, { dst := none, op := Op.store 37 (Operand.tmp 4) (Operand.tmp 31), type := 0, pos := "ref.go:169", after := #[{ on := 7, ground := Ground.data }, { on := 0, ground := Ground.phase }, { on := 1, ground := Ground.phase }, { on := 2, ground := Ground.phase }, { on := 3, ground := Ground.phase }, { on := 4, ground := Ground.phase }, { on := 5, ground := Ground.phase }, { on := 6, ground := Ground.phase }, { on := 7, ground := Ground.phase }, { on := 8, ground := Ground.textOnly Departure.lateStores }, { on := 9, ground := Ground.textOnly Departure.lateStores }, { on := 10, ground := Ground.textOnly Departure.lateStores }, { on := 11, ground := Ground.textOnly Departure.lateStores }, { on := 12, ground := Ground.textOnly Departure.lateStores }, { on := 13, ground := Ground.textOnly Departure.lateStores }, { on := 14, ground := Ground.textOnly Departure.lateStores }, { on := 15, ground := Ground.textOnly Departure.lateStores }], guard := none }, { dst := some 5, op := Op.assign (Operand.tmp 39), type := 9, pos := "ref.go:169", after := #[{ on := 15, ground := Ground.data }, { on := 16, ground := Ground.chain }, { on := 0, ground := Ground.phase }, { on := 1, ground := Ground.phase }, { on := 2, ground := Ground.phase }, { on := 3, ground := Ground.phase }, { on := 4, ground := Ground.phase }, { on := 5, ground := Ground.phase }, { on := 6, ground := Ground.phase }, { on := 7, ground := Ground.phase }, { on := 8, ground := Ground.phase }, { on := 9, ground := Ground.phase }, { on := 10, ground := Ground.phase }, { on := 11, ground := Ground.phase }, { on := 12, ground := Ground.phase }, { on := 13, ground := Ground.phase }, { on := 14, ground := Ground.phase }, { on := 15, ground := Ground.phase }, { on := 16, ground := Ground.phase }], guard := none }, { dst := some 6, op := Op.assign (Operand.const (Value.bool true)), type := 4, pos := "ref.go:169", after := #[{ on := 17, ground := Ground.chain }, { on := 0, ground := Ground.phase }, { on := 1, ground := Ground.phase }, { on := 2, ground := Ground.phase }, { on := 3, ground := Ground.phase }, { on := 4, ground := Ground.phase }, { on := 5, ground := Ground.phase }, { on := 6, ground := Ground.phase }, { on := 7, ground := Ground.phase }, { on := 8, ground := Ground.phase }, { on := 9, ground := Ground.phase }, { on := 10, ground := Ground.phase }, { on := 11, ground := Ground.phase }, { on := 12, ground := Ground.phase }, { on := 13, ground := Ground.phase }, { on := 14, ground := Ground.phase }, { on := 15, ground := Ground.phase }, { on := 16, ground := Ground.phase }, { on := 17, ground := Ground.phase }], guard := none }]
set_option maxRecDepth 100000 in
set_option maxHeartbeats 4000000 in
theorem runder4 (d rb nb no n c i : Nat) (uv : Value) (ks : ByteArray) (w2 : World) (S : World → Prop) (a : Act) (w : World) (Q : Exit → Act → World → Prop) (hsz : a.tmps.size = 40)
    (t0 : a.tmps.getD 0 undef = .pointer (some ⟨d, 0, none⟩))
    (t4 : a.tmps.getD 4 undef = .pointer (some ⟨rb, 0, none⟩))
    (t7 : a.tmps.getD 7 undef = .int .i64 (i : Int))
    (h0 : S w.drew) (S2 : S w2) (HST : (Instr.storeAt 37 (.pointer (some ⟨rb, 0, none⟩)) uv).run Try.prog w.drew = .ok () w2)
    (G1 : ∀ W, S W → (Instr.loadAt 83 (.pointer (some ⟨d, 0 + 0, none⟩))).run Try.prog W = .ok (.slice (some ⟨nb, no, none⟩) n c) W)
    (G2 : ∀ W, (Instr.indexAt 83 (.slice (some ⟨nb, no, none⟩) n c) (.int .i64 (i : Int))).run Try.prog W = .ok (.pointer (some ⟨nb, no + i * 68, none⟩)) W)
    (G3 : ∀ W, S W → (Instr.loadAt 37 (.pointer (some ⟨nb, no + i * 68 + 33, none⟩))).run Try.prog W = .ok (uv) W)
    (G4 : ∀ W, S W → (Instr.loadAt 9 (.pointer (some ⟨nb, no + i * 68 + 66, none⟩))).run Try.prog W = .ok (.string ks) W)
    (h : ∀ (a' : Act) (w' : World), w' = w2 → a' = ((((((((((((((((((a).put (some 24) (.pointer (some ⟨d, 0, none⟩))).put (some 25) (.pointer (some ⟨d, 0, none⟩))).put (some 26) (.pointer (some ⟨d, 0 + 0, none⟩))).put (some 27) (.slice (some ⟨nb, no, none⟩) n c)).put (some 28) (.int .i64 (i : Int))).put (some 29) (.pointer (some ⟨nb, no + i * 68, none⟩))).put (some 30) (.pointer (some ⟨nb, no + i * 68 + 33, none⟩))).put (some 31) (uv)).put (some 32) (.pointer (some ⟨d, 0, none⟩))).put (some 33) (.pointer (some ⟨d, 0, none⟩))).put (some 34) (.pointer (some ⟨d, 0 + 0, none⟩))).put (some 35) (.slice (some ⟨nb, no, none⟩) n c)).put (some 36) (.int .i64 (i : Int))).put (some 37) (.pointer (some ⟨nb, no + i * 68, none⟩))).put (some 38) (.pointer (some ⟨nb, no + i * 68 + 66, none⟩))).put (some 39) (.string ks)).put (some 5) (.string ks)).put (some 6) (.bool true) → Q .normal a' w') :
    (Code.region 4 runder4_ops true).wp Try.prog Q a w := by
  refine wp_region_noPanic ?_
  refine wp_region_held_drew (S := fun w' => S w') (by kernel_rfl) (h0) (fun hHeld => ?_)
  refine wpAnyH_take (i := 0) (oi := { dst := some 24, op := Op.move (Operand.tmp 0), type := 27, pos := "ref.go:169", after := #[], guard := none }) (v := .pointer (some ⟨d, 0, none⟩)) rfl (by kernel_rfl) (by kernel_rfl) (by kernel_rfl) (fun _ _ _ h => h) (Or.inl ⟨by rfl, fun w1 hw => exec_move rfl t0⟩) hHeld ?_
  change wpAnyH _ _ _ _ _ _ _ (a.put (some 24) (.pointer (some ⟨d, 0, none⟩))) _
  obtain ⟨a1, e1⟩ : ∃ act, act = a.put (some 24) (.pointer (some ⟨d, 0, none⟩)) := ⟨_, rfl⟩
  rw [← e1] at h ⊢
  have z1 : a1.tmps.size = 40 := by rw [e1, put_size]; exact hsz
  replace t0 : a1.tmps.getD 0 undef = .pointer (some ⟨d, 0, none⟩) := by rw [e1, put_ne _ _ _ _ (by decide)]; exact t0
  replace t4 : a1.tmps.getD 4 undef = .pointer (some ⟨rb, 0, none⟩) := by rw [e1, put_ne _ _ _ _ (by decide)]; exact t4
  replace t7 : a1.tmps.getD 7 undef = .int .i64 (i : Int) := by rw [e1, put_ne _ _ _ _ (by decide)]; exact t7
  have t24 : a1.tmps.getD 24 undef = .pointer (some ⟨d, 0, none⟩) := by rw [e1]; exact put_same _ _ _ (by omega)
  clear e1 hsz
  refine wpAnyH_take (i := 1) (oi := { dst := some 25, op := Op.nilCheck (Operand.tmp 24), type := 0, pos := "ref.go:169", after := #[{ on := 0, ground := Ground.data }], guard := none }) (v := .pointer (some ⟨d, 0, none⟩)) rfl (by kernel_rfl) (by kernel_rfl) (by kernel_rfl) (fun _ _ _ h => h) (Or.inl ⟨by rfl, fun w1 hw => exec_nilCheck rfl t24⟩) hHeld ?_
  change wpAnyH _ _ _ _ _ _ _ (a1.put (some 25) (.pointer (some ⟨d, 0, none⟩))) _
  obtain ⟨a2, e2⟩ : ∃ act, act = a1.put (some 25) (.pointer (some ⟨d, 0, none⟩)) := ⟨_, rfl⟩
  rw [← e2] at h ⊢
  have z2 : a2.tmps.size = 40 := by rw [e2, put_size]; exact z1
  replace t0 : a2.tmps.getD 0 undef = .pointer (some ⟨d, 0, none⟩) := by rw [e2, put_ne _ _ _ _ (by decide)]; exact t0
  replace t4 : a2.tmps.getD 4 undef = .pointer (some ⟨rb, 0, none⟩) := by rw [e2, put_ne _ _ _ _ (by decide)]; exact t4
  replace t7 : a2.tmps.getD 7 undef = .int .i64 (i : Int) := by rw [e2, put_ne _ _ _ _ (by decide)]; exact t7
  clear t24
  have t25 : a2.tmps.getD 25 undef = .pointer (some ⟨d, 0, none⟩) := by rw [e2]; exact put_same _ _ _ (by omega)
  clear e2 z1
  refine wpAnyH_take (i := 2) (oi := { dst := some 26, op := Op.fieldAddr 86 (Operand.tmp 25) 0, type := 0, pos := "ref.go:169", after := #[{ on := 1, ground := Ground.data }], guard := none }) (v := .pointer (some ⟨d, 0 + 0, none⟩)) rfl (by kernel_rfl) (by kernel_rfl) (by kernel_rfl) (fun _ _ _ h => h) (Or.inl ⟨by rfl, fun w1 hw => exec_fieldAt rfl t25 (fg_86_0 _ _ _)⟩) hHeld ?_
  change wpAnyH _ _ _ _ _ _ _ (a2.put (some 26) (.pointer (some ⟨d, 0 + 0, none⟩))) _
  obtain ⟨a3, e3⟩ : ∃ act, act = a2.put (some 26) (.pointer (some ⟨d, 0 + 0, none⟩)) := ⟨_, rfl⟩
  rw [← e3] at h ⊢
  have z3 : a3.tmps.size = 40 := by rw [e3, put_size]; exact z2
  replace t0 : a3.tmps.getD 0 undef = .pointer (some ⟨d, 0, none⟩) := by rw [e3, put_ne _ _ _ _ (by decide)]; exact t0
  replace t4 : a3.tmps.getD 4 undef = .pointer (some ⟨rb, 0, none⟩) := by rw [e3, put_ne _ _ _ _ (by decide)]; exact t4
  replace t7 : a3.tmps.getD 7 undef = .int .i64 (i : Int) := by rw [e3, put_ne _ _ _ _ (by decide)]; exact t7
  clear t25
  have t26 : a3.tmps.getD 26 undef = .pointer (some ⟨d, 0 + 0, none⟩) := by rw [e3]; exact put_same _ _ _ (by omega)
  clear e3 z2
  refine wpAnyH_take (i := 3) (oi := { dst := some 27, op := Op.load 83 (Operand.tmp 26), type := 83, pos := "ref.go:169", after := #[{ on := 2, ground := Ground.data }], guard := none }) (v := .slice (some ⟨nb, no, none⟩) n c) rfl (by kernel_rfl) (by kernel_rfl) (by kernel_rfl) (fun _ _ _ h => h) (Or.inl ⟨by rfl, fun w1 hw => exec_load rfl t26 (G1 _ hw)⟩) hHeld ?_
  change wpAnyH _ _ _ _ _ _ _ (a3.put (some 27) (.slice (some ⟨nb, no, none⟩) n c)) _
  obtain ⟨a4, e4⟩ : ∃ act, act = a3.put (some 27) (.slice (some ⟨nb, no, none⟩) n c) := ⟨_, rfl⟩
  rw [← e4] at h ⊢
  have z4 : a4.tmps.size = 40 := by rw [e4, put_size]; exact z3
  replace t0 : a4.tmps.getD 0 undef = .pointer (some ⟨d, 0, none⟩) := by rw [e4, put_ne _ _ _ _ (by decide)]; exact t0
  replace t4 : a4.tmps.getD 4 undef = .pointer (some ⟨rb, 0, none⟩) := by rw [e4, put_ne _ _ _ _ (by decide)]; exact t4
  replace t7 : a4.tmps.getD 7 undef = .int .i64 (i : Int) := by rw [e4, put_ne _ _ _ _ (by decide)]; exact t7
  clear t26
  have t27 : a4.tmps.getD 27 undef = .slice (some ⟨nb, no, none⟩) n c := by rw [e4]; exact put_same _ _ _ (by omega)
  clear e4 z3
  refine wpAnyH_take (i := 4) (oi := { dst := some 28, op := Op.move (Operand.tmp 7), type := 3, pos := "ref.go:169", after := #[], guard := none }) (v := .int .i64 (i : Int)) rfl (by kernel_rfl) (by kernel_rfl) (by kernel_rfl) (fun _ _ _ h => h) (Or.inl ⟨by rfl, fun w1 hw => exec_move rfl t7⟩) hHeld ?_
  change wpAnyH _ _ _ _ _ _ _ (a4.put (some 28) (.int .i64 (i : Int))) _
  obtain ⟨a5, e5⟩ : ∃ act, act = a4.put (some 28) (.int .i64 (i : Int)) := ⟨_, rfl⟩
  rw [← e5] at h ⊢
  have z5 : a5.tmps.size = 40 := by rw [e5, put_size]; exact z4
  replace t0 : a5.tmps.getD 0 undef = .pointer (some ⟨d, 0, none⟩) := by rw [e5, put_ne _ _ _ _ (by decide)]; exact t0
  replace t4 : a5.tmps.getD 4 undef = .pointer (some ⟨rb, 0, none⟩) := by rw [e5, put_ne _ _ _ _ (by decide)]; exact t4
  replace t7 : a5.tmps.getD 7 undef = .int .i64 (i : Int) := by rw [e5, put_ne _ _ _ _ (by decide)]; exact t7
  replace t27 : a5.tmps.getD 27 undef = .slice (some ⟨nb, no, none⟩) n c := by rw [e5, put_ne _ _ _ _ (by decide)]; exact t27
  have t28 : a5.tmps.getD 28 undef = .int .i64 (i : Int) := by rw [e5]; exact put_same _ _ _ (by omega)
  clear e5 z4
  refine wpAnyH_take (i := 5) (oi := { dst := some 29, op := Op.indexAddr 83 (Operand.tmp 27) (Operand.tmp 28), type := 0, pos := "ref.go:169", after := #[{ on := 3, ground := Ground.data }, { on := 4, ground := Ground.data }], guard := none }) (v := .pointer (some ⟨nb, no + i * 68, none⟩)) rfl (by kernel_rfl) (by kernel_rfl) (by kernel_rfl) (fun _ _ _ h => h) (Or.inl ⟨by rfl, fun w1 hw => exec_indexAt rfl t27 t28 (G2 _)⟩) hHeld ?_
  change wpAnyH _ _ _ _ _ _ _ (a5.put (some 29) (.pointer (some ⟨nb, no + i * 68, none⟩))) _
  obtain ⟨a6, e6⟩ : ∃ act, act = a5.put (some 29) (.pointer (some ⟨nb, no + i * 68, none⟩)) := ⟨_, rfl⟩
  rw [← e6] at h ⊢
  have z6 : a6.tmps.size = 40 := by rw [e6, put_size]; exact z5
  replace t0 : a6.tmps.getD 0 undef = .pointer (some ⟨d, 0, none⟩) := by rw [e6, put_ne _ _ _ _ (by decide)]; exact t0
  replace t4 : a6.tmps.getD 4 undef = .pointer (some ⟨rb, 0, none⟩) := by rw [e6, put_ne _ _ _ _ (by decide)]; exact t4
  replace t7 : a6.tmps.getD 7 undef = .int .i64 (i : Int) := by rw [e6, put_ne _ _ _ _ (by decide)]; exact t7
  clear t27
  clear t28
  have t29 : a6.tmps.getD 29 undef = .pointer (some ⟨nb, no + i * 68, none⟩) := by rw [e6]; exact put_same _ _ _ (by omega)
  clear e6 z5
  refine wpAnyH_take (i := 6) (oi := { dst := some 30, op := Op.fieldAddr 114 (Operand.tmp 29) 1, type := 0, pos := "ref.go:169", after := #[{ on := 5, ground := Ground.data }], guard := none }) (v := .pointer (some ⟨nb, no + i * 68 + 33, none⟩)) rfl (by kernel_rfl) (by kernel_rfl) (by kernel_rfl) (fun _ _ _ h => h) (Or.inl ⟨by rfl, fun w1 hw => exec_fieldAt rfl t29 (fg_114_1 _ _ _)⟩) hHeld ?_
  change wpAnyH _ _ _ _ _ _ _ (a6.put (some 30) (.pointer (some ⟨nb, no + i * 68 + 33, none⟩))) _
  obtain ⟨a7, e7⟩ : ∃ act, act = a6.put (some 30) (.pointer (some ⟨nb, no + i * 68 + 33, none⟩)) := ⟨_, rfl⟩
  rw [← e7] at h ⊢
  have z7 : a7.tmps.size = 40 := by rw [e7, put_size]; exact z6
  replace t0 : a7.tmps.getD 0 undef = .pointer (some ⟨d, 0, none⟩) := by rw [e7, put_ne _ _ _ _ (by decide)]; exact t0
  replace t4 : a7.tmps.getD 4 undef = .pointer (some ⟨rb, 0, none⟩) := by rw [e7, put_ne _ _ _ _ (by decide)]; exact t4
  replace t7 : a7.tmps.getD 7 undef = .int .i64 (i : Int) := by rw [e7, put_ne _ _ _ _ (by decide)]; exact t7
  clear t29
  have t30 : a7.tmps.getD 30 undef = .pointer (some ⟨nb, no + i * 68 + 33, none⟩) := by rw [e7]; exact put_same _ _ _ (by omega)
  clear e7 z6
  refine wpAnyH_take (i := 7) (oi := { dst := some 31, op := Op.load 37 (Operand.tmp 30), type := 37, pos := "ref.go:169", after := #[{ on := 6, ground := Ground.data }], guard := none }) (v := uv) rfl (by kernel_rfl) (by kernel_rfl) (by kernel_rfl) (fun _ _ _ h => h) (Or.inl ⟨by rfl, fun w1 hw => exec_load rfl t30 (G3 _ hw)⟩) hHeld ?_
  change wpAnyH _ _ _ _ _ _ _ (a7.put (some 31) (uv)) _
  obtain ⟨a8, e8⟩ : ∃ act, act = a7.put (some 31) (uv) := ⟨_, rfl⟩
  rw [← e8] at h ⊢
  have z8 : a8.tmps.size = 40 := by rw [e8, put_size]; exact z7
  replace t0 : a8.tmps.getD 0 undef = .pointer (some ⟨d, 0, none⟩) := by rw [e8, put_ne _ _ _ _ (by decide)]; exact t0
  replace t4 : a8.tmps.getD 4 undef = .pointer (some ⟨rb, 0, none⟩) := by rw [e8, put_ne _ _ _ _ (by decide)]; exact t4
  replace t7 : a8.tmps.getD 7 undef = .int .i64 (i : Int) := by rw [e8, put_ne _ _ _ _ (by decide)]; exact t7
  clear t30
  have t31 : a8.tmps.getD 31 undef = uv := by rw [e8]; exact put_same _ _ _ (by omega)
  clear e8 z7
  refine wpAnyH_take (i := 8) (oi := { dst := some 32, op := Op.move (Operand.tmp 0), type := 27, pos := "ref.go:169", after := #[{ on := 16, ground := Ground.gcOnly Departure.lateStores }], guard := none }) (v := .pointer (some ⟨d, 0, none⟩)) rfl (by kernel_rfl) (by kernel_rfl) (by kernel_rfl) (fun _ _ _ h => h) (Or.inl ⟨by rfl, fun w1 hw => exec_move rfl t0⟩) hHeld ?_
  change wpAnyH _ _ _ _ _ _ _ (a8.put (some 32) (.pointer (some ⟨d, 0, none⟩))) _
  obtain ⟨a9, e9⟩ : ∃ act, act = a8.put (some 32) (.pointer (some ⟨d, 0, none⟩)) := ⟨_, rfl⟩
  rw [← e9] at h ⊢
  have z9 : a9.tmps.size = 40 := by rw [e9, put_size]; exact z8
  clear t0
  replace t4 : a9.tmps.getD 4 undef = .pointer (some ⟨rb, 0, none⟩) := by rw [e9, put_ne _ _ _ _ (by decide)]; exact t4
  replace t7 : a9.tmps.getD 7 undef = .int .i64 (i : Int) := by rw [e9, put_ne _ _ _ _ (by decide)]; exact t7
  replace t31 : a9.tmps.getD 31 undef = uv := by rw [e9, put_ne _ _ _ _ (by decide)]; exact t31
  have t32 : a9.tmps.getD 32 undef = .pointer (some ⟨d, 0, none⟩) := by rw [e9]; exact put_same _ _ _ (by omega)
  clear e9 z8
  refine wpAnyH_take (i := 9) (oi := { dst := some 33, op := Op.nilCheck (Operand.tmp 32), type := 0, pos := "ref.go:169", after := #[{ on := 8, ground := Ground.data }, { on := 16, ground := Ground.gcOnly Departure.lateStores }], guard := none }) (v := .pointer (some ⟨d, 0, none⟩)) rfl (by kernel_rfl) (by kernel_rfl) (by kernel_rfl) (fun _ _ _ h => h) (Or.inl ⟨by rfl, fun w1 hw => exec_nilCheck rfl t32⟩) hHeld ?_
  change wpAnyH _ _ _ _ _ _ _ (a9.put (some 33) (.pointer (some ⟨d, 0, none⟩))) _
  obtain ⟨a10, e10⟩ : ∃ act, act = a9.put (some 33) (.pointer (some ⟨d, 0, none⟩)) := ⟨_, rfl⟩
  rw [← e10] at h ⊢
  have z10 : a10.tmps.size = 40 := by rw [e10, put_size]; exact z9
  replace t4 : a10.tmps.getD 4 undef = .pointer (some ⟨rb, 0, none⟩) := by rw [e10, put_ne _ _ _ _ (by decide)]; exact t4
  replace t7 : a10.tmps.getD 7 undef = .int .i64 (i : Int) := by rw [e10, put_ne _ _ _ _ (by decide)]; exact t7
  replace t31 : a10.tmps.getD 31 undef = uv := by rw [e10, put_ne _ _ _ _ (by decide)]; exact t31
  clear t32
  have t33 : a10.tmps.getD 33 undef = .pointer (some ⟨d, 0, none⟩) := by rw [e10]; exact put_same _ _ _ (by omega)
  clear e10 z9
  refine wpAnyH_take (i := 10) (oi := { dst := some 34, op := Op.fieldAddr 86 (Operand.tmp 33) 0, type := 0, pos := "ref.go:169", after := #[{ on := 9, ground := Ground.data }, { on := 16, ground := Ground.gcOnly Departure.lateStores }], guard := none }) (v := .pointer (some ⟨d, 0 + 0, none⟩)) rfl (by kernel_rfl) (by kernel_rfl) (by kernel_rfl) (fun _ _ _ h => h) (Or.inl ⟨by rfl, fun w1 hw => exec_fieldAt rfl t33 (fg_86_0 _ _ _)⟩) hHeld ?_
  change wpAnyH _ _ _ _ _ _ _ (a10.put (some 34) (.pointer (some ⟨d, 0 + 0, none⟩))) _
  obtain ⟨a11, e11⟩ : ∃ act, act = a10.put (some 34) (.pointer (some ⟨d, 0 + 0, none⟩)) := ⟨_, rfl⟩
  rw [← e11] at h ⊢
  have z11 : a11.tmps.size = 40 := by rw [e11, put_size]; exact z10
  replace t4 : a11.tmps.getD 4 undef = .pointer (some ⟨rb, 0, none⟩) := by rw [e11, put_ne _ _ _ _ (by decide)]; exact t4
  replace t7 : a11.tmps.getD 7 undef = .int .i64 (i : Int) := by rw [e11, put_ne _ _ _ _ (by decide)]; exact t7
  replace t31 : a11.tmps.getD 31 undef = uv := by rw [e11, put_ne _ _ _ _ (by decide)]; exact t31
  clear t33
  have t34 : a11.tmps.getD 34 undef = .pointer (some ⟨d, 0 + 0, none⟩) := by rw [e11]; exact put_same _ _ _ (by omega)
  clear e11 z10
  refine wpAnyH_take (i := 11) (oi := { dst := some 35, op := Op.load 83 (Operand.tmp 34), type := 83, pos := "ref.go:169", after := #[{ on := 10, ground := Ground.data }, { on := 16, ground := Ground.gcOnly Departure.lateStores }], guard := none }) (v := .slice (some ⟨nb, no, none⟩) n c) rfl (by kernel_rfl) (by kernel_rfl) (by kernel_rfl) (fun _ _ _ h => h) (Or.inl ⟨by rfl, fun w1 hw => exec_load rfl t34 (G1 _ hw)⟩) hHeld ?_
  change wpAnyH _ _ _ _ _ _ _ (a11.put (some 35) (.slice (some ⟨nb, no, none⟩) n c)) _
  obtain ⟨a12, e12⟩ : ∃ act, act = a11.put (some 35) (.slice (some ⟨nb, no, none⟩) n c) := ⟨_, rfl⟩
  rw [← e12] at h ⊢
  have z12 : a12.tmps.size = 40 := by rw [e12, put_size]; exact z11
  replace t4 : a12.tmps.getD 4 undef = .pointer (some ⟨rb, 0, none⟩) := by rw [e12, put_ne _ _ _ _ (by decide)]; exact t4
  replace t7 : a12.tmps.getD 7 undef = .int .i64 (i : Int) := by rw [e12, put_ne _ _ _ _ (by decide)]; exact t7
  replace t31 : a12.tmps.getD 31 undef = uv := by rw [e12, put_ne _ _ _ _ (by decide)]; exact t31
  clear t34
  have t35 : a12.tmps.getD 35 undef = .slice (some ⟨nb, no, none⟩) n c := by rw [e12]; exact put_same _ _ _ (by omega)
  clear e12 z11
  refine wpAnyH_take (i := 12) (oi := { dst := some 36, op := Op.move (Operand.tmp 7), type := 3, pos := "ref.go:169", after := #[{ on := 16, ground := Ground.gcOnly Departure.lateStores }], guard := none }) (v := .int .i64 (i : Int)) rfl (by kernel_rfl) (by kernel_rfl) (by kernel_rfl) (fun _ _ _ h => h) (Or.inl ⟨by rfl, fun w1 hw => exec_move rfl t7⟩) hHeld ?_
  change wpAnyH _ _ _ _ _ _ _ (a12.put (some 36) (.int .i64 (i : Int))) _
  obtain ⟨a13, e13⟩ : ∃ act, act = a12.put (some 36) (.int .i64 (i : Int)) := ⟨_, rfl⟩
  rw [← e13] at h ⊢
  have z13 : a13.tmps.size = 40 := by rw [e13, put_size]; exact z12
  replace t4 : a13.tmps.getD 4 undef = .pointer (some ⟨rb, 0, none⟩) := by rw [e13, put_ne _ _ _ _ (by decide)]; exact t4
  clear t7
  replace t31 : a13.tmps.getD 31 undef = uv := by rw [e13, put_ne _ _ _ _ (by decide)]; exact t31
  replace t35 : a13.tmps.getD 35 undef = .slice (some ⟨nb, no, none⟩) n c := by rw [e13, put_ne _ _ _ _ (by decide)]; exact t35
  have t36 : a13.tmps.getD 36 undef = .int .i64 (i : Int) := by rw [e13]; exact put_same _ _ _ (by omega)
  clear e13 z12
  refine wpAnyH_take (i := 13) (oi := { dst := some 37, op := Op.indexAddr 83 (Operand.tmp 35) (Operand.tmp 36), type := 0, pos := "ref.go:169", after := #[{ on := 11, ground := Ground.data }, { on := 12, ground := Ground.data }, { on := 16, ground := Ground.gcOnly Departure.lateStores }], guard := none }) (v := .pointer (some ⟨nb, no + i * 68, none⟩)) rfl (by kernel_rfl) (by kernel_rfl) (by kernel_rfl) (fun _ _ _ h => h) (Or.inl ⟨by rfl, fun w1 hw => exec_indexAt rfl t35 t36 (G2 _)⟩) hHeld ?_
  change wpAnyH _ _ _ _ _ _ _ (a13.put (some 37) (.pointer (some ⟨nb, no + i * 68, none⟩))) _
  obtain ⟨a14, e14⟩ : ∃ act, act = a13.put (some 37) (.pointer (some ⟨nb, no + i * 68, none⟩)) := ⟨_, rfl⟩
  rw [← e14] at h ⊢
  have z14 : a14.tmps.size = 40 := by rw [e14, put_size]; exact z13
  replace t4 : a14.tmps.getD 4 undef = .pointer (some ⟨rb, 0, none⟩) := by rw [e14, put_ne _ _ _ _ (by decide)]; exact t4
  replace t31 : a14.tmps.getD 31 undef = uv := by rw [e14, put_ne _ _ _ _ (by decide)]; exact t31
  clear t35
  clear t36
  have t37 : a14.tmps.getD 37 undef = .pointer (some ⟨nb, no + i * 68, none⟩) := by rw [e14]; exact put_same _ _ _ (by omega)
  clear e14 z13
  refine wpAnyH_take (i := 14) (oi := { dst := some 38, op := Op.fieldAddr 114 (Operand.tmp 37) 2, type := 0, pos := "ref.go:169", after := #[{ on := 13, ground := Ground.data }, { on := 16, ground := Ground.gcOnly Departure.lateStores }], guard := none }) (v := .pointer (some ⟨nb, no + i * 68 + 66, none⟩)) rfl (by kernel_rfl) (by kernel_rfl) (by kernel_rfl) (fun _ _ _ h => h) (Or.inl ⟨by rfl, fun w1 hw => exec_fieldAt rfl t37 (fg_114_2 _ _ _)⟩) hHeld ?_
  change wpAnyH _ _ _ _ _ _ _ (a14.put (some 38) (.pointer (some ⟨nb, no + i * 68 + 66, none⟩))) _
  obtain ⟨a15, e15⟩ : ∃ act, act = a14.put (some 38) (.pointer (some ⟨nb, no + i * 68 + 66, none⟩)) := ⟨_, rfl⟩
  rw [← e15] at h ⊢
  have z15 : a15.tmps.size = 40 := by rw [e15, put_size]; exact z14
  replace t4 : a15.tmps.getD 4 undef = .pointer (some ⟨rb, 0, none⟩) := by rw [e15, put_ne _ _ _ _ (by decide)]; exact t4
  replace t31 : a15.tmps.getD 31 undef = uv := by rw [e15, put_ne _ _ _ _ (by decide)]; exact t31
  clear t37
  have t38 : a15.tmps.getD 38 undef = .pointer (some ⟨nb, no + i * 68 + 66, none⟩) := by rw [e15]; exact put_same _ _ _ (by omega)
  clear e15 z14
  refine wpAnyH_take (i := 15) (oi := { dst := some 39, op := Op.load 9 (Operand.tmp 38), type := 9, pos := "ref.go:169", after := #[{ on := 14, ground := Ground.data }, { on := 16, ground := Ground.gcOnly Departure.lateStores }], guard := none }) (v := .string ks) rfl (by kernel_rfl) (by kernel_rfl) (by kernel_rfl) (fun _ _ _ h => h) (Or.inl ⟨by rfl, fun w1 hw => exec_load rfl t38 (G4 _ hw)⟩) hHeld ?_
  change wpAnyH _ _ _ _ _ _ _ (a15.put (some 39) (.string ks)) _
  obtain ⟨a16, e16⟩ : ∃ act, act = a15.put (some 39) (.string ks) := ⟨_, rfl⟩
  rw [← e16] at h ⊢
  have z16 : a16.tmps.size = 40 := by rw [e16, put_size]; exact z15
  replace t4 : a16.tmps.getD 4 undef = .pointer (some ⟨rb, 0, none⟩) := by rw [e16, put_ne _ _ _ _ (by decide)]; exact t4
  replace t31 : a16.tmps.getD 31 undef = uv := by rw [e16, put_ne _ _ _ _ (by decide)]; exact t31
  clear t38
  have t39 : a16.tmps.getD 39 undef = .string ks := by rw [e16]; exact put_same _ _ _ (by omega)
  clear e16 z15
  refine wpAnyH_ready (rs := [16]) (by kernel_rfl) (by simp) ?_
  refine AllReadyH.cons (o := { dst := none, op := Op.store 37 (Operand.tmp 4) (Operand.tmp 31), type := 0, pos := "ref.go:169", after := #[{ on := 7, ground := Ground.data }, { on := 0, ground := Ground.phase }, { on := 1, ground := Ground.phase }, { on := 2, ground := Ground.phase }, { on := 3, ground := Ground.phase }, { on := 4, ground := Ground.phase }, { on := 5, ground := Ground.phase }, { on := 6, ground := Ground.phase }, { on := 7, ground := Ground.phase }, { on := 8, ground := Ground.textOnly Departure.lateStores }, { on := 9, ground := Ground.textOnly Departure.lateStores }, { on := 10, ground := Ground.textOnly Departure.lateStores }, { on := 11, ground := Ground.textOnly Departure.lateStores }, { on := 12, ground := Ground.textOnly Departure.lateStores }, { on := 13, ground := Ground.textOnly Departure.lateStores }, { on := 14, ground := Ground.textOnly Departure.lateStores }, { on := 15, ground := Ground.textOnly Departure.lateStores }], guard := none }) rfl (fun K hK => ?_) AllReadyH.nil
  skip
  have X := exec_store (P := Try.prog) (a := a16) (o := { dst := none, op := Op.store 37 (Operand.tmp 4) (Operand.tmp 31), type := 0, pos := "ref.go:169", after := #[{ on := 7, ground := Ground.data }, { on := 0, ground := Ground.phase }, { on := 1, ground := Ground.phase }, { on := 2, ground := Ground.phase }, { on := 3, ground := Ground.phase }, { on := 4, ground := Ground.phase }, { on := 5, ground := Ground.phase }, { on := 6, ground := Ground.phase }, { on := 7, ground := Ground.phase }, { on := 8, ground := Ground.textOnly Departure.lateStores }, { on := 9, ground := Ground.textOnly Departure.lateStores }, { on := 10, ground := Ground.textOnly Departure.lateStores }, { on := 11, ground := Ground.textOnly Departure.lateStores }, { on := 12, ground := Ground.textOnly Departure.lateStores }, { on := 13, ground := Ground.textOnly Departure.lateStores }, { on := 14, ground := Ground.textOnly Departure.lateStores }, { on := 15, ground := Ground.textOnly Departure.lateStores }], guard := none }) rfl t4 t31 HST
  rw [if_pos (by rfl), Oper.wp, X]
  show K _ _
  clear X
  refine hK.out _ _ (S2) (fun hHeld => ?_)
  clear hK K
  refine wpAnyH_take (i := 17) (oi := { dst := some 5, op := Op.assign (Operand.tmp 39), type := 9, pos := "ref.go:169", after := #[{ on := 15, ground := Ground.data }, { on := 16, ground := Ground.chain }, { on := 0, ground := Ground.phase }, { on := 1, ground := Ground.phase }, { on := 2, ground := Ground.phase }, { on := 3, ground := Ground.phase }, { on := 4, ground := Ground.phase }, { on := 5, ground := Ground.phase }, { on := 6, ground := Ground.phase }, { on := 7, ground := Ground.phase }, { on := 8, ground := Ground.phase }, { on := 9, ground := Ground.phase }, { on := 10, ground := Ground.phase }, { on := 11, ground := Ground.phase }, { on := 12, ground := Ground.phase }, { on := 13, ground := Ground.phase }, { on := 14, ground := Ground.phase }, { on := 15, ground := Ground.phase }, { on := 16, ground := Ground.phase }], guard := none }) (v := .string ks) rfl (by kernel_rfl) (by kernel_rfl) (by kernel_rfl) (fun _ _ _ h => h) (Or.inl ⟨by rfl, fun w1 hw => exec_assign rfl t39⟩) hHeld ?_
  change wpAnyH _ _ _ _ _ _ _ (a16.put (some 5) (.string ks)) _
  obtain ⟨a18, e18⟩ : ∃ act, act = a16.put (some 5) (.string ks) := ⟨_, rfl⟩
  rw [← e18] at h ⊢
  have z18 : a18.tmps.size = 40 := by rw [e18, put_size]; exact z16
  clear t4
  clear t31
  clear t39
  clear e18 z16
  refine wpAnyH_take (i := 18) (oi := { dst := some 6, op := Op.assign (Operand.const (Value.bool true)), type := 4, pos := "ref.go:169", after := #[{ on := 17, ground := Ground.chain }, { on := 0, ground := Ground.phase }, { on := 1, ground := Ground.phase }, { on := 2, ground := Ground.phase }, { on := 3, ground := Ground.phase }, { on := 4, ground := Ground.phase }, { on := 5, ground := Ground.phase }, { on := 6, ground := Ground.phase }, { on := 7, ground := Ground.phase }, { on := 8, ground := Ground.phase }, { on := 9, ground := Ground.phase }, { on := 10, ground := Ground.phase }, { on := 11, ground := Ground.phase }, { on := 12, ground := Ground.phase }, { on := 13, ground := Ground.phase }, { on := 14, ground := Ground.phase }, { on := 15, ground := Ground.phase }, { on := 16, ground := Ground.phase }, { on := 17, ground := Ground.phase }], guard := none }) (v := .bool true) rfl (by kernel_rfl) (by kernel_rfl) (by kernel_rfl) (fun _ _ _ h => h) (Or.inl ⟨by rfl, fun w1 hw => exec_assign rfl rfl⟩) hHeld ?_
  change wpAnyH _ _ _ _ _ _ _ (a18.put (some 6) (.bool true)) _
  obtain ⟨a19, e19⟩ : ∃ act, act = a18.put (some 6) (.bool true) := ⟨_, rfl⟩
  rw [← e19] at h ⊢
  have z19 : a19.tmps.size = 40 := by rw [e19, put_size]; exact z18
  clear e19 z18
  exact wpAnyH_done (by kernel_rfl) (NoPanic.normal (h _ _ (rfl) rfl)) _
end Go.Proofs.Ytoofljkgdjjllaa

namespace Go.Proofs.Ytoofljkgdjjllaa
open Go.RowKit
set_option linter.unusedVariables false
set_option linter.unusedSimpArgs false

def named5_ops : Array Oper := #[{ dst := some 13, op := Op.move (Operand.tmp 3), type := 41, pos := "law.go:117", after := #[], guard := none }, { dst := some 14, op := Op.move (Operand.tmp 0), type := 23, pos := "law.go:117", after := #[], guard := none }, { dst := some 15, op := Op.move (Operand.tmp 4), type := 3, pos := "law.go:117", after := #[], guard := none }, { dst := some 16, op := Op.indexAddr 23 (Operand.tmp 14) (Operand.tmp 15), type := 0, pos := "law.go:117", after := #[{ on := 1, ground := Ground.data }, { on := 2, ground := Ground.data }], guard := none }, { dst := some 17, op := Op.fieldAddr 39 (Operand.tmp 16) 1, type := 0, pos := "law.go:117", after := #[{ on := 3, ground := Ground.data }], guard := none }, { dst := some 18, op := Op.load 37 (Operand.tmp 17), type := 37, pos := "law.go:117", after := #[{ on := 4, ground := Ground.data }], guard := none }, { dst := some 19, op := Op.move (Operand.tmp 0), type := 23, pos := "law.go:117", after := #[], guard := none }, { dst := some 20, op := Op.move (Operand.tmp 4), type := 3, pos := "law.go:117", after := #[], guard := none }, { dst := some 21, op := Op.indexAddr 23 (Operand.tmp 19) (Operand.tmp 20), type := 0, pos := "law.go:117", after := #[{ on := 6, ground := Ground.data }, { on := 7, ground := Ground.data }], guard := none }, { dst := some 22, op := Op.fieldAddr 39 (Operand.tmp 21) 2, type := 0, pos := "law.go:117", after := #[{ on := 8, ground := Ground.data }], guard := none }, { dst := some 23, op := Op.load 37 (Operand.tmp 22), type := 37, pos := "law.go:117", after := #[{ on := 9, ground := Ground.data }], guard := none }, { dst := some 24, op := Op.buildSlice 41 2 #[(0, Operand.tmp 18), (1, Operand.tmp 23)], type := 41, pos := "law.go:117", after := #[{ on := 5, ground := Ground.data }, { on := 10, ground := Ground.data }], guard := none }, { dst := some 25, op := Op.call { callee := Callee.builtin Builtin.append, args := #[Operand.tmp 13, Operand.tmp 24], argTypes := #[41, 41] }, type := 41, pos := "law.go:117", after := #[{ on := 0, ground := Ground.data }, { on := 11, ground := Ground.data }], guard := none }, { dst := some 3, op := Op.assign (Operand.tmp 25), type := 41, pos := "law.go:117", after := #[{ on := 12, ground := Ground.data }, { on := 12, ground := Ground.chain }, { on := 0, ground := Ground.phase }, { on := 1, ground := Ground.phase }, { on := 2, ground := Ground.phase }, { on := 3, ground := Ground.phase }, { on := 4, ground := Ground.phase }, { on := 5, ground := Ground.phase }, { on := 6, ground := Ground.phase }, { on := 7, ground := Ground.phase }, { on := 8, ground := Ground.phase }, { on := 9, ground := Ground.phase }, { on := 10, ground := Ground.phase }, { on := 11, ground := Ground.phase }, { on := 12, ground := Ground.phase }], guard := none }]
set_option maxRecDepth 100000 in
set_option maxHeartbeats 4000000 in
theorem named5 (b o n c i : Nat) (uv av bv lv rv : Value) (w1 w2 : World) (S : World → Prop) (a : Act) (w : World) (Q : Exit → Act → World → Prop) (hsz : a.tmps.size = 27)
    (t0 : a.tmps.getD 0 undef = .slice (some ⟨b, o, none⟩) n c)
    (t3 : a.tmps.getD 3 undef = uv)
    (t4 : a.tmps.getD 4 undef = .int .i64 (i : Int))
    (h0 : S w.drew) (S1 : S w1) (S2 : S w2) (EB : (Instr.buildSlice 41 2 #[(0, av), (1, bv)]).run Try.prog w.drew = .ok lv w1) (EA : (Builtin.append_ #[41, 41] 41 #[uv, lv]).run Try.prog w1 = .ok rv w2)
    (G1 : ∀ W, (Instr.indexAt 23 (.slice (some ⟨b, o, none⟩) n c) (.int .i64 (i : Int))).run Try.prog W = .ok (.pointer (some ⟨b, o + i * 69, none⟩)) W)
    (G2 : ∀ W, S W → (Instr.loadAt 37 (.pointer (some ⟨b, o + i * 69 + 1, none⟩))).run Try.prog W = .ok (av) W)
    (G3 : ∀ W, S W → (Instr.loadAt 37 (.pointer (some ⟨b, o + i * 69 + 34, none⟩))).run Try.prog W = .ok (bv) W)
    (h : ∀ (a' : Act) (w' : World), w' = w2 → a' = ((((((((((((((a).put (some 13) (uv)).put (some 14) (.slice (some ⟨b, o, none⟩) n c)).put (some 15) (.int .i64 (i : Int))).put (some 16) (.pointer (some ⟨b, o + i * 69, none⟩))).put (some 17) (.pointer (some ⟨b, o + i * 69 + 1, none⟩))).put (some 18) (av)).put (some 19) (.slice (some ⟨b, o, none⟩) n c)).put (some 20) (.int .i64 (i : Int))).put (some 21) (.pointer (some ⟨b, o + i * 69, none⟩))).put (some 22) (.pointer (some ⟨b, o + i * 69 + 34, none⟩))).put (some 23) (bv)).put (some 24) (lv)).put (some 25) (rv)).put (some 3) (rv) → Q .normal a' w') :
    (Code.region 5 named5_ops true).wp Try.prog Q a w := by
  refine wp_region_noPanic ?_
  refine wp_region_held_drew (S := fun w' => S w') (by kernel_rfl) (h0) (fun hHeld => ?_)
  refine wpAnyH_take (i := 0) (oi := { dst := some 13, op := Op.move (Operand.tmp 3), type := 41, pos := "law.go:117", after := #[], guard := none }) (v := uv) rfl (by kernel_rfl) (by kernel_rfl) (by kernel_rfl) (fun _ _ _ h => h) (Or.inl ⟨by rfl, fun w1 hw => exec_move rfl t3⟩) hHeld ?_
  change wpAnyH _ _ _ _ _ _ _ (a.put (some 13) (uv)) _
  obtain ⟨a1, e1⟩ : ∃ act, act = a.put (some 13) (uv) := ⟨_, rfl⟩
  rw [← e1] at h ⊢
  have z1 : a1.tmps.size = 27 := by rw [e1, put_size]; exact hsz
  replace t0 : a1.tmps.getD 0 undef = .slice (some ⟨b, o, none⟩) n c := by rw [e1, put_ne _ _ _ _ (by decide)]; exact t0
  clear t3
  replace t4 : a1.tmps.getD 4 undef = .int .i64 (i : Int) := by rw [e1, put_ne _ _ _ _ (by decide)]; exact t4
  have t13 : a1.tmps.getD 13 undef = uv := by rw [e1]; exact put_same _ _ _ (by omega)
  clear e1 hsz
  refine wpAnyH_take (i := 1) (oi := { dst := some 14, op := Op.move (Operand.tmp 0), type := 23, pos := "law.go:117", after := #[], guard := none }) (v := .slice (some ⟨b, o, none⟩) n c) rfl (by kernel_rfl) (by kernel_rfl) (by kernel_rfl) (fun _ _ _ h => h) (Or.inl ⟨by rfl, fun w1 hw => exec_move rfl t0⟩) hHeld ?_
  change wpAnyH _ _ _ _ _ _ _ (a1.put (some 14) (.slice (some ⟨b, o, none⟩) n c)) _
  obtain ⟨a2, e2⟩ : ∃ act, act = a1.put (some 14) (.slice (some ⟨b, o, none⟩) n c) := ⟨_, rfl⟩
  rw [← e2] at h ⊢
  have z2 : a2.tmps.size = 27 := by rw [e2, put_size]; exact z1
  replace t0 : a2.tmps.getD 0 undef = .slice (some ⟨b, o, none⟩) n c := by rw [e2, put_ne _ _ _ _ (by decide)]; exact t0
  replace t4 : a2.tmps.getD 4 undef = .int .i64 (i : Int) := by rw [e2, put_ne _ _ _ _ (by decide)]; exact t4
  replace t13 : a2.tmps.getD 13 undef = uv := by rw [e2, put_ne _ _ _ _ (by decide)]; exact t13
  have t14 : a2.tmps.getD 14 undef = .slice (some ⟨b, o, none⟩) n c := by rw [e2]; exact put_same _ _ _ (by omega)
  clear e2 z1
  refine wpAnyH_take (i := 2) (oi := { dst := some 15, op := Op.move (Operand.tmp 4), type := 3, pos := "law.go:117", after := #[], guard := none }) (v := .int .i64 (i : Int)) rfl (by kernel_rfl) (by kernel_rfl) (by kernel_rfl) (fun _ _ _ h => h) (Or.inl ⟨by rfl, fun w1 hw => exec_move rfl t4⟩) hHeld ?_
  change wpAnyH _ _ _ _ _ _ _ (a2.put (some 15) (.int .i64 (i : Int))) _
  obtain ⟨a3, e3⟩ : ∃ act, act = a2.put (some 15) (.int .i64 (i : Int)) := ⟨_, rfl⟩
  rw [← e3] at h ⊢
  have z3 : a3.tmps.size = 27 := by rw [e3, put_size]; exact z2
  replace t0 : a3.tmps.getD 0 undef = .slice (some ⟨b, o, none⟩) n c := by rw [e3, put_ne _ _ _ _ (by decide)]; exact t0
  replace t4 : a3.tmps.getD 4 undef = .int .i64 (i : Int) := by rw [e3, put_ne _ _ _ _ (by decide)]; exact t4
  replace t13 : a3.tmps.getD 13 undef = uv := by rw [e3, put_ne _ _ _ _ (by decide)]; exact t13
  replace t14 : a3.tmps.getD 14 undef = .slice (some ⟨b, o, none⟩) n c := by rw [e3, put_ne _ _ _ _ (by decide)]; exact t14
  have t15 : a3.tmps.getD 15 undef = .int .i64 (i : Int) := by rw [e3]; exact put_same _ _ _ (by omega)
  clear e3 z2
  refine wpAnyH_take (i := 3) (oi := { dst := some 16, op := Op.indexAddr 23 (Operand.tmp 14) (Operand.tmp 15), type := 0, pos := "law.go:117", after := #[{ on := 1, ground := Ground.data }, { on := 2, ground := Ground.data }], guard := none }) (v := .pointer (some ⟨b, o + i * 69, none⟩)) rfl (by kernel_rfl) (by kernel_rfl) (by kernel_rfl) (fun _ _ _ h => h) (Or.inl ⟨by rfl, fun w1 hw => exec_indexAt rfl t14 t15 (G1 _)⟩) hHeld ?_
  change wpAnyH _ _ _ _ _ _ _ (a3.put (some 16) (.pointer (some ⟨b, o + i * 69, none⟩))) _
  obtain ⟨a4, e4⟩ : ∃ act, act = a3.put (some 16) (.pointer (some ⟨b, o + i * 69, none⟩)) := ⟨_, rfl⟩
  rw [← e4] at h ⊢
  have z4 : a4.tmps.size = 27 := by rw [e4, put_size]; exact z3
  replace t0 : a4.tmps.getD 0 undef = .slice (some ⟨b, o, none⟩) n c := by rw [e4, put_ne _ _ _ _ (by decide)]; exact t0
  replace t4 : a4.tmps.getD 4 undef = .int .i64 (i : Int) := by rw [e4, put_ne _ _ _ _ (by decide)]; exact t4
  replace t13 : a4.tmps.getD 13 undef = uv := by rw [e4, put_ne _ _ _ _ (by decide)]; exact t13
  clear t14
  clear t15
  have t16 : a4.tmps.getD 16 undef = .pointer (some ⟨b, o + i * 69, none⟩) := by rw [e4]; exact put_same _ _ _ (by omega)
  clear e4 z3
  refine wpAnyH_take (i := 4) (oi := { dst := some 17, op := Op.fieldAddr 39 (Operand.tmp 16) 1, type := 0, pos := "law.go:117", after := #[{ on := 3, ground := Ground.data }], guard := none }) (v := .pointer (some ⟨b, o + i * 69 + 1, none⟩)) rfl (by kernel_rfl) (by kernel_rfl) (by kernel_rfl) (fun _ _ _ h => h) (Or.inl ⟨by rfl, fun w1 hw => exec_fieldAt rfl t16 (fg_39_1 _ _ _)⟩) hHeld ?_
  change wpAnyH _ _ _ _ _ _ _ (a4.put (some 17) (.pointer (some ⟨b, o + i * 69 + 1, none⟩))) _
  obtain ⟨a5, e5⟩ : ∃ act, act = a4.put (some 17) (.pointer (some ⟨b, o + i * 69 + 1, none⟩)) := ⟨_, rfl⟩
  rw [← e5] at h ⊢
  have z5 : a5.tmps.size = 27 := by rw [e5, put_size]; exact z4
  replace t0 : a5.tmps.getD 0 undef = .slice (some ⟨b, o, none⟩) n c := by rw [e5, put_ne _ _ _ _ (by decide)]; exact t0
  replace t4 : a5.tmps.getD 4 undef = .int .i64 (i : Int) := by rw [e5, put_ne _ _ _ _ (by decide)]; exact t4
  replace t13 : a5.tmps.getD 13 undef = uv := by rw [e5, put_ne _ _ _ _ (by decide)]; exact t13
  clear t16
  have t17 : a5.tmps.getD 17 undef = .pointer (some ⟨b, o + i * 69 + 1, none⟩) := by rw [e5]; exact put_same _ _ _ (by omega)
  clear e5 z4
  refine wpAnyH_take (i := 5) (oi := { dst := some 18, op := Op.load 37 (Operand.tmp 17), type := 37, pos := "law.go:117", after := #[{ on := 4, ground := Ground.data }], guard := none }) (v := av) rfl (by kernel_rfl) (by kernel_rfl) (by kernel_rfl) (fun _ _ _ h => h) (Or.inl ⟨by rfl, fun w1 hw => exec_load rfl t17 (G2 _ hw)⟩) hHeld ?_
  change wpAnyH _ _ _ _ _ _ _ (a5.put (some 18) (av)) _
  obtain ⟨a6, e6⟩ : ∃ act, act = a5.put (some 18) (av) := ⟨_, rfl⟩
  rw [← e6] at h ⊢
  have z6 : a6.tmps.size = 27 := by rw [e6, put_size]; exact z5
  replace t0 : a6.tmps.getD 0 undef = .slice (some ⟨b, o, none⟩) n c := by rw [e6, put_ne _ _ _ _ (by decide)]; exact t0
  replace t4 : a6.tmps.getD 4 undef = .int .i64 (i : Int) := by rw [e6, put_ne _ _ _ _ (by decide)]; exact t4
  replace t13 : a6.tmps.getD 13 undef = uv := by rw [e6, put_ne _ _ _ _ (by decide)]; exact t13
  clear t17
  have t18 : a6.tmps.getD 18 undef = av := by rw [e6]; exact put_same _ _ _ (by omega)
  clear e6 z5
  refine wpAnyH_take (i := 6) (oi := { dst := some 19, op := Op.move (Operand.tmp 0), type := 23, pos := "law.go:117", after := #[], guard := none }) (v := .slice (some ⟨b, o, none⟩) n c) rfl (by kernel_rfl) (by kernel_rfl) (by kernel_rfl) (fun _ _ _ h => h) (Or.inl ⟨by rfl, fun w1 hw => exec_move rfl t0⟩) hHeld ?_
  change wpAnyH _ _ _ _ _ _ _ (a6.put (some 19) (.slice (some ⟨b, o, none⟩) n c)) _
  obtain ⟨a7, e7⟩ : ∃ act, act = a6.put (some 19) (.slice (some ⟨b, o, none⟩) n c) := ⟨_, rfl⟩
  rw [← e7] at h ⊢
  have z7 : a7.tmps.size = 27 := by rw [e7, put_size]; exact z6
  clear t0
  replace t4 : a7.tmps.getD 4 undef = .int .i64 (i : Int) := by rw [e7, put_ne _ _ _ _ (by decide)]; exact t4
  replace t13 : a7.tmps.getD 13 undef = uv := by rw [e7, put_ne _ _ _ _ (by decide)]; exact t13
  replace t18 : a7.tmps.getD 18 undef = av := by rw [e7, put_ne _ _ _ _ (by decide)]; exact t18
  have t19 : a7.tmps.getD 19 undef = .slice (some ⟨b, o, none⟩) n c := by rw [e7]; exact put_same _ _ _ (by omega)
  clear e7 z6
  refine wpAnyH_take (i := 7) (oi := { dst := some 20, op := Op.move (Operand.tmp 4), type := 3, pos := "law.go:117", after := #[], guard := none }) (v := .int .i64 (i : Int)) rfl (by kernel_rfl) (by kernel_rfl) (by kernel_rfl) (fun _ _ _ h => h) (Or.inl ⟨by rfl, fun w1 hw => exec_move rfl t4⟩) hHeld ?_
  change wpAnyH _ _ _ _ _ _ _ (a7.put (some 20) (.int .i64 (i : Int))) _
  obtain ⟨a8, e8⟩ : ∃ act, act = a7.put (some 20) (.int .i64 (i : Int)) := ⟨_, rfl⟩
  rw [← e8] at h ⊢
  have z8 : a8.tmps.size = 27 := by rw [e8, put_size]; exact z7
  clear t4
  replace t13 : a8.tmps.getD 13 undef = uv := by rw [e8, put_ne _ _ _ _ (by decide)]; exact t13
  replace t18 : a8.tmps.getD 18 undef = av := by rw [e8, put_ne _ _ _ _ (by decide)]; exact t18
  replace t19 : a8.tmps.getD 19 undef = .slice (some ⟨b, o, none⟩) n c := by rw [e8, put_ne _ _ _ _ (by decide)]; exact t19
  have t20 : a8.tmps.getD 20 undef = .int .i64 (i : Int) := by rw [e8]; exact put_same _ _ _ (by omega)
  clear e8 z7
  refine wpAnyH_take (i := 8) (oi := { dst := some 21, op := Op.indexAddr 23 (Operand.tmp 19) (Operand.tmp 20), type := 0, pos := "law.go:117", after := #[{ on := 6, ground := Ground.data }, { on := 7, ground := Ground.data }], guard := none }) (v := .pointer (some ⟨b, o + i * 69, none⟩)) rfl (by kernel_rfl) (by kernel_rfl) (by kernel_rfl) (fun _ _ _ h => h) (Or.inl ⟨by rfl, fun w1 hw => exec_indexAt rfl t19 t20 (G1 _)⟩) hHeld ?_
  change wpAnyH _ _ _ _ _ _ _ (a8.put (some 21) (.pointer (some ⟨b, o + i * 69, none⟩))) _
  obtain ⟨a9, e9⟩ : ∃ act, act = a8.put (some 21) (.pointer (some ⟨b, o + i * 69, none⟩)) := ⟨_, rfl⟩
  rw [← e9] at h ⊢
  have z9 : a9.tmps.size = 27 := by rw [e9, put_size]; exact z8
  replace t13 : a9.tmps.getD 13 undef = uv := by rw [e9, put_ne _ _ _ _ (by decide)]; exact t13
  replace t18 : a9.tmps.getD 18 undef = av := by rw [e9, put_ne _ _ _ _ (by decide)]; exact t18
  clear t19
  clear t20
  have t21 : a9.tmps.getD 21 undef = .pointer (some ⟨b, o + i * 69, none⟩) := by rw [e9]; exact put_same _ _ _ (by omega)
  clear e9 z8
  refine wpAnyH_take (i := 9) (oi := { dst := some 22, op := Op.fieldAddr 39 (Operand.tmp 21) 2, type := 0, pos := "law.go:117", after := #[{ on := 8, ground := Ground.data }], guard := none }) (v := .pointer (some ⟨b, o + i * 69 + 34, none⟩)) rfl (by kernel_rfl) (by kernel_rfl) (by kernel_rfl) (fun _ _ _ h => h) (Or.inl ⟨by rfl, fun w1 hw => exec_fieldAt rfl t21 (fg_39_2 _ _ _)⟩) hHeld ?_
  change wpAnyH _ _ _ _ _ _ _ (a9.put (some 22) (.pointer (some ⟨b, o + i * 69 + 34, none⟩))) _
  obtain ⟨a10, e10⟩ : ∃ act, act = a9.put (some 22) (.pointer (some ⟨b, o + i * 69 + 34, none⟩)) := ⟨_, rfl⟩
  rw [← e10] at h ⊢
  have z10 : a10.tmps.size = 27 := by rw [e10, put_size]; exact z9
  replace t13 : a10.tmps.getD 13 undef = uv := by rw [e10, put_ne _ _ _ _ (by decide)]; exact t13
  replace t18 : a10.tmps.getD 18 undef = av := by rw [e10, put_ne _ _ _ _ (by decide)]; exact t18
  clear t21
  have t22 : a10.tmps.getD 22 undef = .pointer (some ⟨b, o + i * 69 + 34, none⟩) := by rw [e10]; exact put_same _ _ _ (by omega)
  clear e10 z9
  refine wpAnyH_take (i := 10) (oi := { dst := some 23, op := Op.load 37 (Operand.tmp 22), type := 37, pos := "law.go:117", after := #[{ on := 9, ground := Ground.data }], guard := none }) (v := bv) rfl (by kernel_rfl) (by kernel_rfl) (by kernel_rfl) (fun _ _ _ h => h) (Or.inl ⟨by rfl, fun w1 hw => exec_load rfl t22 (G3 _ hw)⟩) hHeld ?_
  change wpAnyH _ _ _ _ _ _ _ (a10.put (some 23) (bv)) _
  obtain ⟨a11, e11⟩ : ∃ act, act = a10.put (some 23) (bv) := ⟨_, rfl⟩
  rw [← e11] at h ⊢
  have z11 : a11.tmps.size = 27 := by rw [e11, put_size]; exact z10
  replace t13 : a11.tmps.getD 13 undef = uv := by rw [e11, put_ne _ _ _ _ (by decide)]; exact t13
  replace t18 : a11.tmps.getD 18 undef = av := by rw [e11, put_ne _ _ _ _ (by decide)]; exact t18
  clear t22
  have t23 : a11.tmps.getD 23 undef = bv := by rw [e11]; exact put_same _ _ _ (by omega)
  clear e11 z10
  refine wpAnyH_ready (rs := [11]) (by kernel_rfl) (by simp) ?_
  refine AllReadyH.cons (o := { dst := some 24, op := Op.buildSlice 41 2 #[(0, Operand.tmp 18), (1, Operand.tmp 23)], type := 41, pos := "law.go:117", after := #[{ on := 5, ground := Ground.data }, { on := 10, ground := Ground.data }], guard := none }) rfl (fun K hK => ?_) AllReadyH.nil
  skip
  have X := exec_buildSlice2 (P := Try.prog) (a := a11) (o := { dst := some 24, op := Op.buildSlice 41 2 #[(0, Operand.tmp 18), (1, Operand.tmp 23)], type := 41, pos := "law.go:117", after := #[{ on := 5, ground := Ground.data }, { on := 10, ground := Ground.data }], guard := none }) rfl t18 t23 EB
  rw [if_pos (by rfl), Oper.wp, X]
  show K _ _
  clear X
  refine hK.out _ _ (S1) (fun hHeld => ?_)
  clear hK K
  change wpAnyH _ _ _ _ _ _ _ (a11.put (some 24) (lv)) _
  obtain ⟨a12, e12⟩ : ∃ act, act = a11.put (some 24) (lv) := ⟨_, rfl⟩
  rw [← e12] at h ⊢
  have z12 : a12.tmps.size = 27 := by rw [e12, put_size]; exact z11
  replace t13 : a12.tmps.getD 13 undef = uv := by rw [e12, put_ne _ _ _ _ (by decide)]; exact t13
  clear t18
  clear t23
  have t24 : a12.tmps.getD 24 undef = lv := by rw [e12]; exact put_same _ _ _ (by omega)
  clear e12 z11
  refine wpAnyH_ready (rs := [12]) (by kernel_rfl) (by simp) ?_
  refine AllReadyH.cons (o := { dst := some 25, op := Op.call { callee := Callee.builtin Builtin.append, args := #[Operand.tmp 13, Operand.tmp 24], argTypes := #[41, 41] }, type := 41, pos := "law.go:117", after := #[{ on := 0, ground := Ground.data }, { on := 11, ground := Ground.data }], guard := none }) rfl (fun K hK => ?_) AllReadyH.nil
  skip
  have X := exec_append (P := Try.prog) (a := a12) (o := { dst := some 25, op := Op.call { callee := Callee.builtin Builtin.append, args := #[Operand.tmp 13, Operand.tmp 24], argTypes := #[41, 41] }, type := 41, pos := "law.go:117", after := #[{ on := 0, ground := Ground.data }, { on := 11, ground := Ground.data }], guard := none }) rfl t13 t24 EA
  rw [if_pos (by rfl), Oper.wp, X]
  show K _ _
  clear X
  refine hK.out _ _ (S2) (fun hHeld => ?_)
  clear hK K
  change wpAnyH _ _ _ _ _ _ _ (a12.put (some 25) (rv)) _
  obtain ⟨a13, e13⟩ : ∃ act, act = a12.put (some 25) (rv) := ⟨_, rfl⟩
  rw [← e13] at h ⊢
  have z13 : a13.tmps.size = 27 := by rw [e13, put_size]; exact z12
  clear t13
  clear t24
  have t25 : a13.tmps.getD 25 undef = rv := by rw [e13]; exact put_same _ _ _ (by omega)
  clear e13 z12
  refine wpAnyH_take (i := 13) (oi := { dst := some 3, op := Op.assign (Operand.tmp 25), type := 41, pos := "law.go:117", after := #[{ on := 12, ground := Ground.data }, { on := 12, ground := Ground.chain }, { on := 0, ground := Ground.phase }, { on := 1, ground := Ground.phase }, { on := 2, ground := Ground.phase }, { on := 3, ground := Ground.phase }, { on := 4, ground := Ground.phase }, { on := 5, ground := Ground.phase }, { on := 6, ground := Ground.phase }, { on := 7, ground := Ground.phase }, { on := 8, ground := Ground.phase }, { on := 9, ground := Ground.phase }, { on := 10, ground := Ground.phase }, { on := 11, ground := Ground.phase }, { on := 12, ground := Ground.phase }], guard := none }) (v := rv) rfl (by kernel_rfl) (by kernel_rfl) (by kernel_rfl) (fun _ _ _ h => h) (Or.inl ⟨by rfl, fun w1 hw => exec_assign rfl t25⟩) hHeld ?_
  change wpAnyH _ _ _ _ _ _ _ (a13.put (some 3) (rv)) _
  obtain ⟨a14, e14⟩ : ∃ act, act = a13.put (some 3) (rv) := ⟨_, rfl⟩
  rw [← e14] at h ⊢
  have z14 : a14.tmps.size = 27 := by rw [e14, put_size]; exact z13
  clear t25
  clear e14 z13
  exact wpAnyH_done (by kernel_rfl) (NoPanic.normal (h _ _ (rfl) rfl)) _
end Go.Proofs.Ytoofljkgdjjllaa

namespace Go.Proofs.Ytoofljkgdjjllaa
open Go.RowKit
set_option linter.unusedVariables false
set_option linter.unusedSimpArgs false

/-- The Ids that calls name. -/
def pairs (L : List OpV) : List IdK := L.flatMap fun o => [o.id, o.under]
def namedL (L : List OpV) : List IdK := zId :: pairs L
theorem pairs_app (L M : List OpV) : pairs (L ++ M) = pairs L ++ pairs M := by simp [pairs]
theorem pairs_len : ∀ L : List OpV, (pairs L).length = 2 * L.length
  | [] => rfl
  | x :: L => by
    have := pairs_len L
    simp only [pairs, List.flatMap_cons, List.length_append, List.length_cons, List.length_nil] at this ⊢
    omega
theorem namedL_ok {L : List OpV} (h : ∀ x ∈ L, x.ok) : ∀ y ∈ namedL L, y.ok := by
  intro y hy
  rcases List.mem_cons.1 hy with rfl | hy
  · exact zId_ok
  · obtain ⟨o, ho, hm⟩ := List.mem_flatMap.1 hy
    simp at hm
    rcases hm with rfl | rfl
    · exact (h o ho).id
    · exact (h o ho).under
theorem own_lit1 (w : World) (x : IdK) (hx : x.ok) : OwnI (w.alloc (.cells x.c.toArray 37)) w.heap.size (.slice (some ⟨w.heap.size, 0, none⟩) 1 1) [x] := by
  have l := IdK.len hx
  refine ⟨by simp [flatI, l], Or.inr ⟨w.heap.size, 1, x.c.toArray, rfl, Nat.le_refl _, heap_alloc_new _ _, by simp, by unfold maxLen; omega, by simp [l], ?_⟩⟩
  rw [List.length_cons, List.length_nil, List.toList_toArray, List.take_of_length_le (by omega)]
  simp [flatI]
theorem below_grown {w w' : World} {B : Nat} {v : Value} {L : List IdK} (own : OwnI w B v L) (hB : B ≤ w.heap.size) (g : w.grownBy w' v.ownBlock) : Below B w w' :=
  ⟨g.os, g.tape, g.output, g.size, fun j hj => g.block j (Nat.lt_of_lt_of_le hj hB) (fun e => by have := (own.ge j e.symm).1; omega)⟩
set_option maxRecDepth 100000 in
set_option maxHeartbeats 2000000 in
theorem named_any (a : Option Addr) (c : Nat) (L : List OpV) (w : World) (hL : RowAt 69 OpV.c w a L) (ok : ∀ x ∈ L, x.ok) (hn : L.length ≤ 1256584717422) :
    Calls Try.prog 14 #[.slice a L.length c] w fun e w' => ∃ v, e = .returned v ∧ OwnI w' w.heap.size v (namedL L) ∧ Below w.heap.size w w' := by
  obtain ⟨n, hnn⟩ : ∃ n, L.length = n := ⟨_, rfl⟩
  have HNn := hidMk hnn
  have HLn := hidMk hn
  rw [hnn]
  clear hnn hn
  go_enter Try.func14, Try.ntmps14
  have ebs : Hid ((Instr.buildSlice 41 1 #[(0, zId.v)]).run Try.prog w = .ok (.slice (some ⟨w.heap.size, 0, none⟩) 1 1) (w.alloc (.cells zId.c.toArray 37))) := run_bsI zId zId_ok w
  have own1 := own_lit1 w zId zId_ok
  have bel1 : Below w.heap.size w (w.alloc (.cells zId.c.toArray 37)) := (Below.refl _ _).alloc (Nat.le_refl _) _
  go_wp2_with (first
    | (refine wpList_val rfl (exec_build0 rfl (build_id _)) ?_)
    | (refine wpList_run rfl (exec_buildSlice (t := 41) (n := 1) (xv := zId.v) (v := .slice (some ⟨w.heap.size, 0, none⟩) 1 1) rfl rfl ebs.out) ?_)
    | fail)
  generalize w.alloc (.cells zId.c.toArray 37) = w1 at *
  generalize Value.slice (some ⟨w.heap.size, 0, none⟩) 1 1 = v1 at *
  go_loopw [3, 4] (fun v3 v4 wr => ∃ i : Nat, v4 = .int .i64 (i : Int) ∧ i ≤ n ∧ OwnI wr w.heap.size v3 (namedL (L.take i)) ∧ Below w.heap.size w wr) (fun v3 v4 wr => n - (match v4 with | .int _ i => i.toNat | _ => 0))
  case atStart => exact ⟨0, rfl, Nat.zero_le _, own1, bel1⟩
  case round =>
    clear own1 bel1 ebs
    obtain ⟨i, rfl, hin, own, bel⟩ := hrel
    have hLn := HNn.out
    by_cases hi : i < n
    · have hxi : L[i]? = some L[i] := List.getElem?_eq_getElem (by omega)
      generalize L[i] = x at hxi
      have hxo : x.ok := ok x (List.mem_of_getElem? hxi)
      obtain ⟨b, o, rfl, lb, hr⟩ : ∃ b o, a = some ⟨b, o, none⟩ ∧ b < w.heap.size ∧ w.rangeAt b (o + i * 69) x.c := by
        rcases hL with rfl | ⟨b, o, e, h1, h2⟩
        · simp at hxi
        · exact ⟨b, o, e, h1, h2 i x hxi⟩
      have hbig := HLn.out
      have HR := hidMk (fun (W : World) (bb : Below w.heap.size w W) => rangeAt_keep hr (bb.block _ lb))
      obtain ⟨u, wu, eu, ⟨au, cu, rfl, iu⟩, lu⟩ := bs2_id x.id x.under hxo.id hxo.under wr.drew
      have beld : Below w.heap.size w wr.drew := bel.drew
      have belu : Below w.heap.size w wu := beld.trans (lu.mono beld.size)
      have ownd : OwnI wr.drew w.heap.size u3 (namedL (L.take i)) := own
      have ownu := ownd.below lu
      have htl : (L.take i).length = i := by simp; omega
      have hnl : (namedL (L.take i)).length = 1 + 2 * i := by rw [namedL, List.length_cons, pairs_len, htl]; omega
      obtain ⟨v3', wv, eap, own3, g3, _⟩ := run_appI wu w.heap.size u3 (namedL (L.take i)) au [x.id, x.under] cu ownu iu (by
        intro y hy
        simp at hy
        rcases hy with rfl | rfl
        · exact hxo.id
        · exact hxo.under) (by rw [hnl]; simp; omega) belu.size
      have belv : Below w.heap.size w wv := belu.trans (below_grown ownu belu.size g3)
      have hnext : namedL (L.take i) ++ [x.id, x.under] = namedL (L.take (i + 1)) := by
        rw [List.take_add_one, hxi]
        show zId :: (pairs (L.take i) ++ [x.id, x.under]) = zId :: pairs (L.take i ++ [x])
        rw [pairs_app]
        rfl
      rw [hnext] at own3
      have HO := hidMk own3
      clear own3 hnext hnl htl hxi own ownd ownu g3
      go_upto_region 5 with fail
      refine named5 b o n c i u3 x.id.v x.under.v (.slice au 2 cu) v3' wu wv (fun wx => Below w.heap.size w wx) _ wr _ rfl rfl rfl rfl beld belu belv eu eap ?_ ?_ ?_ ?_
      · exact fun W => ix_op hi (by omega) W
      · exact fun W hw => op_id hxo (HR.out W hw)
      · exact fun W hw => op_under hxo (HR.out W hw)
      intro a' w' hw' ha
      subst hw' ha
      simp only [Act.put, List.setIfInBounds_toArray, List.set_cons_zero, List.set_cons_succ]
      go_wp2
      rw [show ((i : Int) + 1) = ((i + 1 : Nat) : Int) by omega]
      refine ⟨⟨i + 1, rfl, hi, HO.out, belv⟩, ?_⟩
      show n - ((i + 1 : Nat) : Int).toNat < n - (i : Int).toNat
      omega
    · obtain rfl : i = n := by omega
      rw [List.take_of_length_le (by omega)] at own
      have HO := hidMk own
      clear own hLn hin hi
      go_wp2
      go_ret
      exact ⟨_, rfl, HO.out, bel⟩
end Go.Proofs.Ytoofljkgdjjllaa

namespace Go.Proofs.Ytoofljkgdjjllaa
open Go.RowKit
set_option linter.unusedVariables false
set_option linter.unusedSimpArgs false

/-- What a tree tells (the program's and the document's alike): by its six calls, in whatever world comes behind w0. -/
structure Tells (w0 : World) (tv : Value) (f : Fn) (D : List IdK) (cl cw ck cu ci cd : Nat) : Prop where
  len : ∀ W, Below w0.heap.size w0 W → Calls Try.prog cl #[tv] W fun e w' => e = .returned (.int .i64 (D.length : Int)) ∧ Below W.heap.size W w'
  walk : ∀ W, Below w0.heap.size w0 W → Calls Try.prog cw #[tv] W fun e w' => ∃ v L, e = .returned v ∧ IdsIs L w' v ∧ IsWalk f L ∧ Below W.heap.size W w'
  kids : ∀ k : IdK, k.ok → ∀ W, Below w0.heap.size w0 W → Calls Try.prog ck #[tv, k.v] W fun e w' => ∃ v L, e = .returned v ∧ IdsIs L w' v ∧ IsKids f k L ∧ Below W.heap.size W w'
  under : ∀ k : IdK, k.ok → ∀ W, Below w0.heap.size w0 W → Calls Try.prog cu #[tv, k.v] W fun e w' => e = .returned (.tuple #[(nd f k).u.v, .string (nd f k).key, .bool ((f k).isSome && !(nd f k).pr)]) ∧ Below W.heap.size W w'
  live : ∀ k : IdK, k.ok → ∀ W, Below w0.heap.size w0 W → Calls Try.prog ci #[tv, k.v] W fun e w' => ∃ b, e = .returned (.bool b) ∧ LiveIs f k b ∧ Below W.heap.size W w'
  deep : ∀ k : IdK, k.ok → ∀ W, Below w0.heap.size w0 W → Calls Try.prog cd #[tv, k.v] W fun e w' => ∃ d, e = .returned (.int .i64 d) ∧ DeepIs f k d ∧ Below W.heap.size W w'
theorem own_is {w : World} {base : Nat} {v : Value} {L : List IdK} (h : OwnI w base v L) (ok : ∀ x ∈ L, x.ok) : IdsIs L w v := by
  obtain ⟨a, c, e, h2, _⟩ := h.open ok
  exact ⟨a, c, e, h2⟩
theorem walk_ok {f : Fn} {D L : List IdK} (hD : Dom f D) (h : IsWalk f L) : ∀ x ∈ L, x.ok := fun x hx => hD.ok x ((hD.mem x).2 (h.there x hx))
theorem tells_own {B : Nat} {w : World} {s : Tr} {H : List Rec} {f : Fn} (h : Own B w s H f) {D : List IdK} (hD : Dom f D) (hl : D.length ≤ 1300000000000) :
    Tells w (.pointer (some ⟨s.t, 0, none⟩)) f D 21 23 24 37 39 29 := {
  len := fun W b => len_own (h.below b) hD
  walk := fun W b => (walk_own (h.below b) hD hl).mono fun e w' ⟨v, L, h1, h2, h3, h4⟩ => ⟨v, L, h1, own_is h2 (walk_ok hD h3), h3, h4⟩
  kids := fun k hk W b => (kids_own (h.below b) hD hl k hk).mono fun e w' ⟨v, L, h1, h2, h3, h4⟩ => ⟨v, L, h1, own_is h2 h3.ok, h3, h4⟩
  under := fun k hk W b => under_own (h.below b) k hk
  live := fun k hk W b => live_own (h.below b) hD hl k hk
  deep := fun k hk W b => deep_own (h.below b) hD hl k hk }
theorem und_none {k x : IdK} : ¬ Und (fun _ => none) k x := by rintro ⟨n, h, _⟩; cases h
theorem kids_empty (k : IdK) : IsKids (fun _ => none) k [] := kids_no (fun y => und_none)
theorem walk_empty : IsWalk (fun _ => none) [] := ⟨[], kids_empty _, .nil⟩
theorem is_nil (w : World) : IdsIs [] w (.slice none 0 0) := ⟨none, 0, rfl, Or.inl rfl⟩
theorem tells_nil (w : World) : Tells w (.pointer none) (fun _ => none) [] 21 23 24 37 39 29 := {
  len := fun W b => len_nil W
  walk := fun W b => (walk_nil W).mono fun e w' ⟨h1, h2⟩ => ⟨_, [], h1, is_nil _, walk_empty, h2⟩
  kids := fun k hk W b => (kids_nil k W).mono fun e w' ⟨h1, h2⟩ => ⟨_, [], h1, is_nil _, kids_empty k, h2⟩
  under := fun k hk W b => under_nil k W
  live := fun k hk W b => (live_nil k.v k rfl W).mono fun e w' ⟨h1, h2⟩ => ⟨_, h1, Or.inl ⟨rfl, rfl⟩, h2⟩
  deep := fun k hk W b => (deep_nil k.v k rfl W).mono fun e w' ⟨h1, h2⟩ => ⟨_, h1, Or.inl ⟨rfl, rfl⟩, h2⟩ }
end Go.Proofs.Ytoofljkgdjjllaa

namespace Go.Proofs.Ytoofljkgdjjllaa
open Go.RowKit
set_option linter.unusedVariables false
set_option linter.unusedSimpArgs false

/-- A node of the document's tree. -/
def rnC (p : IdK × NodeV) : List Value := p.1.c ++ (p.2.u.c ++ [.string p.2.key, .bool p.2.pr])
structure RnOk (p : IdK × NodeV) : Prop where
  k : p.1.ok
  u : p.2.u.ok
theorem rn_len {p : IdK × NodeV} (h : RnOk p) : (rnC p).length = 68 := by
  have h1 := IdK.len h.k
  have h2 := IdK.len h.u
  simp [rnC, h1, h2]
/-- The document's tree: its block, its nodes. -/
structure RefAt (w : World) (d : Nat) (NL : List (IdK × NodeV)) (pv : Value) : Prop where
  cell : ∃ a c, w.heap[d]? = some (.cells #[.slice a NL.length c, pv] 86 (0, 0)) ∧ RowAt 68 rnC w a NL
  ok : ∀ p ∈ NL, RnOk p
  nd : (NL.map (·.1)).Nodup
theorem RefAt.lt {w : World} {d : Nat} {NL : List (IdK × NodeV)} {pv : Value} (h : RefAt w d NL pv) : d < w.heap.size := by
  obtain ⟨a, c, h1, _⟩ := h.cell
  exact (Array.getElem?_eq_some_iff.1 h1).1
theorem RefAt.below {w w' : World} {d : Nat} {NL : List (IdK × NodeV)} {pv : Value} (h : RefAt w d NL pv) (b : Below w.heap.size w w') : RefAt w' d NL pv := by
  have hl := h.lt
  obtain ⟨a, c, h1, h2⟩ := h.cell
  exact ⟨⟨a, c, (b.block _ hl).trans h1, h2.below b⟩, h.ok, h.nd⟩
/-- Where a node stands. -/
def fPos (NL : List (IdK × NodeV)) (k : IdK) : Int := match M.fnd NL k 0 with | some (j, _) => (j : Int) | none => -1
theorem fnd_first {NL : List (IdK × NodeV)} {k : IdK} : ∀ {j : Nat} {n : NodeV}, NL[j]? = some (k, n) → (∀ i, i < j → ∀ p, NL[i]? = some p → p.1 ≠ k) → M.fnd NL k 0 = some (j, n) := by
  induction NL with
  | nil => intro j n h; simp at h
  | cons p NL ih =>
    intro j n h hb
    unfold M.fnd
    cases j with
    | zero =>
      simp at h
      subst h
      rw [if_pos rfl]
    | succ j =>
      have h0 := hb 0 (by omega) p rfl
      rw [if_neg (fun e => h0 e.symm), M.fnd_shift]
      have := ih (j := j) (n := n) (by simpa using h) (fun i hi q hq => hb (i + 1) (by omega) q (by simpa using hq))
      rw [this]
      simp
theorem fnd_no {NL : List (IdK × NodeV)} {k : IdK} (h : ∀ p ∈ NL, p.1 ≠ k) : M.fnd NL k 0 = none := by
  cases hf : M.fnd NL k 0 with
  | none => rfl
  | some q =>
    obtain ⟨j, n⟩ := q
    exact absurd rfl (h _ (List.mem_of_getElem? (M.fnd_some hf).1))
theorem ix_rn {b o n c i : Nat} (h : i < n) (hn : n ≤ 9223372036854775807) (w : World) : (Instr.indexAt 83 (.slice (some ⟨b, o, none⟩) n c) (.int .i64 (i : Int))).run Try.prog w = .ok (.pointer (some ⟨b, o + i * 68, none⟩)) w := by go_simp
section
variable {w : World} {b o : Nat} {p : IdK × NodeV}
theorem rn_id (hp : RnOk p) (h : w.rangeAt b o (rnC p)) : (Instr.loadAt 37 (.pointer (some ⟨b, o + 0, none⟩))).run Try.prog w = .ok p.1.v w := by
  refine load_id_at hp.k (fun j v hv => ?_)
  have hl := (List.getElem?_eq_some_iff.1 hv).1
  rw [Nat.add_zero]
  exact h j v (by rw [rnC, List.getElem?_append_left hl]; exact hv)
theorem rn_under (hp : RnOk p) (h : w.rangeAt b o (rnC p)) : (Instr.loadAt 37 (.pointer (some ⟨b, o + 33, none⟩))).run Try.prog w = .ok p.2.u.v w := by
  refine load_id_at hp.u (fun j v hv => ?_)
  have hl := (List.getElem?_eq_some_iff.1 hv).1
  have l1 := IdK.len hp.k
  have := h (33 + j) v (by rw [rnC, List.getElem?_append_right (by omega), l1, show 33 + j - 33 = j by omega, List.getElem?_append_left hl]; exact hv)
  rwa [← Nat.add_assoc] at this
theorem rn_key (hp : RnOk p) (h : w.rangeAt b o (rnC p)) : (Instr.loadAt 9 (.pointer (some ⟨b, o + 66, none⟩))).run Try.prog w = .ok (.string p.2.key) w := by
  have l1 := IdK.len hp.k
  have l2 := IdK.len hp.u
  have hc : w.cell? ⟨b, o + 66, none⟩ = some (.string p.2.key) := h 66 _ (by
    rw [rnC, List.getElem?_append_right (by omega), l1, List.getElem?_append_right (by omega), l2]
    rfl)
  go_simp
theorem rn_pr (hp : RnOk p) (h : w.rangeAt b o (rnC p)) : (Instr.loadAt 4 (.pointer (some ⟨b, o + 67, none⟩))).run Try.prog w = .ok (.bool p.2.pr) w := by
  have l1 := IdK.len hp.k
  have l2 := IdK.len hp.u
  have hc : w.cell? ⟨b, o + 67, none⟩ = some (.bool p.2.pr) := h 67 _ (by
    rw [rnC, List.getElem?_append_right (by omega), l1, List.getElem?_append_right (by omega), l2]
    rfl)
  go_simp
end
theorem load_ns {w : World} {b o : Nat} {v : Value} (h : w.cell? ⟨b, o, none⟩ = some v) : (Instr.loadAt 83 (.pointer (some ⟨b, o, none⟩))).run Try.prog w = .ok v w := by go_simp
set_option maxRecDepth 100000 in
set_option maxHeartbeats 2000000 in
theorem find_any (d : Nat) (NL : List (IdK × NodeV)) (pv : Value) (k : IdK) (w : World) (h : RefAt w d NL pv) (hk : k.ok) (hn : NL.length ≤ 1300000000000) :
    Calls Try.prog 77 #[.pointer (some ⟨d, 0, none⟩), k.v] w fun e w' => e = .returned (.int .i64 (fPos NL k)) ∧ Below w.heap.size w w' := by
  have lt := h.lt
  obtain ⟨a, c, hc, hrow⟩ := h.cell
  obtain ⟨n, hnn⟩ : ∃ n, NL.length = n := ⟨_, rfl⟩
  have HNn := hidMk hnn
  have HLn := hidMk hn
  rw [hnn] at hc
  have C0 : w.cell? ⟨d, 0, none⟩ = some (.slice a n c) := by rw [cell_of_row _ _ 0 _ _ _ hc]; rfl
  have HC := hidMk (fun (W : World) (b : Below w.heap.size w W) => (b.cell (p := ⟨d, 0, none⟩) lt).trans C0)
  clear hnn hn hc C0
  unfold IdK.v
  go_enter Try.func77, Try.ntmps77
  obtain ⟨hx, bx, zx⟩ := box_id w k
  have ZX := hidMk zx
  clear zx
  go_upto_region 1 with fail
  generalize w.alloc (.cells k.c.toArray 37) = W at *
  have HX := hidMk (fun (V : World) (b : Below W.heap.size W V) => load_id hk ((b.block _ (by have := ZX.out; omega)).trans hx))
  go_wp2
  go_loopw [5] (fun v5 wr => ∃ i : Nat, v5 = .int .i64 (i : Int) ∧ i ≤ n ∧ (∀ j, j < i → ∀ p, NL[j]? = some p → p.1 ≠ k) ∧ Below W.heap.size W wr) (fun v5 wr => n - (match v5 with | .int _ i => i.toNat | _ => 0))
  case atStart => exact ⟨0, rfl, Nat.zero_le _, fun j hj => (by omega), Below.refl _ _⟩
  case round =>
    obtain ⟨i, rfl, hin, hbf, belW⟩ := hrel
    have bel : Below w.heap.size w wr := bx.trans (belW.mono bx.size)
    have hLn := HNn.out
    have hbig := HLn.out
    have c0 := HC.out wr bel
    by_cases hi : i < n
    · have hxi : NL[i]? = some NL[i] := List.getElem?_eq_getElem (by omega)
      generalize NL[i] = p at hxi
      have hpo := h.ok p (List.mem_of_getElem? hxi)
      obtain ⟨b, o, rfl, lb, hr⟩ : ∃ b o, a = some ⟨b, o, none⟩ ∧ b < w.heap.size ∧ w.rangeAt b (o + i * 68) (rnC p) := by
        rcases hrow with e | ⟨b, o, e, h1, h2⟩
        · rw [e] at hxi; simp at hxi
        · exact ⟨b, o, e, h1, h2 i p hxi⟩
      have HXI := hidMk hxi
      have HB := hidMk hbf
      clear hxi hbf
      go_upto_region 4 with fail
      clear c0
      have beldW : Below W.heap.size W wr.drew := belW.drew
      have bw : ∀ V, Below W.heap.size W V → Below w.heap.size w V := fun V b => bx.trans (b.mono bx.size)
      refine find4 d w.heap.size b o n c i p.1.v k.v (decide (p.1 = k)) (fun V => Below W.heap.size W V) _ wr _ rfl rfl rfl rfl beldW ?_ ?_ ?_ ?_ ?_ ?_ ?_
      · exact fun V hV => load_ns (HC.out V (bw V hV))
      · exact fun V => ix_rn hi (by omega) V
      · exact fun V hV => rn_id hpo (rangeAt_keep hr ((bw V hV).block _ lb))
      · exact fun V hV => HX.out V hV
      · exact fun V => guard_id _ _ p.1 k V _
      · exact fun V hV => eql_id p.1 k hpo.k hk V
      intro a' w' hw' ha
      subst ha
      simp only [Act.put, List.setIfInBounds_toArray, List.set_cons_zero, List.set_cons_succ]
      by_cases e : p.1 = k
      · rw [decide_eq_true e]
        go_wp2
        go_ret
        refine ⟨?_, bw _ hw'⟩
        have hp : p = (k, p.2) := by rw [← e]
        have hx2 := HXI.out
        rw [hp] at hx2
        have := fnd_first hx2 HB.out
        unfold fPos
        rw [this]
        rfl
      · rw [decide_eq_false e]
        go_wp2
        rw [show ((i : Int) + 1) = ((i + 1 : Nat) : Int) by omega]
        refine ⟨⟨i + 1, rfl, hi, fun j hj q hq => ?_, hw'⟩, ?_⟩
        · by_cases ej : j = i
          · subst ej
            rw [HXI.out] at hq
            cases hq
            exact e
          · exact HB.out j (by omega) q hq
        · show n - ((i + 1 : Nat) : Int).toNat < n - (i : Int).toNat
          omega
    · obtain rfl : i = n := by omega
      have hno : M.fnd NL k 0 = none := fnd_no (fun p hp => by
        obtain ⟨j, hj⟩ := List.getElem?_of_mem hp
        exact hbf j (by have := (List.getElem?_eq_some_iff.1 hj).1; omega) p hj)
      have HNO := hidMk hno
      clear hno hbf hLn hin hi
      go_wp2
      go_ret
      exact ⟨by unfold fPos; rw [HNO.out]; rfl, bel⟩
end Go.Proofs.Ytoofljkgdjjllaa

namespace Go.Proofs.Ytoofljkgdjjllaa
open Go.RowKit
set_option linter.unusedVariables false
set_option linter.unusedSimpArgs false

theorem fPos_none {NL : List (IdK × NodeV)} {k : IdK} (h : lookN NL k = none) : fPos NL k = -1 := by
  unfold fPos
  cases hf : M.fnd NL k 0 with
  | none => rfl
  | some q => unfold lookN M.look at h; rw [hf] at h; cases h
theorem fPos_some {NL : List (IdK × NodeV)} {k : IdK} {n : NodeV} (h : lookN NL k = some n) : ∃ j : Nat, fPos NL k = (j : Int) ∧ NL[j]? = some (k, n) ∧ j < NL.length := by
  unfold fPos
  unfold lookN M.look at h
  cases hf : M.fnd NL k 0 with
  | none => rw [hf] at h; cases h
  | some q =>
    obtain ⟨j, m⟩ := q
    rw [hf] at h
    cases h
    have := M.fnd_some hf
    exact ⟨j, rfl, this.1, this.2⟩
section
variable (d : Nat) (NL : List (IdK × NodeV)) (pv : Value)
set_option maxRecDepth 100000 in
set_option maxHeartbeats 2000000 in
theorem rlen_any (w : World) (h : RefAt w d NL pv) : Calls Try.prog 34 #[.pointer (some ⟨d, 0, none⟩)] w fun e w' => e = .returned (.int .i64 (NL.length : Int)) ∧ Below w.heap.size w w' := by
  obtain ⟨a, c, hc, _⟩ := h.cell
  have C0 : w.cell? ⟨d, 0, none⟩ = some (.slice a NL.length c) := by rw [cell_of_row _ _ 0 _ _ _ hc]; rfl
  clear hc
  generalize NL.length = n at *
  go_enter Try.func34, Try.ntmps34
  go_wp2
  go_ret
  exact ⟨rfl, Below.refl _ _⟩
set_option maxRecDepth 100000 in
set_option maxHeartbeats 2000000 in
theorem rhas_any (k : IdK) (w : World) (h : RefAt w d NL pv) (hk : k.ok) (hn : NL.length ≤ 1300000000000) :
    Calls Try.prog 74 #[.pointer (some ⟨d, 0, none⟩), k.v] w fun e w' => e = .returned (.bool (lookN NL k).isSome) ∧ Below w.heap.size w w' := by
  have HF := hidMk (fun (W : World) (b : Below w.heap.size w W) => find_any d NL pv k W (h.below b) hk hn)
  have hq : (0 ≤ fPos NL k) ↔ (lookN NL k).isSome = true := by
    cases hl : lookN NL k with
    | none => rw [fPos_none hl]; simp
    | some n => obtain ⟨j, e, _⟩ := fPos_some hl; rw [e]; simp
  generalize fPos NL k = z at *
  have hz : decide (0 ≤ z) = (lookN NL k).isSome := by rw [Bool.eq_iff_iff, decide_eq_true_eq]; exact hq
  generalize (lookN NL k).isSome = r at *
  clear hq
  unfold IdK.v
  go_enter Try.func74, Try.ntmps74
  obtain ⟨hx, bx, zx⟩ := box_id w k
  have ZX := hidMk zx
  have HZ := hidMk hz
  clear zx hz
  go_upto_region 1 with fail
  generalize w.alloc (.cells k.c.toArray 37) = W at *
  have HL := hidMk (load_id hk hx)
  go_wp2_with (first
    | (refine wpList_val rfl (exec_load (t := 37) (u := .pointer (some ⟨w.heap.size, 0, none⟩)) rfl rfl HL.out) ?_)
    | (go_at_call 77; refine (HF.out _ bx).mono ?_; rintro e w1 ⟨rfl, b1⟩)
    | fail)
  go_ret
  refine ⟨?_, bx.trans (b1.mono bx.size)⟩
  rw [← HZ.out]
  simp
set_option maxRecDepth 100000 in
set_option maxHeartbeats 2000000 in
/-- The document's Under, of one that is there and is not pruned. -/
theorem runder_in (k : IdK) (nd0 : NodeV) (w : World) (h : RefAt w d NL pv) (hk : k.ok) (hn : NL.length ≤ 1300000000000) (hl : lookN NL k = some nd0) (hp : nd0.pr = false) :
    Calls Try.prog 38 #[.pointer (some ⟨d, 0, none⟩), k.v] w fun e w' => e = .returned (.tuple #[nd0.u.v, .string nd0.key, .bool true]) ∧ Below w.heap.size w w' := by
  have lt := h.lt
  obtain ⟨j, hj, hji, hjl⟩ := fPos_some hl
  have hpo := h.ok _ (List.mem_of_getElem? hji)
  obtain ⟨a, c, hc, hrow⟩ := h.cell
  obtain ⟨b, o, rfl, lb, hr⟩ : ∃ b o, a = some ⟨b, o, none⟩ ∧ b < w.heap.size ∧ w.rangeAt b (o + j * 68) (rnC (k, nd0)) := by
    rcases hrow with e | ⟨b, o, e, h1, h2⟩
    · rw [e] at hji; simp at hji
    · exact ⟨b, o, e, h1, h2 j _ hji⟩
  obtain ⟨n, hnn⟩ : ∃ n, NL.length = n := ⟨_, rfl⟩
  have HF : Hid (∀ (W : World) (b : Below w.heap.size w W), Calls Try.prog 77 #[.pointer (some ⟨d, 0, none⟩), k.v] W fun e w' => e = .returned (.int .i64 (j : Int)) ∧ Below W.heap.size W w') := fun W b => by rw [← hj]; exact find_any d NL pv k W (h.below b) hk hn
  rw [hnn] at hc hjl
  have C0 : w.cell? ⟨d, 0, none⟩ = some (.slice (some ⟨b, o, none⟩) n c) := by rw [cell_of_row _ _ 0 _ _ _ hc]; rfl
  have HC := hidMk (fun (W : World) (b : Below w.heap.size w W) => (b.cell (p := ⟨d, 0, none⟩) lt).trans C0)
  have HR := hidMk (fun (W : World) (bb : Below w.heap.size w W) => rangeAt_keep hr (bb.block _ lb))
  have HP := hidMk hp
  have hbig : n ≤ 1300000000000 := by omega
  clear hc hnn hn hj hji hrow C0 hr hl hp
  unfold IdK.v
  go_enter Try.func38, Try.ntmps38
  obtain ⟨hx, hrb, bx, zx⟩ := two_boxes w k zId
  have ZX := hidMk zx
  clear zx
  go_upto_region 1 with (first
    | (refine wpList_run rfl (exec_alloc (t := 37) rfl (id_zero _)) ?_)
    | fail)
  generalize (w.alloc (.cells k.c.toArray 37)).alloc (.cells zId.c.toArray 37) = W at *
  have HLD := hidMk (load_id hk hx)
  go_upto_region 2 with (first
    | (refine wpList_val rfl (exec_load (t := 37) (u := .pointer (some ⟨w.heap.size, 0, none⟩)) rfl rfl HLD.out) ?_)
    | (go_at_call 77; refine (HF.out _ bx).mono ?_; rintro e w1 ⟨rfl, b1⟩)
    | fail)
  have hz := ZX.out
  have bel1 : Below w.heap.size w w1 := bx.trans (b1.mono bx.size)
  have hr1 : IdAt w1 (w.heap.size + 1) zId := (b1.block _ (by omega)).trans hrb
  have c0 := HC.out w1 bel1
  have hcp : w1.cell? ⟨b, o + j * 68 + 67, none⟩ = some (.bool false) := by
    have l1 : k.c.length = 33 := IdK.len hpo.k
    have l2 : nd0.u.c.length = 33 := IdK.len hpo.u
    have := HR.out w1 bel1 67 (.bool nd0.pr) (by
      rw [rnC, List.getElem?_append_right (by simp only; omega), l1, List.getElem?_append_right (by simp only; omega), l2]
      rfl)
    rwa [HP.out] at this
  have s1 : W.heap.size ≤ w1.heap.size := b1.size
  clear HLD HF hx hrb b1 bx
  go_upto_region 4 with fail
  clear c0 hcp
  have hr2 : IdAt w1.drew (w.heap.size + 1) zId := hr1
  have bel2 : Below w.heap.size w w1.drew := bel1.drew
  have hno : nd0.u.ok := hpo.u
  have bel3 : Below w.heap.size w (w1.drew.setRow (w.heap.size + 1) nd0.u.c.toArray) := bel2.trans ((setRow_tch w1.drew (w.heap.size + 1) nd0.u.c.toArray).below bel2.size (fun j e => by simp at e; omega))
  refine runder4 d (w.heap.size + 1) b o n c j nd0.u.v nd0.key (w1.drew.setRow (w.heap.size + 1) nd0.u.c.toArray) (fun V => Below w.heap.size w V) _ w1 _ rfl rfl rfl rfl bel2 bel3 (store_id zId_ok hno hr2) ?_ ?_ ?_ ?_ ?_
  · exact fun V hV => load_ns (HC.out V hV)
  · exact fun V => ix_rn hjl (by omega) V
  · exact fun V hV => rn_under hpo (HR.out V hV)
  · exact fun V hV => rn_key hpo (HR.out V hV)
  intro a' w' hw' ha
  subst hw' ha
  simp only [Act.put, List.setIfInBounds_toArray, List.set_cons_zero, List.set_cons_succ]
  have hr4 := hr2.set nd0.u
  generalize w1.drew.setRow (w.heap.size + 1) nd0.u.c.toArray = y3 at *
  go_wp2
  refine bodyPost_ret (results_c3 rfl rfl (loadVar_id hno hr4)) rfl ?_
  exact ⟨rfl, bel3⟩
set_option maxRecDepth 100000 in
set_option maxHeartbeats 2000000 in
/-- The document's Under, of one that is not there, or pruned. -/
theorem runder_out (k : IdK) (w : World) (h : RefAt w d NL pv) (hk : k.ok) (hn : NL.length ≤ 1300000000000) (hl : lookN NL k = none ∨ ∃ m, lookN NL k = some m ∧ m.pr = true) :
    Calls Try.prog 38 #[.pointer (some ⟨d, 0, none⟩), k.v] w fun e w' => e = .returned (.tuple #[zId.v, .string ⟨#[]⟩, .bool false]) ∧ Below w.heap.size w w' := by
  have lt := h.lt
  have HF := hidMk (fun (W : World) (b : Below w.heap.size w W) => find_any d NL pv k W (h.below b) hk hn)
  obtain ⟨z, hz⟩ : ∃ z, fPos NL k = z := ⟨_, rfl⟩
  rw [hz] at HF
  have main : ∀ (z : Int) (Pr : World → Prop), (∀ W, Below w.heap.size w W → Pr W) → ((z = -1 ∧ True) ∨ ∃ (j n c b o : Nat), z = (j : Int) ∧ j < n ∧ n ≤ 1300000000000 ∧ ∀ W, Pr W → W.cell? ⟨d, 0, none⟩ = some (.slice (some ⟨b, o, none⟩) n c) ∧ W.cell? ⟨b, o + j * 68 + 67, none⟩ = some (.bool true)) →
      Hid (∀ (W : World) (b : Below w.heap.size w W), Calls Try.prog 77 #[.pointer (some ⟨d, 0, none⟩), k.v] W fun e w' => e = .returned (.int .i64 z) ∧ Below W.heap.size W w') →
      Calls Try.prog 38 #[.pointer (some ⟨d, 0, none⟩), k.v] w fun e w' => e = .returned (.tuple #[zId.v, .string ⟨#[]⟩, .bool false]) ∧ Below w.heap.size w w' := by
    clear hz HF z hl hn h
    intro z Pr HPr hcase HF
    unfold IdK.v
    go_enter Try.func38, Try.ntmps38
    obtain ⟨hx, hrb, bx, zx⟩ := two_boxes w k zId
    have ZX := hidMk zx
    clear zx
    go_upto_region 1 with (first
      | (refine wpList_run rfl (exec_alloc (t := 37) rfl (id_zero _)) ?_)
      | fail)
    generalize (w.alloc (.cells k.c.toArray 37)).alloc (.cells zId.c.toArray 37) = W at *
    have HLD := hidMk (load_id hk hx)
    go_upto_region 2 with (first
      | (refine wpList_val rfl (exec_load (t := 37) (u := .pointer (some ⟨w.heap.size, 0, none⟩)) rfl rfl HLD.out) ?_)
      | (go_at_call 77; refine (HF.out _ bx).mono ?_; rintro e w1 ⟨rfl, b1⟩)
      | fail)
    have hz := ZX.out
    have bel1 : Below w.heap.size w w1 := bx.trans (b1.mono bx.size)
    have hr1 : IdAt w1 (w.heap.size + 1) zId := (b1.block _ (by omega)).trans hrb
    have st1 := hidMk (store_id zId_ok zId_ok hr1)
    have hr2 := hr1.set zId
    have bel2 : Below w.heap.size w (w1.setRow (w.heap.size + 1) zId.c.toArray) := bel1.trans ((setRow_tch w1 (w.heap.size + 1) zId.c.toArray).below bel1.size (fun j e => by simp at e; omega))
    have HP1 := HPr w1 bel1
    clear HLD HF hx hrb b1 bx hz
    rcases hcase with ⟨rfl, _⟩ | ⟨j, n, c, b, o, rfl, hjl, hbig, hcs⟩
    · clear HP1
      go_wp2_with (first
        | (refine wpList_val rfl (exec_build0 rfl (build_id _)) ?_)
        | (refine wpList_skip rfl rfl (exec_store (t := 37) (xv := .pointer (some ⟨w.heap.size + 1, 0, none⟩)) (yv := zId.v) rfl rfl rfl st1.out) ?_)
        | fail)
      refine bodyPost_ret (results_c3 rfl rfl (loadVar_id zId_ok hr2)) rfl ?_
      exact ⟨rfl, bel2⟩
    · obtain ⟨c0, c1⟩ := hcs w1 HP1
      go_wp2_with (first
        | (refine wpList_val rfl (exec_build0 rfl (build_id _)) ?_)
        | (refine wpList_skip rfl rfl (exec_store (t := 37) (xv := .pointer (some ⟨w.heap.size + 1, 0, none⟩)) (yv := zId.v) rfl rfl rfl st1.out) ?_)
        | fail)
      refine bodyPost_ret (results_c3 rfl rfl (loadVar_id zId_ok hr2)) rfl ?_
      exact ⟨rfl, bel2⟩
  refine main z (fun W => Below w.heap.size w W) (fun W b => b) ?_ HF
  rcases hl with hl | ⟨m, hl, hp⟩
  · exact Or.inl ⟨by rw [← hz, fPos_none hl], trivial⟩
  · obtain ⟨j, hj, hji, hjl⟩ := fPos_some hl
    have hpo := h.ok _ (List.mem_of_getElem? hji)
    obtain ⟨a, c, hc, hrow⟩ := h.cell
    obtain ⟨b, o, rfl, lb, hr⟩ : ∃ b o, a = some ⟨b, o, none⟩ ∧ b < w.heap.size ∧ w.rangeAt b (o + j * 68) (rnC (k, m)) := by
      rcases hrow with e | ⟨b, o, e, h1, h2⟩
      · rw [e] at hji; simp at hji
      · exact ⟨b, o, e, h1, h2 j _ hji⟩
    refine Or.inr ⟨j, NL.length, c, b, o, by rw [← hz, hj], hjl, hn, fun W bb => ⟨(bb.cell (p := ⟨d, 0, none⟩) lt).trans (by rw [cell_of_row _ _ 0 _ _ _ hc]; rfl), ?_⟩⟩
    have l1 : k.c.length = 33 := IdK.len hpo.k
    have l2 : m.u.c.length = 33 := IdK.len hpo.u
    have := rangeAt_keep hr (bb.block _ lb) 67 (.bool m.pr) (by
      rw [rnC, List.getElem?_append_right (by simp only; omega), l1, List.getElem?_append_right (by simp only; omega), l2]
      rfl)
    rwa [hp] at this
theorem runder_any (k : IdK) (w : World) (h : RefAt w d NL pv) (hk : k.ok) (hn : NL.length ≤ 1300000000000) (hf : Forest (lookN NL)) :
    Calls Try.prog 38 #[.pointer (some ⟨d, 0, none⟩), k.v] w fun e w' => e = .returned (.tuple #[(nd (lookN NL) k).u.v, .string (nd (lookN NL) k).key, .bool ((lookN NL k).isSome && !(nd (lookN NL) k).pr)]) ∧ Below w.heap.size w w' := by
  unfold nd
  cases hl : lookN NL k with
  | none => exact runder_out d NL pv k w h hk hn (Or.inl hl)
  | some m =>
    cases hp : m.pr with
    | false =>
      have := runder_in d NL pv k m w h hk hn hl hp
      simpa [hp] using this
    | true =>
      have := runder_out d NL pv k w h hk hn (Or.inr ⟨m, hl, hp⟩)
      obtain ⟨h1, h2⟩ := hf.bare k m hl hp
      simpa [hp, h1, h2] using this
end
end Go.Proofs.Ytoofljkgdjjllaa

namespace Go.Proofs.Ytoofljkgdjjllaa
open Go.RowKit
set_option linter.unusedVariables false
set_option linter.unusedSimpArgs false

/-- What up tells: the nodes above one, and whether they come to the top. -/
def UpIs (f : Fn) (k : IdK) (l : List IdK) (b : Bool) : Prop := (f k = none ∧ l = [] ∧ b = false) ∨ ((f k).isSome = true ∧ ∃ p, Climb f k l p ∧ b = !p)
theorem climb_cons {f : Fn} {k : IdK} {l : List IdK} {p : Bool} (h : Climb f k l p) (hp : (nd f k).pr = false) (hz : (nd f k).u ≠ zId) : ∃ l2, l = (nd f k).u :: l2 ∧ Climb f (nd f k).u l2 p := by
  cases h with
  | top q => rcases q with q | q
             · rw [hp] at q; cases q
             · exact absurd q hz
  | up _ _ h3 => exact ⟨_, rfl, h3⟩
theorem climb_top {f : Fn} {k : IdK} {l : List IdK} {p : Bool} (h : Climb f k l p) (hq : (nd f k).pr = true ∨ (nd f k).u = zId) : l = [] ∧ p = (nd f k).pr := by
  obtain ⟨h1, h2⟩ := h.same (Climb.top hq)
  exact ⟨h1, h2⟩
section
variable (d : Nat) (NL : List (IdK × NodeV)) (pv : Value)
set_option maxRecDepth 100000 in
set_option maxHeartbeats 4000000 in
theorem rup_any (k : IdK) (w : World) (h : RefAt w d NL pv) (hk : k.ok) (hn : NL.length ≤ 1300000000000) (hf : Forest (lookN NL)) :
    Calls Try.prog 79 #[.pointer (some ⟨d, 0, none⟩), k.v] w fun e w' => ∃ v l b, e = .returned (.tuple #[v, .bool b]) ∧ OwnI w' w.heap.size v l ∧ UpIs (lookN NL) k l b ∧ (∀ x ∈ l, x.ok) ∧ Below w.heap.size w w' := by
  have lt := h.lt
  have hD : ∀ x, (lookN NL x).isSome = true → x ∈ NL.map (·.1) := fun x hx => by
    obtain ⟨v, hv⟩ := Option.isSome_iff_exists.1 hx
    exact List.mem_map.2 ⟨_, M.look_mem hv, rfl⟩
  have hOK : ∀ x, (lookN NL x).isSome = true → x.ok := fun x hx => by
    obtain ⟨p, hp, rfl⟩ := List.mem_map.1 (hD x hx)
    exact (h.ok p hp).k
  obtain ⟨l0, p0, hc0⟩ := hf.ends k
  have hl0 : l0.length ≤ NL.length := by
    have := nodup_le (b := NL.map (·.1)) hc0.nodup (fun x hx => hD x (hc0.there hf x hx))
    simpa using this
  have HF := hidMk (fun (x : IdK) (hx : x.ok) (W : World) (b : RefAt W d NL pv) => find_any d NL pv x W b hx hn)
  obtain ⟨a, c, hc, hrow⟩ := h.cell
  obtain ⟨n, hnn⟩ : ∃ n, NL.length = n := ⟨_, rfl⟩
  have C0 : w.cell? ⟨d, 0, none⟩ = some (.slice a n c) := by rw [← hnn, cell_of_row _ _ 0 _ _ _ hc]; rfl
  have HC := hidMk (fun (W : World) (b : Below w.heap.size w W) => (b.cell (p := ⟨d, 0, none⟩) lt).trans C0)
  have HH := hidMk (fun (W : World) (b : Below w.heap.size w W) => h.below b)
  have HROW := hidMk hrow
  have HNn := hidMk hnn
  have hbig : n ≤ 1300000000000 := by omega
  have HL0 := hidMk hl0
  clear hc C0 hn hnn hl0 hrow
  unfold IdK.v
  go_enter Try.func79, Try.ntmps79
  obtain ⟨hx, bx, zx⟩ := box_id w k
  have ZX := hidMk zx
  clear zx
  go_upto_region 1 with fail
  generalize w.alloc (.cells k.c.toArray 37) = W at *
  have own0 : OwnI W w.heap.size (.slice none 0 0) [] := ⟨rfl, Or.inl ⟨rfl, rfl⟩⟩
  go_wp2
  go_loopw [6, 7] (fun v6 v7 wr => ∃ (y : IdK) (Lo l2 : List IdK), v7 = .int .i64 (Lo.length : Int) ∧ OwnI wr w.heap.size v6 Lo ∧ IdAt wr w.heap.size y ∧ y.ok ∧ Climb (lookN NL) y l2 p0 ∧ Lo ++ l2 = l0 ∧ (Lo = [] ∧ y = k ∨ (lookN NL y).isSome = true ∧ (lookN NL k).isSome = true) ∧ (∀ x ∈ Lo, x.ok) ∧ v6.ownBlock ≠ some w.heap.size ∧ Below w.heap.size w wr) (fun v6 v7 wr => n + 1 - (match v7 with | .int _ i => i.toNat | _ => 0))
  case atStart => exact ⟨k, [], l0, rfl, own0, hx, hk, hc0, rfl, Or.inl ⟨rfl, rfl⟩, fun x hx => (by cases hx), by simp [Value.ownBlock], bx⟩
  case round =>
    clear own0 hx
    obtain ⟨y, Lo, l2, rfl, own, hy, hyo, hcl, hsum, hst, hokL, hap, bel⟩ := hrel
    have hlen := congrArg List.length hsum
    rw [List.length_append] at hlen
    have hl0 := HL0.out
    have hN := HNn.out
    obtain ⟨m, hm⟩ : ∃ m, Lo.length = m := ⟨_, rfl⟩
    have hmn : m ≤ n := by omega
    rw [hm]
    have HMm := hidMk hm
    have HS := hidMk hsum
    have HCL := hidMk hcl
    have HST := hidMk hst
    have HOL := hidMk hokL
    have c0 := HC.out wr bel
    have LY := hidMk (load_id hyo hy)
    have FY := hidMk (HF.out y hyo wr (HH.out wr bel))
    have HOW := hidMk own
    clear hlen hl0 hN hm hsum hcl hst hokL own
    cases hl : lookN NL y with
    | none =>
      rw [fPos_none hl] at FY
      go_wp2_with (first
        | (refine wpList_val rfl (exec_load (t := 37) (u := .pointer (some ⟨w.heap.size, 0, none⟩)) rfl rfl LY.out) ?_)
        | (go_at_call 77; refine FY.out.mono ?_; rintro e w1 ⟨rfl, b1⟩)
        | fail)
      go_ret2
      refine ⟨_, _, _, rfl, HOW.out.below b1, ?_, HOL.out, bel.trans (b1.mono bel.size)⟩
      rcases HST.out with ⟨e1, e2⟩ | ⟨e1, e2⟩
      · subst e1 e2; exact Or.inl ⟨hl, rfl, rfl⟩
      · rw [hl] at e1; cases e1
    | some nd0 =>
      obtain ⟨j, hj, hji, hjl⟩ := fPos_some hl
      rw [hj] at FY
      have hpo := h.ok _ (List.mem_of_getElem? hji)
      have hkS : (lookN NL k).isSome = true := by
        rcases HST.out with ⟨_, e2⟩ | ⟨_, e2⟩
        · subst e2; rw [hl]; rfl
        · exact e2
      have hndy : nd (lookN NL) y = nd0 := by unfold nd; rw [hl]; rfl
      obtain ⟨b, o, rfl, lb, hr⟩ : ∃ b o, a = some ⟨b, o, none⟩ ∧ b < w.heap.size ∧ w.rangeAt b (o + j * 68) (rnC (y, nd0)) := by
        rcases HROW.out with e | ⟨b, o, e, h1, h2⟩
        · rw [e] at hji; simp at hji
        · exact ⟨b, o, e, h1, h2 j _ hji⟩
      rw [HNn.out] at hjl
      have HR := hidMk (fun (V : World) (bb : Below w.heap.size w V) => rangeAt_keep hr (bb.block _ lb))
      have hcp : ∀ V, Below w.heap.size w V → V.cell? ⟨b, o + j * 68 + 67, none⟩ = some (.bool nd0.pr) := fun V bb => by
        have l1 : y.c.length = 33 := IdK.len hpo.k
        have l2 : nd0.u.c.length = 33 := IdK.len hpo.u
        exact HR.out V bb 67 (.bool nd0.pr) (by
          rw [rnC, List.getElem?_append_right (by simp only; omega), l1, List.getElem?_append_right (by simp only; omega), l2]
          rfl)
      have hj0 : decide ((j : Int) < 0) = false := decide_eq_false (by omega)
      have HNDY := hidMk hndy
      have HHL := hidMk hl
      clear hji hj hr hndy hl
      cases hp : nd0.pr with
      | true =>
        rw [hp] at hcp
        have HCP := hidMk hcp
        clear hcp
        go_wp2_with (first
          | (refine wpList_val rfl (exec_load (t := 37) (u := .pointer (some ⟨w.heap.size, 0, none⟩)) rfl rfl LY.out) ?_)
          | (go_at_call 77; refine FY.out.mono ?_; rintro e w1 ⟨rfl, b1⟩; have bel1 : Below w.heap.size w w1 := bel.trans (b1.mono bel.size); have c01 := HC.out w1 bel1; have c02 := HCP.out w1 bel1; clear c0)
          | fail)
        go_ret2
        refine ⟨_, _, _, rfl, HOW.out.below b1, ?_, HOL.out, bel1⟩
        obtain ⟨e1, e2⟩ := climb_top HCL.out (Or.inl (by rw [HNDY.out]; exact hp))
        have hs := HS.out
        rw [e1, List.append_nil] at hs
        rw [HNDY.out, hp] at e2
        exact Or.inr ⟨hkS, true, by rw [hs, ← e2]; exact hc0, rfl⟩
      | false =>
        rw [hp] at hcp
        have HCP := hidMk hcp
        clear hcp
        have huo : nd0.u.ok := hpo.u
        go_upto_region 9 with (first
          | (refine wpList_val rfl (exec_load (t := 37) (u := .pointer (some ⟨w.heap.size, 0, none⟩)) rfl rfl LY.out) ?_)
          | (go_at_call 77; refine FY.out.mono ?_; rintro e w1 ⟨rfl, b1⟩; have bel1 : Below w.heap.size w w1 := bel.trans (b1.mono bel.size); have c01 := HC.out w1 bel1; have c02 := HCP.out w1 bel1; have LU := hidMk (rn_under hpo (HR.out w1 bel1)); have hy1 : IdAt w1 w.heap.size y := (b1.block _ (Array.getElem?_eq_some_iff.1 hy).1).trans hy; have ST := hidMk (store_id hyo huo hy1); clear c0)
          | (refine wpList_val rfl (exec_load (t := 37) (u := .pointer (some ⟨b, o + j * 68 + 33, none⟩)) rfl rfl LU.out) ?_)
          | (refine wpList_skip rfl rfl (exec_store (t := 37) (xv := .pointer (some ⟨w.heap.size, 0, none⟩)) (yv := nd0.u.v) rfl rfl rfl ST.out) ?_)
          | fail)
        clear c01 c02
        have hy2 := hy1.set nd0.u
        have t2 := setRow_tch w1 w.heap.size nd0.u.c.toArray
        have bel2 : Below w.heap.size w (w1.setRow w.heap.size nd0.u.c.toArray) := bel1.trans (t2.below bel1.size (fun j e => by simp at e; omega))
        have own2 : OwnI (w1.setRow w.heap.size nd0.u.c.toArray) w.heap.size u6 Lo := (HOW.out.below b1).keep (fun j hj => t2.block j (by obtain ⟨_, q, hq⟩ := (HOW.out.below b1).ge j hj; exact (Array.getElem?_eq_some_iff.1 hq).1) (fun e => by simp at e; subst e; exact hap hj))
        generalize w1.setRow w.heap.size nd0.u.c.toArray = w2 at *
        have LY2 := hidMk (load_id huo hy2)
        have HOW2 := hidMk own2
        clear LU ST LY FY HOW own2 hy1 t2 HCP
        by_cases hz : nd0.u = zId
        · have hq : ∀ V : World, (binOp .eql 37 nd0.u.v zId.v).run Try.prog V = .ok (.bool true) V := fun V => by rw [eql_id nd0.u zId huo zId_ok, decide_eq_true hz]
          go_wp2_with (first
            | (refine wpList_val rfl (exec_load (t := 37) (u := .pointer (some ⟨w.heap.size, 0, none⟩)) rfl rfl LY2.out) ?_)
            | (refine wpList_val rfl (exec_build0 rfl (build_id _)) ?_)
            | (refine wpList_val rfl (exec_binOp (xv := nd0.u.v) (yv := zId.v) rfl rfl rfl (guard_id _ _ nd0.u zId _ _) (hq _)) ?_)
            | fail)
          go_ret2
          refine ⟨_, _, _, rfl, HOW2.out, ?_, HOL.out, bel2⟩
          obtain ⟨e1, e2⟩ := climb_top HCL.out (Or.inr (by rw [HNDY.out]; exact hz))
          have hs := HS.out
          rw [e1, List.append_nil] at hs
          rw [HNDY.out, hp] at e2
          exact Or.inr ⟨hkS, false, by rw [hs, ← e2]; exact hc0, rfl⟩
        · have hq : ∀ V : World, (binOp .eql 37 nd0.u.v zId.v).run Try.prog V = .ok (.bool false) V := fun V => by rw [eql_id nd0.u zId huo zId_ok, decide_eq_false hz]
          obtain ⟨l3, hl3, hcl3⟩ := climb_cons HCL.out (by rw [HNDY.out]; exact hp) (by rw [HNDY.out]; exact hz)
          rw [HNDY.out] at hl3 hcl3
          have hsum2 : (Lo ++ [nd0.u]) ++ l3 = l0 := by rw [List.append_assoc, List.singleton_append, ← hl3]; exact HS.out
          have hlen2 := congrArg List.length hsum2
          simp only [List.length_append, List.length_cons, List.length_nil] at hlen2
          have hl0' := HL0.out
          have hNn' := HNn.out
          have hMm' := HMm.out
          have ebs : Hid ((Instr.buildSlice 41 1 #[(0, nd0.u.v)]).run Try.prog w2 = .ok (.slice (some ⟨w2.heap.size, 0, none⟩) 1 1) (w2.alloc (.cells nd0.u.c.toArray 37))) := run_bsI nd0.u huo w2
          have hlit := ids_lit w2 nd0.u 37
          have bb : Below w2.heap.size w2 (w2.alloc (.cells nd0.u.c.toArray 37)) := (Below.refl _ _).alloc (Nat.le_refl _) _
          generalize w2.alloc (.cells nd0.u.c.toArray 37) = w3 at *
          have own3 := HOW2.out.below bb
          have bel3 : Below w.heap.size w w3 := bel2.trans (bb.mono bel2.size)
          obtain ⟨v6', w4, eap, own4, g4, ob4⟩ := run_appI w3 w.heap.size u6 Lo (some ⟨w2.heap.size, 0, none⟩) [nd0.u] 1 own3 hlit (by simpa using huo) (by simp only [List.length_cons, List.length_nil]; omega) bel3.size
          have EAP : Hid ((Builtin.append_ #[41, 41] 41 #[u6, .slice (some ⟨w2.heap.size, 0, none⟩) 1 1]).run Try.prog w3 = .ok v6' w4) := eap
          have bel4 : Below w.heap.size w w4 := bel3.trans (below_grown own3 bel3.size g4)
          have lw : w.heap.size < w2.heap.size := (Array.getElem?_eq_some_iff.1 hy2).1
          have hy4 : IdAt w4 w.heap.size nd0.u := (g4.block _ (by have := bb.size; omega) (fun e => hap e.symm)).trans ((bb.block _ lw).trans hy2)
          have hap4 : v6'.ownBlock ≠ some w.heap.size := fun e => by
            rcases ob4 with q | q
            · rw [q] at e; exact hap e
            · rw [q] at e
              have h1 : w3.heap.size = w.heap.size := by simpa using e
              have := bb.size
              omega
          have hS2 : (lookN NL nd0.u).isSome = true := hf.under y nd0 HHL.out hp hz
          have HO4 := hidMk own4
          have HS2 := hidMk hsum2
          have HC3 := hidMk hcl3
          have hm1 : m + 1 ≤ n := by omega
          clear eap hlit own3 own4 hsum2 hlen2 hl3 hcl3 g4 ob4 hl0' hNn' hMm'
          go_wp2_with (first
            | (refine wpList_val rfl (exec_load (t := 37) (u := .pointer (some ⟨w.heap.size, 0, none⟩)) rfl rfl LY2.out) ?_)
            | (refine wpList_val rfl (exec_build0 rfl (build_id _)) ?_)
            | (refine wpList_val rfl (exec_binOp (xv := nd0.u.v) (yv := zId.v) rfl rfl rfl (guard_id _ _ nd0.u zId _ _) (hq _)) ?_)
            | (refine wpList_run rfl (exec_buildSlice (t := 41) (n := 1) (xv := nd0.u.v) (v := .slice (some ⟨w2.heap.size, 0, none⟩) 1 1) rfl rfl ebs.out) ?_)
            | (refine wpList_run rfl (exec_append (xv := u6) (yv := .slice (some ⟨w2.heap.size, 0, none⟩) 1 1) (v := v6') rfl rfl rfl EAP.out) ?_)
            | fail)
          rw [show ((m : Int) + 1) = ((m + 1 : Nat) : Int) by omega]
          refine ⟨⟨nd0.u, Lo ++ [nd0.u], l3, by rw [List.length_append, HMm.out]; rfl, HO4.out, hy4, huo, HC3.out, HS2.out, Or.inr ⟨hS2, hkS⟩, fun x hx => ?_, hap4, bel4⟩, ?_⟩
          · rcases List.mem_append.1 hx with hx | hx
            · exact HOL.out x hx
            · simp at hx; subst hx; exact huo
          · show n + 1 - ((m + 1 : Nat) : Int).toNat < n + 1 - (m : Int).toNat
            omega
end
end Go.Proofs.Ytoofljkgdjjllaa

namespace Go.Proofs.Ytoofljkgdjjllaa
open Go.RowKit
set_option linter.unusedVariables false
set_option linter.unusedSimpArgs false

section
variable (d : Nat) (NL : List (IdK × NodeV)) (pv : Value)
set_option maxRecDepth 100000 in
set_option maxHeartbeats 2000000 in
theorem rlive_any (k : IdK) (w : World) (h : RefAt w d NL pv) (hk : k.ok) (hn : NL.length ≤ 1300000000000) (hf : Forest (lookN NL)) :
    Calls Try.prog 40 #[.pointer (some ⟨d, 0, none⟩), k.v] w fun e w' => ∃ b, e = .returned (.bool b) ∧ LiveIs (lookN NL) k b ∧ Below w.heap.size w w' := by
  have HH := hidMk (fun (W : World) (b : Below w.heap.size w W) => rhas_any d NL pv k W (h.below b) hk hn)
  have HU := hidMk (fun (W : World) (b : Below w.heap.size w W) => rup_any d NL pv k W (h.below b) hk hn hf)
  cases hs : (lookN NL k).isSome with
  | false =>
    rw [hs] at HH
    unfold IdK.v
    go_enter Try.func40, Try.ntmps40
    obtain ⟨hx, bx, zx⟩ := box_id w k
    have ZX := hidMk zx
    have HSS := hidMk hs
    clear zx hs
    go_upto_region 1 with fail
    generalize w.alloc (.cells k.c.toArray 37) = W at *
    have HL := hidMk (load_id hk hx)
    go_wp2_with (first
      | (refine wpList_val rfl (exec_load (t := 37) (u := .pointer (some ⟨w.heap.size, 0, none⟩)) rfl rfl HL.out) ?_)
      | (go_at_call 74; refine (HH.out _ bx).mono ?_; rintro e w1 ⟨rfl, b1⟩)
      | fail)
    go_ret
    exact ⟨_, rfl, Or.inl ⟨HSS.out, rfl⟩, bx.trans (b1.mono bx.size)⟩
  | true =>
    rw [hs] at HH
    unfold IdK.v
    go_enter Try.func40, Try.ntmps40
    obtain ⟨hx, bx, zx⟩ := box_id w k
    have ZX := hidMk zx
    have HSS := hidMk hs
    clear zx hs
    go_upto_region 1 with fail
    generalize w.alloc (.cells k.c.toArray 37) = W at *
    have HL := hidMk (fun (V : World) (b : Below W.heap.size W V) => load_id hk ((b.block _ (by have := ZX.out; omega)).trans hx))
    go_wp2_with (first
      | (refine wpList_val rfl (exec_load (t := 37) (u := .pointer (some ⟨w.heap.size, 0, none⟩)) rfl rfl (HL.out _ (Below.refl _ _))) ?_)
      | (go_at_call 74; refine (HH.out _ bx).mono ?_; rintro e w1 ⟨rfl, b1⟩; have bel1 : Below w.heap.size w w1 := bx.trans (b1.mono bx.size))
      | (refine wpList_val rfl (exec_load (t := 37) (u := .pointer (some ⟨w.heap.size, 0, none⟩)) rfl rfl (HL.out _ b1)) ?_)
      | (go_at_call 79; refine (HU.out _ bel1).mono ?_; rintro e w2 ⟨v, l, q, rfl, own, hu, hol, b2⟩; have HUp := hidMk hu; clear hu own)
      | fail)
    go_ret
    refine ⟨_, rfl, ?_, bel1.trans (b2.mono bel1.size)⟩
    rcases HUp.out with ⟨e, _⟩ | ⟨e, p, hc, rfl⟩
    · have := HSS.out; rw [e] at this; cases this
    · exact Or.inr ⟨e, l, p, hc, rfl⟩
set_option maxRecDepth 100000 in
set_option maxHeartbeats 2000000 in
theorem rdeep_any (k : IdK) (w : World) (h : RefAt w d NL pv) (hk : k.ok) (hn : NL.length ≤ 1300000000000) (hf : Forest (lookN NL)) :
    Calls Try.prog 41 #[.pointer (some ⟨d, 0, none⟩), k.v] w fun e w' => ∃ z, e = .returned (.int .i64 z) ∧ DeepIs (lookN NL) k z ∧ Below w.heap.size w w' := by
  have HH := hidMk (fun (W : World) (b : Below w.heap.size w W) => rhas_any d NL pv k W (h.below b) hk hn)
  have HU := hidMk (fun (W : World) (b : Below w.heap.size w W) => rup_any d NL pv k W (h.below b) hk hn hf)
  cases hs : (lookN NL k).isSome with
  | false =>
    rw [hs] at HH
    unfold IdK.v
    go_enter Try.func41, Try.ntmps41
    obtain ⟨hx, bx, zx⟩ := box_id w k
    have ZX := hidMk zx
    have HSS := hidMk hs
    clear zx hs
    go_upto_region 1 with fail
    generalize w.alloc (.cells k.c.toArray 37) = W at *
    have HL := hidMk (load_id hk hx)
    go_wp2_with (first
      | (refine wpList_val rfl (exec_load (t := 37) (u := .pointer (some ⟨w.heap.size, 0, none⟩)) rfl rfl HL.out) ?_)
      | (go_at_call 74; refine (HH.out _ bx).mono ?_; rintro e w1 ⟨rfl, b1⟩)
      | fail)
    go_ret
    exact ⟨_, rfl, Or.inl ⟨HSS.out, rfl⟩, bx.trans (b1.mono bx.size)⟩
  | true =>
    rw [hs] at HH
    unfold IdK.v
    go_enter Try.func41, Try.ntmps41
    obtain ⟨hx, bx, zx⟩ := box_id w k
    have ZX := hidMk zx
    have HSS := hidMk hs
    clear zx hs
    go_upto_region 1 with fail
    generalize w.alloc (.cells k.c.toArray 37) = W at *
    have HL := hidMk (fun (V : World) (b : Below W.heap.size W V) => load_id hk ((b.block _ (by have := ZX.out; omega)).trans hx))
    go_wp2_with (first
      | (refine wpList_val rfl (exec_load (t := 37) (u := .pointer (some ⟨w.heap.size, 0, none⟩)) rfl rfl (HL.out _ (Below.refl _ _))) ?_)
      | (go_at_call 74; refine (HH.out _ bx).mono ?_; rintro e w1 ⟨rfl, b1⟩; have bel1 : Below w.heap.size w w1 := bx.trans (b1.mono bx.size))
      | (refine wpList_val rfl (exec_load (t := 37) (u := .pointer (some ⟨w.heap.size, 0, none⟩)) rfl rfl (HL.out _ b1)) ?_)
      | (go_at_call 79; refine (HU.out _ bel1).mono ?_; rintro e w2 ⟨v, l, q, rfl, own, hu, hol, b2⟩; have HUp := hidMk hu; obtain ⟨a5, c5, rfl, _⟩ := own.open hol; obtain ⟨n5, hn5⟩ : ∃ n5, l.length = n5 := ⟨_, rfl⟩; have HN5 := hidMk hn5; rw [hn5]; clear hu own hn5)
      | fail)
    go_ret
    refine ⟨_, rfl, ?_, bel1.trans (b2.mono bel1.size)⟩
    rcases HUp.out with ⟨e, _⟩ | ⟨e, p, hc, rfl⟩
    · have := HSS.out; rw [e] at this; cases this
    · exact Or.inr ⟨e, l, p, hc, by rw [HN5.out]⟩
end
end Go.Proofs.Ytoofljkgdjjllaa

namespace Go.Proofs.Ytoofljkgdjjllaa
open Go.RowKit
set_option linter.unusedVariables false
set_option linter.unusedSimpArgs false

abbrev RN := IdK × NodeV
def zRn : RN := (zId, zNode)
theorem zRn_ok : RnOk zRn := ⟨zId_ok, zId_ok⟩
theorem rn_one (p : RN) : ∀ v ∈ rnC p, v.oneCell' = true := by
  intro v hv
  simp only [rnC, List.mem_append, List.mem_cons, List.not_mem_nil, or_false] at hv
  rcases hv with h | h | rfl | rfl
  · exact IdK.one _ v h
  · exact IdK.one _ v h
  · rfl
  · rfl
def RnsAt (w : World) (a : Option Addr) (L : List RN) : Prop := L = [] ∨ ∃ b off, a = some ⟨b, off, none⟩ ∧ b < w.heap.size ∧ ∀ i h, L[i]? = some h → w.rangeAt b (off + 68 * i) (rnC h)
theorem RnsAt.below {w w' : World} {a : Option Addr} {L : List RN} (h : RnsAt w a L) (hb : Below w.heap.size w w') : RnsAt w' a L := by
  rcases h with h | ⟨b, off, e, hl, hr⟩
  · exact .inl h
  · exact .inr ⟨b, off, e, Nat.lt_of_lt_of_le hl hb.size, fun i x hx => rangeAt_keep (hr i x hx) (hb.block b hl)⟩
/-- Nodes, cell by cell. -/
def flatN (L : List RN) : List Value := L.flatMap rnC
theorem flatN_len : ∀ {L : List RN}, (∀ h ∈ L, RnOk h) → (flatN L).length = 68 * L.length
  | [], _ => rfl
  | x :: L, ok => by
    have := flatN_len (L := L) (fun h hh => ok h (by simp [hh]))
    simp only [flatN, List.flatMap_cons, List.length_append, rn_len (ok x (by simp)), List.length_cons] at this ⊢
    omega
theorem flatN_get : ∀ {L : List RN}, (∀ h ∈ L, RnOk h) → ∀ {i : Nat} {h : RN}, L[i]? = some h → ∀ {j : Nat} {v : Value}, (rnC h)[j]? = some v → (flatN L)[68 * i + j]? = some v
  | x :: L, ok, 0, h, hi, j, v, hj => by
    simp only [List.getElem?_cons_zero, Option.some.injEq] at hi
    subst hi
    have hl := (List.getElem?_eq_some_iff.1 hj).1
    rw [Nat.mul_zero, Nat.zero_add, flatN, List.flatMap_cons, List.getElem?_append_left hl]
    exact hj
  | x :: L, ok, i + 1, h, hi, j, v, hj => by
    simp only [List.getElem?_cons_succ] at hi
    have := flatN_get (L := L) (fun h hh => ok h (by simp [hh])) hi hj
    have l := rn_len (ok x (by simp))
    rw [flatN, List.flatMap_cons, List.getElem?_append_right (by omega), l, show 68 * (i + 1) + j - 68 = 68 * i + j by omega]
    exact this
  | [], _, i, h, hi, _, _, _ => by simp at hi
theorem flatN_inv : ∀ {L : List RN}, (∀ h ∈ L, RnOk h) → ∀ {p : Nat} {u : Value}, (flatN L)[p]? = some u → ∃ i h j, p = 68 * i + j ∧ L[i]? = some h ∧ (rnC h)[j]? = some u
  | [], _, p, u, hp => by simp [flatN] at hp
  | x :: L, ok, p, u, hp => by
    have l := rn_len (ok x (by simp))
    rw [flatN, List.flatMap_cons, List.getElem?_append] at hp
    by_cases h : p < (rnC x).length
    · rw [if_pos h] at hp
      exact ⟨0, x, p, by omega, rfl, hp⟩
    · rw [if_neg h] at hp
      obtain ⟨i, y, j, e, hi, hj⟩ := flatN_inv (L := L) (fun h hh => ok h (by simp [hh])) hp
      exact ⟨i + 1, y, j, by omega, hi, hj⟩
theorem flatN_one (L : List RN) : ∀ u ∈ flatN L, u.oneCell' = true := by
  intro u hu
  simp only [flatN, List.mem_flatMap] at hu
  obtain ⟨h, _, hv⟩ := hu
  exact rn_one h u hv
theorem flatN_app (L M : List RN) : flatN (L ++ M) = flatN L ++ flatN M := by simp [flatN]
/-- A row of nodes of the call's own. -/
def OwnN (w : World) (base : Nat) (v : Value) (L : List RN) : Prop := w.ownsRow base 114 68 v L.length (flatN L)
theorem OwnN.below {w w' : World} {base : Nat} {v : Value} {L : List RN} (h : OwnN w base v L) (hb : Below w.heap.size w w') : OwnN w' base v L := by
  refine ⟨h.1, ?_⟩
  rcases h.2 with hn | ⟨g, cap, cur, rfl, hbg, hg, rest⟩
  · exact .inl hn
  · exact .inr ⟨g, cap, cur, rfl, hbg, by rw [hb.block g (Array.getElem?_eq_some_iff.1 hg).1]; exact hg, rest⟩
theorem OwnN.keep {w w' : World} {base : Nat} {v : Value} {L : List RN} (h : OwnN w base v L) (hk : ∀ k, v.ownBlock = some k → w'.heap[k]? = w.heap[k]?) : OwnN w' base v L := by
  refine ⟨h.1, ?_⟩
  rcases h.2 with hn | ⟨g, cap, cur, rfl, hbg, hg, rest⟩
  · exact .inl hn
  · exact .inr ⟨g, cap, cur, rfl, hbg, by rw [hk g rfl]; exact hg, rest⟩
theorem OwnN.open {w : World} {base : Nat} {v : Value} {L : List RN} (h : OwnN w base v L) (ok : ∀ h ∈ L, RnOk h) : ∃ a c, v = .slice a L.length c ∧ RnsAt w a L ∧ L.length ≤ c := by
  rcases h.2 with ⟨rfl, hn⟩ | ⟨g, cap, cur, rfl, hbg, hg, hnc, hcm, hcs, htake⟩
  · obtain rfl : L = [] := List.eq_nil_of_length_eq_zero hn
    exact ⟨none, 0, rfl, .inl rfl, Nat.le_refl _⟩
  · refine ⟨some ⟨g, 0, none⟩, cap, rfl, .inr ⟨g, 0, rfl, (Array.getElem?_eq_some_iff.1 hg).1, fun i x hx j u hj => ?_⟩, hnc⟩
    have e := flatN_get ok hx hj
    rw [Nat.zero_add, cell_of_row w g _ cur 114 (0, 0) hg]
    rw [← htake, List.getElem?_take] at e
    split at e
    · simpa using e
    · cases e
theorem infoN : (Try.prog.info? 114).map (fun i => (i.zero, i.size, i.bytes)) = some (some (.agg (rnC zRn).toArray), 68, 104) := by kernel_rfl
theorem zcellsN : (Value.agg (rnC zRn).toArray).cells.size = 68 := by
  show (rnC zRn).toArray.size = 68
  rw [List.size_toArray, rn_len zRn_ok]
theorem run_appN (w : World) (base : Nat) (v : Value) (L : List RN) (a : Option Addr) (M : List RN) (c : Nat) (hown : OwnN w base v L) (hb : RnsAt w a M) (ok : ∀ h ∈ M, RnOk h) (h : L.length + M.length ≤ 2000000000000) (hbase : base ≤ w.heap.size) :
    ∃ v' w', (Builtin.append_ #[83, 83] 83 #[v, .slice a M.length c]).run Try.prog w = .ok v' w' ∧ OwnN w' base v' (L ++ M) ∧ w.grownBy w' v.ownBlock ∧ (v'.ownBlock = v.ownBlock ∨ v'.ownBlock = some w.heap.size) := by
  obtain ⟨i, hi, hz, hs, hby⟩ := info_parts infoN
  cases a with
  | some ad =>
    have hnews : ∀ j u, (flatN M)[j]? = some u → w.cell? (ad.add j) = some u := fun j u hj => by
      rcases hb with rfl | ⟨b, off, e, _, hc⟩
      · simp [flatN] at hj
      · cases e
        obtain ⟨k, x, r, rfl, hx, hr⟩ := flatN_inv ok hj
        rw [Addr.add_mid, ← Nat.add_assoc]
        exact hc k x hx r u hr
    obtain ⟨v', w', hr, h2, h3, h5⟩ := app_at (P := Try.prog) w base 83 83 114 i _ 68 104 Try.underlying83 hi hz hs hby zcellsN (by decide) v L.length (flatN L) hown ad M.length c (flatN M) (by rw [flatN_len ok, Nat.mul_comm]) hnews (flatN_one M) (by unfold maxLen; omega) (by omega) hbase
    refine ⟨v', w', hr, ?_, h3, h5⟩
    unfold OwnN
    rw [List.length_append, flatN_app]
    exact h2
  | none =>
    obtain rfl : M = [] := by
      rcases hb with rfl | ⟨b, off, e, _⟩
      · rfl
      · cases e
    rcases hown.2 with ⟨rfl, hn⟩ | ⟨g, cap, cur, rfl, hbg, hg, hnc, rest⟩
    · refine ⟨.slice none 0 0, w, ?_, by rw [List.append_nil]; exact hown, ⟨rfl, rfl, rfl, Nat.le_refl _, fun _ _ _ => rfl⟩, .inl rfl⟩
      simp [Builtin.append_, run_underlying Try.underlying83, sizeOf, typeInfo, hi, Builtin.lenOf, Builtin.firstCells, loadCells, loadCellsFrom]
    · refine ⟨.slice (some ⟨g, 0, none⟩) L.length cap, w, ?_, by rw [List.append_nil]; exact hown, ⟨rfl, rfl, rfl, Nat.le_refl _, fun _ _ _ => rfl⟩, .inl rfl⟩
      simp [Builtin.append_, run_underlying Try.underlying83, sizeOf, typeInfo, hi, Builtin.lenOf, Builtin.firstCells, hnc, storeCells]
theorem rns_lit (w : World) (h : RN) (t : TypeId) : RnsAt (w.alloc (.cells (rnC h).toArray t)) (some ⟨w.heap.size, 0, none⟩) [h] :=
  .inr ⟨w.heap.size, 0, rfl, by simp, fun i x hx j v hj => by
    have hl := (List.getElem?_eq_some_iff.1 hx).1
    obtain rfl : i = 0 := by simp at hl; omega
    simp at hx
    subst hx
    rw [Nat.mul_zero, Nat.add_zero, Nat.zero_add]
    exact cell_new w (rnC h) t j v hj⟩
theorem run_bsN (h : RN) (ok : RnOk h) (w : World) : (Instr.buildSlice 83 1 #[(0, .agg (rnC h).toArray)]).run Try.prog w = .ok (.slice (some ⟨w.heap.size, 0, none⟩) 1 1) (w.alloc (.cells (rnC h).toArray 114)) := by
  obtain ⟨ie, hi, hz, hs, hby⟩ := info_parts infoN
  refine run_buildSlice w 83 114 1 _ (rnC h).toArray ie _ Try.underlying83 hi hz (by rw [hs]; decide) (by rw [hs]; decide) ?_
  rw [hs]
  have := Go.Great.fill_whole (s := 68) (by decide) [.agg (rnC h).toArray] ((Array.range (1 * 68)).map ((Value.agg (rnC zRn).toArray).cells[· % (Value.agg (rnC zRn).toArray).cells.size]!)) (by intro v hv; simp at hv; subst hv; show (rnC h).toArray.size = 68; rw [List.size_toArray, rn_len ok]) (by simp)
  simpa [Value.cells] using this
section
variable {ops : Array Oper} {rest : List Oper} {o : Oper} {a : Act} {w : World} {Q : Exit → Act → World → Prop} {K : Act → World → Prop} {E : Prop}
theorem wpList_bsN (hg : o.guard = none) (x : Operand) (ho : o.op = .buildSlice 83 1 #[(0, x)]) (h : RN) (ok : RnOk h) (hx : a.eval x = .agg (rnC h).toArray)
    (hK : wpList Try.prog ops Q rest (a.put o.dst (.slice (some ⟨w.heap.size, 0, none⟩) 1 1)) (w.alloc (.cells (rnC h).toArray 114))) : wpList Try.prog ops Q (o :: rest) a w :=
  wpList_plain hg fun _ hK' => by
    unfold Oper.wp
    rw [exec_buildSlice ho hx (run_bsN h ok w)]
    exact hK' _ _ hK
theorem wpList_appN (hg : o.guard = none) (s x : Operand) (ho : o.op = .call { callee := .builtin .append, args := #[s, x], argTypes := #[83, 83] }) (ht : o.type = 83) (base : Nat) (v : Value) (L : List RN) (hs : a.eval s = v) (hown : OwnN w base v L)
    (aa : Option Addr) (m c : Nat) (M : List RN) (hx : a.eval x = .slice aa m c) (hm : M.length = m) (hb : RnsAt w aa M) (ok : ∀ h ∈ M, RnOk h) (hlen : L.length + M.length ≤ 2000000000000) (hbase : base ≤ w.heap.size)
    (h : ∀ v' w', OwnN w' base v' (L ++ M) → w.grownBy w' v.ownBlock → (v'.ownBlock = v.ownBlock ∨ v'.ownBlock = some w.heap.size) → wpList Try.prog ops Q rest (a.put o.dst v') w') : wpList Try.prog ops Q (o :: rest) a w :=
  wpList_plain hg fun _ hK' => by
    subst hm
    obtain ⟨v', w', hr, h2, h3, h4⟩ := run_appN w base v L aa M c hown hb ok hlen hbase
    unfold Oper.wp
    rw [exec_append ho hs hx (by rw [ht]; exact hr)]
    exact hK' _ _ (h v' w' h2 h3 h4)
theorem step_appN (hg : o.guard = none) (s x : Operand) (ho : o.op = .call { callee := .builtin .append, args := #[s, x], argTypes := #[83, 83] }) (ht : o.type = 83) (base : Nat) (v : Value) (L : List RN) (hs : a.eval s = v) (hown : OwnN w base v L)
    (aa : Option Addr) (m c : Nat) (M : List RN) (hx : a.eval x = .slice aa m c) (hm : M.length = m) (hb : RnsAt w aa M) (ok : ∀ h ∈ M, RnOk h) (hlen : L.length + M.length ≤ 2000000000000) (hbase : base ≤ w.heap.size)
    (h : ∀ v' w', OwnN w' base v' (L ++ M) → w.grownBy w' v.ownBlock → (v'.ownBlock = v.ownBlock ∨ v'.ownBlock = some w.heap.size) → K (a.put o.dst v') w') : if Region.wanted o (yielded ops a.tmps) = true then Oper.wp Try.prog o a w K Q else E := by
  subst hm
  obtain ⟨v', w', hr, h2, h3, h4⟩ := run_appN w base v L aa M c hown hb ok hlen hbase
  exact step_run hg (exec_append ho hs hx (by rw [ht]; exact hr)) (h v' w' h2 h3 h4)
end
theorem szRn : (Try.prog.info? 114).map (·.size) = some 68 := by kernel_rfl
theorem OwnN.ge {w : World} {base : Nat} {v : Value} {L : List RN} (h : OwnN w base v L) : ∀ j, v.ownBlock = some j → base ≤ j ∧ ∃ c, w.heap[j]? = some (.cells c 114 (0, 0)) := by
  intro j hj
  rcases h.2 with ⟨rfl, hn⟩ | ⟨g, cap, cur, rfl, hbg, hg, rest⟩
  · cases hj
  · obtain rfl : g = j := by simpa [Value.ownBlock] using hj
    exact ⟨hbg, _, hg⟩
theorem flatN_cons (x : RN) (L : List RN) : flatN (x :: L) = rnC x ++ flatN L := rfl
/-- A row with another Id at one place. -/
theorem own_setN {w : World} {base : Nat} {v : Value} {L : List RN} (own : OwnN w base v L) (ok : ∀ x ∈ L, RnOk x) {i : Nat} (hi : i < L.length) {x : RN} (hx : RnOk x) :
    ∃ g cap, v = .slice (some ⟨g, 0, none⟩) L.length cap ∧ g < w.heap.size ∧ ∃ w', (Instr.storeAt 114 (.pointer (some ⟨g, i * 68, none⟩)) (.agg (rnC x).toArray)).run Try.prog w = .ok () w' ∧ OwnN w' base v (L.set i x) ∧ Tch (fun j => v.ownBlock = some j) w w' ∧ w'.heap.size = w.heap.size := by
  rcases own.2 with ⟨rfl, hn⟩ | ⟨g, cap, cur, rfl, hbg, hg, hnc, hcm, hcs, htake⟩
  · omega
  · rw [Nat.mul_comm i 68]
    refine ⟨g, cap, rfl, (Array.getElem?_eq_some_iff.1 hg).1, w.setRow g (cur.toList.take (68 * i) ++ rnC x ++ cur.toList.drop (68 * i + (rnC x).length)).toArray, ?_, ?_, setRow_tch w g _, by simp [World.setRow]⟩
    · have hlen := rn_len hx
      have hb : 68 * i + 68 ≤ cur.size := by rw [hcs]; omega
      have h := run_storeCells_at Try.prog g (68 * i) 114 (rnC x) 0 cur w hg (by rw [hlen]; omega) (fun v hv => rn_one x v hv)
      rw [Nat.add_zero] at h
      have hs := szRn
      cases hq : Try.prog.info? 114 with
      | none => rw [hq] at hs; simp at hs
      | some ii =>
        rw [hq] at hs
        simp at hs
        have hcz : (rnC x).toArray.size = ii.size := by simp [hlen, hs]
        simp only [Instr.storeAt, Instr.sureAddr, Sem.run_bind, Sem.run_pure, Result.andThen_ok, storeVar, sizeOf, typeInfo, hq, Value.cells]
        simp [typeInfo, hq, hlen, hs, h]
    · have hA : ∃ A y B, L = A ++ y :: B ∧ A.length = i := ⟨L.take i, L[i], L.drop (i + 1), by rw [← List.drop_eq_getElem_cons hi, List.take_append_drop], by simp; omega⟩
      obtain ⟨A, y, B, rfl, hA⟩ := hA
      have okA : ∀ x ∈ A, RnOk x := fun x hx => ok x (by simp [hx])
      have okB : ∀ x ∈ B, RnOk x := fun x hx => ok x (by simp [hx])
      have oky : RnOk y := ok y (by simp)
      have hset : (A ++ y :: B).set i x = A ++ x :: B := by rw [← hA, List.set_append_right _ _ (Nat.le_refl _)]; simp
      rw [hset]
      have hfl : flatN (A ++ x :: B) = flatN A ++ rnC x ++ flatN B := by rw [flatN_app, flatN_cons]; simp
      have hfl' : flatN (A ++ y :: B) = flatN A ++ rnC y ++ flatN B := by rw [flatN_app, flatN_cons]; simp
      rw [hfl'] at htake
      have hlA := flatN_len okA
      have hlB := flatN_len okB
      have l1 := rn_len oky
      have l2 := rn_len hx
      have hlenx : (A ++ x :: B).length = (A ++ y :: B).length := by simp
      refine ⟨?_, Or.inr ⟨g, cap, _, by rw [hlenx], hbg, setRow_heap w g cur _ 114 (0, 0) hg, by rw [hlenx]; exact hnc, hcm, ?_, ?_⟩⟩
      · rw [hfl]; simp only [List.length_append, List.length_cons]; omega
      · rw [← hcs]
        simp only [List.length_append, List.length_cons] at hnc
        have : cur.toList.length = cur.size := by simp
        simp only [List.size_toArray, List.length_append, List.length_take, List.length_drop]
        omega
      · rw [List.toList_toArray, hfl, hlenx]
        refine take_seg htake ?_ (by omega) (by omega)
        simp only [List.length_append, List.length_cons]
        omega
end Go.Proofs.Ytoofljkgdjjllaa

namespace Go.Proofs.Ytoofljkgdjjllaa
open Go.RowKit
set_option linter.unusedVariables false
set_option linter.unusedSimpArgs false

set_option maxHeartbeats 1000000 in
/-- The reference's Compare. -/
theorem rcmp_any (a b : List UInt8) (ha : a.length = 32) (hb : b.length = 32) (w : World) :
    Calls Try.prog 93 #[.agg (bs a), .agg (bs b)] w fun e w' => e = .returned (.int .i64 (cmpL a b)) ∧ Below w.heap.size w w' := by
  have be0 : Below w.heap.size w ((w.alloc (.cells (bs a) 35)).alloc (.cells (bs b) 35)) := ((Below.refl _ _).alloc (Nat.le_refl _) _).alloc (by simp) _
  have g0 : ((w.alloc (.cells (bs a) 35)).alloc (.cells (bs b) 35)).heap[w.heap.size]? = some (.cells (bs a) 35 (0, 0)) := heap_alloc2_old _ _ _
  have g1 : ((w.alloc (.cells (bs a) 35)).alloc (.cells (bs b) 35)).heap[w.heap.size + 1]? = some (.cells (bs b) 35 (0, 0)) := heap_alloc2_new _ _ _
  go_enter Try.func93, Try.ntmps93
  go_wp2
  generalize ((w.alloc (.cells (bs a) 35)).alloc (.cells (bs b) 35)) = W0 at *
  go_loopw [5] (fun i wr => ∃ k : Nat, k ≤ 32 ∧ i = .int .i64 k ∧ Hid (∀ j, j < k → at8 a j = at8 b j) ∧ ∃ m, wr = W0.drewN m) (fun i _ => 32 - (intOf i).toNat)
  case atStart => exact ⟨0, by omega, rfl, (fun j hj => by omega : ∀ j, j < 0 → at8 a j = at8 b j), 0, rfl⟩
  case round =>
    obtain ⟨k, hk, rfl, hsame, m, rfl⟩ := hrel
    by_cases hlt : k < 32
    · have ca := (cell_of_row W0 w.heap.size k _ _ _ g0).trans (bs_get a k (by omega))
      have cb := (cell_of_row W0 (w.heap.size + 1) k _ _ _ g1).trans (bs_get b k (by omega))
      have HL := cmpL_at a b k (by omega) (by omega) hsame.out
      have HL1 : Hid ((at8 a k < at8 b k → cmpL a b = -1) ∧ (at8 b k < at8 a k → cmpL a b = 1)) := HL
      clear HL
      have hlt' : (k : Int) < 32 := by omega
      by_cases h1 : at8 a k < at8 b k
      · go_wp2
        go_quiet (fail)
        go_wp2
        go_ret
        exact ⟨ret_int (HL1.out.1 h1).symm, below_drewN (below_drewN be0 _) _⟩
      · by_cases h2 : at8 b k < at8 a k
        · go_wp2
          go_quiet (fail)
          go_wp2
          go_quiet (fail)
          go_wp2
          go_ret
          exact ⟨ret_int (HL1.out.2 h2).symm, below_drewN (below_drewN (below_drewN be0 _) _) _⟩
        · go_wp2
          go_quiet (fail)
          go_wp2
          go_quiet (fail)
          go_wp2
          refine ⟨⟨k + 1, by omega, by go_num, ?_, _, rfl⟩, by simp [intOf]; omega⟩
          show ∀ j, j < k + 1 → at8 a j = at8 b j
          intro j hj
          by_cases e : j = k
          · subst e; omega
          · exact hsame.out j (by omega)
    · have hk2 : k = 32 := by omega
      subst hk2
      have HE : Hid (cmpL a b = 0) := by
        show cmpL a b = 0
        rw [at8_ext 32 ha hb hsame.out]
        exact cmpL_same b
      go_wp2
      go_ret
      exact ⟨ret_int HE.out.symm, below_drewN be0 _⟩

/-! ### A hash put in its place -/
theorem lt_cId (x y : IdK) : (cId x y < 0) ↔ (cmpL x.h y.h < 0 ∨ cmpL x.h y.h = 0 ∧ x.n < y.n) := by
  unfold cId or2 cI
  split
  · next h => rw [h]; split
              · simp_all
              · split <;> simp_all
  · next h => simp [h]
set_option maxRecDepth 100000 in
set_option maxHeartbeats 2000000 in
theorem lower_any (x y : IdK) (w : World) (hx : x.ok) (hy : y.ok) : Calls Try.prog 87 #[x.v, y.v] w fun e w' => e = .returned (.bool (decide (cId x y < 0))) ∧ Below w.heap.size w w' := by
  have HC := hidMk (fun W => rcmp_any x.h y.h hx.l hy.l W)
  have hd : decide (cId x y < 0) = decide (cmpL x.h y.h < 0 ∨ cmpL x.h y.h = 0 ∧ x.n < y.n) := by rw [decide_eq_decide]; exact lt_cId x y
  rw [hd]
  clear hd
  obtain ⟨c, hc⟩ : ∃ c, cmpL x.h y.h = c := ⟨_, rfl⟩
  rw [hc] at HC
  rw [hc]
  clear hc
  unfold IdK.v
  go_enter Try.func87, Try.ntmps87
  go_upto_region 1 with fail
  obtain ⟨hxb, hyb, bx, zx⟩ := two_boxes w x y
  have ZX := hidMk zx
  clear zx
  generalize (w.alloc (.cells x.c.toArray 37)).alloc (.cells y.c.toArray 37) = W at *
  have z1 : w.heap.size + 2 ≤ W.heap.size := Nat.le_of_eq ZX.out.symm
  have n1 := cell_n hx hxb
  have n2 := cell_n hy hyb
  go_upto_region 2 with (first
    | (refine wpList_val rfl (exec_load (t := 35) (u := .pointer (some ⟨w.heap.size, 0, none⟩)) rfl rfl (load_hash hx hxb)) ?_)
    | (refine wpList_val rfl (exec_load (t := 35) (u := .pointer (some ⟨w.heap.size + 1, 0, none⟩)) rfl rfl (load_hash hy hyb)) ?_)
    | (go_at_call 93; refine (HC.out _).mono ?_; rintro e w1 ⟨rfl, b1⟩; replace n1 := (b1.cell (by show w.heap.size < _; omega)).trans n1; replace n2 := (b1.cell (by show w.heap.size + 1 < _; omega)).trans n2; replace bx : Below w.heap.size w w1 := bx.trans (b1.mono (by omega)); clear b1)
    | fail)
  by_cases h1 : c < 0
  · have hd : decide (c < 0) = true := decide_eq_true h1
    have HQ := hidMk (show decide (c < 0 ∨ c = 0 ∧ x.n < y.n) = true from decide_eq_true (Or.inl h1))
    go_wp2
    go_ret
    exact ⟨by rw [HQ.out]; rfl, bx⟩
  · by_cases h2 : c = 0
    · subst h2
      clear h1
      have HQ := hidMk (show decide ((0 : Int) < 0 ∨ (0 : Int) = 0 ∧ x.n < y.n) = decide (x.n < y.n) by simp)
      go_wp2
      go_ret
      exact ⟨by first | rfl | (rw [HQ.out]; rfl) | simp, bx⟩
    · have hd : decide (c < 0) = false := decide_eq_false h1
      have he : (c == 0) = false := by simpa using h2
      have HQ := hidMk (show decide (c < 0 ∨ c = 0 ∧ x.n < y.n) = false from decide_eq_false (fun q => q.elim h1 (fun r => h2 r.1)))
      clear h1 h2
      go_wp2
      go_ret
      exact ⟨by rw [HQ.out]; rfl, bx⟩
theorem lt_cKid (x y : KidV) : (cKid x y < 0) ↔ (Op.bytesLess x.key.toList y.key.toList = true ∨ x.key.toList = y.key.toList ∧ cId x.id y.id < 0) := by
  unfold cKid or2
  rcases cS_val x.key y.key with ⟨p, e⟩ | ⟨p, e⟩ | ⟨p, e⟩
  · rw [e]; simp [p]
  · rw [e]
    have : Op.bytesLess x.key.toList y.key.toList = false := by rw [p]; exact bl_irrefl _
    simp [this, p, bl_irrefl]
  · rw [e]
    have h1 := bl_asymm p
    have h2 : x.key.toList ≠ y.key.toList := fun q => by rw [q, bl_irrefl] at p; cases p
    simp [h1, h2]
/-- A node of the document's, as a kid. -/
def kOf (p : RN) : KidV := ⟨p.1, p.2.key⟩
def RnAt (w : World) (b : Nat) (p : RN) : Prop := w.heap[b]? = some (.cells (rnC p).toArray 114 (0, 0))
theorem two_rns (w : World) (k u : RN) : RnAt ((w.alloc (.cells (rnC k).toArray 114)).alloc (.cells (rnC u).toArray 114)) w.heap.size k ∧ RnAt ((w.alloc (.cells (rnC k).toArray 114)).alloc (.cells (rnC u).toArray 114)) (w.heap.size + 1) u ∧
    Below w.heap.size w ((w.alloc (.cells (rnC k).toArray 114)).alloc (.cells (rnC u).toArray 114)) ∧ ((w.alloc (.cells (rnC k).toArray 114)).alloc (.cells (rnC u).toArray 114)).heap.size = w.heap.size + 2 := by
  have z : (w.alloc (.cells (rnC k).toArray 114)).heap.size = w.heap.size + 1 := by simp
  refine ⟨?_, ?_, ((Below.refl _ _).alloc (Nat.le_refl _) _).alloc (by simp) _, by simp⟩
  · unfold RnAt
    rw [Below.heap_alloc _ _ _ (by rw [z]; omega)]
    exact heap_alloc_new _ _
  · have := heap_alloc_new (w.alloc (.cells (rnC k).toArray 114)) (.cells (rnC u).toArray 114)
    rw [z] at this
    exact this
theorem RnAt.range {w : World} {b : Nat} {p : RN} (h : RnAt w b p) : w.rangeAt b 0 (rnC p) := cells_range h
theorem rn_idc {w : World} {b : Nat} {p : RN} (hp : RnOk p) (h : RnAt w b p) : (Instr.loadAt 37 (.pointer (some ⟨b, 0, none⟩))).run Try.prog w = .ok p.1.v w := by
  have := rn_id hp h.range
  simpa using this
theorem rn_keyc {w : World} {b : Nat} {p : RN} (hp : RnOk p) (h : RnAt w b p) : w.cell? ⟨b, 66, none⟩ = some (.string p.2.key) := by
  have l1 := IdK.len hp.k
  have l2 := IdK.len hp.u
  have := h.range 66 (.string p.2.key) (by
    rw [rnC, List.getElem?_append_right (by omega), l1, List.getElem?_append_right (by omega), l2]
    rfl)
  simpa using this
set_option maxRecDepth 100000 in
set_option maxHeartbeats 2000000 in
theorem ahead_any (x y : RN) (w : World) (hx : RnOk x) (hy : RnOk y) : Calls Try.prog 78 #[.agg (rnC x).toArray, .agg (rnC y).toArray] w fun e w' => e = .returned (.bool (decide (cKid (kOf x) (kOf y) < 0))) ∧ Below w.heap.size w w' := by
  have HC := hidMk (fun W => lower_any x.1 y.1 W hx.k hy.k)
  have hd := lt_cKid (kOf x) (kOf y)
  have HD := hidMk hd
  clear hd
  go_enter Try.func78, Try.ntmps78
  go_upto_region 1 with fail
  obtain ⟨hxb, hyb, bx, zx⟩ := two_rns w x y
  have ZX := hidMk zx
  clear zx
  generalize (w.alloc (.cells (rnC x).toArray 114)).alloc (.cells (rnC y).toArray 114) = W at *
  have n1 := rn_keyc hx hxb
  have n2 := rn_keyc hy hyb
  have L1 := hidMk (rn_idc hx hxb)
  have L2 := hidMk (rn_idc hy hyb)
  obtain ⟨kx, hkx⟩ : ∃ kx, x.2.key = kx := ⟨_, rfl⟩
  obtain ⟨ky, hky⟩ : ∃ ky, y.2.key = ky := ⟨_, rfl⟩
  rw [hkx] at n1
  rw [hky] at n2
  have HK := hidMk (And.intro hkx hky)
  clear hkx hky hxb hyb
  have hv : cKid (kOf x) (kOf y) < 0 ↔ (Op.bytesLess kx.toList ky.toList = true ∨ kx.toList = ky.toList ∧ cId x.1 y.1 < 0) := by rw [← HK.out.1, ← HK.out.2]; exact HD.out
  have HV := hidMk hv
  clear hv
  cases h1 : Op.bytesLess kx.toList ky.toList with
  | true =>
    have HQ := hidMk (show decide (cKid (kOf x) (kOf y) < 0) = true from decide_eq_true (HV.out.2 (Or.inl h1)))
    go_wp2
    go_ret
    exact ⟨by rw [HQ.out]; rfl, bx⟩
  | false =>
    cases h2 : (kx.toList == ky.toList) with
    | true =>
      have e2 : kx.toList = ky.toList := by simpa using h2
      have HQ := hidMk (show decide (cKid (kOf x) (kOf y) < 0) = decide (cId x.1 y.1 < 0) by rw [decide_eq_decide, HV.out, h1]; simp [e2])
      clear e2
      go_wp2_with (first
        | (refine wpList_val rfl (exec_load (t := 37) (u := .pointer (some ⟨w.heap.size, 0, none⟩)) rfl rfl L1.out) ?_)
        | (refine wpList_val rfl (exec_load (t := 37) (u := .pointer (some ⟨w.heap.size + 1, 0, none⟩)) rfl rfl L2.out) ?_)
        | (go_at_call 87; refine (HC.out _).mono ?_; rintro e w1 ⟨rfl, b1⟩)
        | fail)
      go_ret
      exact ⟨by rw [HQ.out]; rfl, bx.trans (b1.mono bx.size)⟩
    | false =>
      have e2 : ¬ kx.toList = ky.toList := by simpa using h2
      have HQ := hidMk (show decide (cKid (kOf x) (kOf y) < 0) = false from decide_eq_false (by rw [HV.out, h1]; simp [e2]))
      clear e2
      go_wp2
      go_ret
      exact ⟨by rw [HQ.out]; rfl, bx⟩
end Go.Proofs.Ytoofljkgdjjllaa

